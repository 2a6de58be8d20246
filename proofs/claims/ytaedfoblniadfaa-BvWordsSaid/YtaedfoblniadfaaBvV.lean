/-
  A slice of Booleans that came in, opened: it reads as the bits of a number. No conditions.
-/
import Derived.Test.YtaedfoblniadfaaLift
import Derived.Test.YtaedfoblniadfaaBvH
namespace Go.Proofs.Ytaedfoblniadfaa
open Go Go.ChangeShapes Go.WideShapes Go.ChangeAt Go.RowKit Go.Joins Go.Deep

theorem u8_bd {a : Int} (h : (Lit.int .u8 a).wf = true) : 0 ≤ a ∧ a ≤ 255 := by simp [Lit.wf, IntKind.min, IntKind.max, IntKind.signed, IntKind.bits] at h; omega
theorem i64_bd {a : Int} (h : (Lit.int .i64 a).wf = true) : -9223372036854775808 ≤ a ∧ a ≤ 9223372036854775807 := by simp [Lit.wf, IntKind.min, IntKind.max, IntKind.signed, IntKind.bits] at h; omega
section
variable {H : Type} {enc : TypeId × Value → H} {P : Program} {w : World} {base : Nat} {spare : Nat → Bool} {held : Bool}
def getB (w : World) (b off i : Nat) : Bool := match w.cell? ⟨b, off + i, none⟩ with | some (.bool p) => p | _ => false
theorem cell_lt' {w : World} {p : Addr} {v : Value} (h : w.cell? p = some v) : p.block < w.heap.size := by
  rcases Nat.lt_or_ge p.block w.heap.size with h1 | h1
  · exact h1
  · simp [World.cell?, Array.getElem?_eq_none h1] at h
theorem spot_none {w : World} {a : Addr} {v : Value} (h : w.cell? a = some v) : a.spot = none := by
  unfold World.cell? at h
  split at h
  · split at h
    · cases h
    · rename_i hs; simpa using hs
  · cases h
theorem open_bools {t e : TypeId} {fuel : Nat} {cs : List Value} {x : DataW H × List MemPlace} (ht : P.underlying t = some (.slice e)) (he : P.underlying e = some .bool) (hC : P.cellsOf e = 1)
    (h : DataW.trod enc P w base spare held fuel t cs = some x) :
    ∃ (A : Option Addr) (n cap y : Nat), cs = [.slice A n cap] ∧ n ≤ cap ∧ cap ≤ maxLen ∧ Rd w A n y := by
  rcases open_slice ht h with ⟨rfl, _⟩ | ⟨a, len, cap, m, n, D, Pl, hcs, hb, hl, hm, hmm, hx, hi⟩
  · exact ⟨none, 0, 0, 0, rfl, Nat.le_refl _, by decide, Rd.nil w⟩
  · refine ⟨some a, len, cap, mkn len (getB w a.block a.off), hcs, hl, hm, mkn_lt _ _, fun hn => ?_⟩
    have hml : len ≤ m := by rw [hmm]; split <;> omega
    have each : ∀ i, i < len → ∃ p : Bool, w.cell? (a.add (i * 1)) = some (.bool p) := fun i hil => by
      obtain ⟨cs', hc, ht'⟩ := hi i (by omega)
      rw [hC] at hc
      obtain ⟨_, hcl, hat⟩ := World.cells?_some hc
      obtain ⟨p, rfl, _⟩ := DataW.trod_bool he ht'
      have c0 := hat 0 (by decide)
      exact ⟨p, by simpa [Addr.add] using c0⟩
    obtain ⟨p0, hp0⟩ := each 0 hn
    have hs := spot_none hp0
    have ha : a = ⟨a.block, a.off, none⟩ := by
      obtain ⟨bb, oo, ss⟩ := a
      have : ss = none := by simpa [Addr.add] using hs
      rw [this]
    have hlt : a.block < w.heap.size := by
      have := cell_lt' hp0
      simpa [Addr.add] using this
    have spell : ∀ i, a.add (i * 1) = ⟨a.block, a.off + i, none⟩ := fun i => by
      rw [Nat.mul_one]
      unfold Addr.add
      split
      · rename_i hz; rw [hz]; exact ha
      · rfl
    refine ⟨a.block, a.off, congrArg some ha, hlt, fun i hil => ?_⟩
    obtain ⟨p, hp⟩ := each i hil
    rw [spell i] at hp
    rw [mkn_bit hil, hp]
    unfold getB
    rw [hp]
end
end Go.Proofs.Ytaedfoblniadfaa
