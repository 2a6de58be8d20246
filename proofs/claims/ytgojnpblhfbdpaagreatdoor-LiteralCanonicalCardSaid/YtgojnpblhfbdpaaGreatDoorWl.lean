/-
  A vector that came in, opened: its bits read as a list. No conditions.
-/
import Derived.Test.YtgojnpblhfbdpaaGreatDoorLift
import Derived.Test.YtgojnpblhfbdpaaGreatDoorQb
namespace Go.Proofs.YtgojnpblhfbdpaaGreatDoor
open Go Go.ChangeShapes Go.WideShapes Go.ChangeAt Go.RowKit Go.Joins Go.Deep

theorem i64_bd {a : Int} (h : (Lit.int .i64 a).wf = true) : -9223372036854775808 ≤ a ∧ a ≤ 9223372036854775807 := by simp [Lit.wf, IntKind.min, IntKind.max, IntKind.signed, IntKind.bits] at h; omega
theorem i32_bd {a : Int} (h : (Lit.int .i32 a).wf = true) : -2147483648 ≤ a ∧ a ≤ 2147483647 := by simp [Lit.wf, IntKind.min, IntKind.max, IntKind.signed, IntKind.bits] at h; omega
theorem u8_bd {a : Int} (h : (Lit.int .u8 a).wf = true) : 0 ≤ a ∧ a ≤ 255 := by simp [Lit.wf, IntKind.min, IntKind.max, IntKind.signed, IntKind.bits] at h; omega
section
variable {H : Type} {enc : TypeId × Value → H} {P : Program} {w : World} {base : Nat} {spare : Nat → Bool} {held : Bool}
def getU (w : World) (b off i : Nat) : Int := match w.cell? ⟨b, off + i, none⟩ with | some (.int _ p) => p | _ => 0
theorem cell_lt' {w : World} {p : Addr} {v : Value} (h : w.cell? p = some v) : p.block < w.heap.size := by
  rcases Nat.lt_or_ge p.block w.heap.size with h1 | h1
  · exact h1
  · simp [World.cell?, Array.getElem?_eq_none h1] at h
theorem spot_none {w : World} {a : Addr} {v : Value} (h : w.cell? a = some v) : a.spot = none := by
  unfold World.cell? at h
  split at h
  · split at h
    · cases h
    · rename_i hs; simpa using hs
  · cases h
theorem open_bits {t e : TypeId} {fuel : Nat} {cs : List Value} {x : DataW H × List MemPlace} (ht : P.underlying t = some (.slice e)) (he : P.underlying e = some (.int .u8)) (hC : P.cellsOf e = 1)
    (h : DataW.trod enc P w base spare held fuel t cs = some x) :
    ∃ (A : Option Addr) (n cap : Nat) (l : List Int), cs = [.slice A n cap] ∧ n ≤ cap ∧ cap ≤ maxLen ∧ Rb w A n l := by
  rcases open_slice ht h with ⟨rfl, _⟩ | ⟨a, len, cap, m, n, D, Pl, hcs, hb, hl, hm, hmm, hx, hi⟩
  · exact ⟨none, 0, 0, [], rfl, Nat.le_refl _, by decide, Rb.nil w⟩
  · have hml : len ≤ m := by rw [hmm]; split <;> omega
    have each : ∀ i, i < len → ∃ p : Int, w.cell? (a.add (i * 1)) = some (.int .u8 p) ∧ 0 ≤ p := fun i hil => by
      obtain ⟨cs', hc, ht'⟩ := hi i (by omega)
      rw [hC] at hc
      obtain ⟨_, hcl, hat⟩ := World.cells?_some hc
      obtain ⟨p, rfl, _, wf⟩ := DataW.trod_int he ht'
      have c0 := hat 0 (by decide)
      exact ⟨p, by simpa [Addr.add] using c0, u8_nn wf⟩
    have spell0 : 0 < len → a = ⟨a.block, a.off, none⟩ := fun hn => by
      obtain ⟨p0, hp0, _⟩ := each 0 hn
      have hs := spot_none hp0
      obtain ⟨bb, oo, ss⟩ := a
      have : ss = none := by simpa [Addr.add] using hs
      rw [this]
    have spell : ∀ i, 0 < len → a.add (i * 1) = ⟨a.block, a.off + i, none⟩ := fun i hn => by
      rw [Nat.mul_one]
      unfold Addr.add
      split
      · rename_i hz; rw [hz]; exact spell0 hn
      · rfl
    have read : ∀ i, i < len → w.cell? ⟨a.block, a.off + i, none⟩ = some (.int .u8 (getU w a.block a.off i)) ∧ 0 ≤ getU w a.block a.off i := fun i hil => by
      obtain ⟨p, hp, h0⟩ := each i hil
      rw [spell i (by omega)] at hp
      have e : getU w a.block a.off i = p := by unfold getU; rw [hp]
      rw [e]
      exact ⟨hp, h0⟩
    refine ⟨some a, len, cap, tab len (getU w a.block a.off), hcs, hl, hm, tab_len _ _, nnL_tab fun i hi => (read i hi).2, fun hn => ?_⟩
    obtain ⟨p0, hp0, _⟩ := each 0 hn
    have hlt : a.block < w.heap.size := by
      have := cell_lt' hp0
      simpa [Addr.add] using this
    refine ⟨a.block, a.off, congrArg some (spell0 hn), hlt, fun i hil => ?_⟩
    rw [nth_tab _ hil]
    exact (read i hil).1
theorem open_vec {r : Reach} {b0 : Nat} {t e : TypeId} {f0 f1 : Field} {v : Value} {d : DataW H} {p : List MemPlace} (hs : P.underlying t = some (.struct #[f0, f1])) (hone : oneCellFields P #[f0, f1] = true) (hC : P.cellsOf t = 2)
    (h0 : P.underlying f0.type = some (.slice e)) (he : P.underlying e = some (.int .u8)) (hE : P.cellsOf e = 1) (h1 : P.underlying f1.type = some .bool) (hv : Value.okWide P w r b0 t v) (h : DataW.Trod enc P w base spare held t v d p) :
    ∃ (A : Option Addr) (n cap : Nat) (s : Bool) (l : List Int), v = .agg #[.slice A n cap, .bool s] ∧ n ≤ cap ∧ n ≤ maxLen ∧ Rb w A n l := by
  obtain ⟨v0, v1, y0, y1, n, rfl, _, _, e0, e1⟩ := open_agg2 hs hone hC hv h
  obtain ⟨A, m, cap, l, ha, hm, hc, hr⟩ := open_bits h0 he hE e0
  obtain ⟨s, hb, _⟩ := DataW.trod_bool h1 e1
  simp only [List.cons.injEq, and_true] at ha hb
  subst ha hb
  exact ⟨A, m, cap, s, l, rfl, hm, by omega, hr⟩
end
end Go.Proofs.YtgojnpblhfbdpaaGreatDoor
