/-
  A list of intervals that came in, opened. No conditions.
-/
import Derived.Test.YtjfhhlbgiepkpaaDoorLift
import Derived.Test.YtjfhhlbgiepkpaaDoorStrL
namespace Go.Proofs.YtjfhhlbgiepkpaaDoor
open Go Go.ChangeShapes Go.WideShapes Go.ChangeAt Go.RowKit Go.Joins Go.Deep

section
variable {H : Type} {enc : TypeId × Value → H} {P : Program} {w : World} {base : Nat} {spare : Nat → Bool} {held : Bool}
def getIv (w : World) (b off i : Nat) : Int × Int :=
  (match w.cell? ⟨b, off + i * 2, none⟩ with | some (.int _ p) => p | _ => 0, match w.cell? ⟨b, off + i * 2 + 1, none⟩ with | some (.int _ p) => p | _ => 0)
theorem cell_lt' {w : World} {p : Addr} {v : Value} (h : w.cell? p = some v) : p.block < w.heap.size := by
  rcases Nat.lt_or_ge p.block w.heap.size with h1 | h1
  · exact h1
  · simp [World.cell?, Array.getElem?_eq_none h1] at h
theorem spot_none {w : World} {a : Addr} {v : Value} (h : w.cell? a = some v) : a.spot = none := by
  unfold World.cell? at h
  split at h
  · split at h
    · cases h
    · rename_i hs; simpa using hs
  · cases h
theorem open_ivs {t e : TypeId} {f0 f1 : Field} {fuel : Nat} {cs : List Value} {x : DataW H × List MemPlace} (ht : P.underlying t = some (.slice e)) (he : P.underlying e = some (.struct #[f0, f1])) (hone : oneCellFields P #[f0, f1] = true) (hC : P.cellsOf e = 2)
    (h0 : P.underlying f0.type = some (.int .i8)) (h1 : P.underlying f1.type = some (.int .i8)) (h : DataW.trod enc P w base spare held fuel t cs = some x) :
    ∃ (A : Option Addr) (n cap : Nat) (f : Nat → Int × Int), cs = [.slice A n cap] ∧ n ≤ maxLen ∧ RdA w A n f := by
  rcases open_slice ht h with ⟨rfl, _⟩ | ⟨a, len, cap, m, n, D, Pl, hcs, hb, hl, hm, hmm, hx, hi⟩
  · exact ⟨none, 0, 0, fun _ => (0, 0), rfl, by decide, fun h => by omega⟩
  · refine ⟨some a, len, cap, getIv w a.block a.off, hcs, by omega, fun hn => ?_⟩
    have hml : len ≤ m := by rw [hmm]; split <;> omega
    have each : ∀ i, i < len → ∃ p q : Int, w.cell? (a.add (i * 2)) = some (.int .i8 p) ∧ w.cell? ((a.add (i * 2)).add 1) = some (.int .i8 q) := fun i hil => by
      obtain ⟨cs', hc, ht'⟩ := hi i (by omega)
      rw [hC] at hc
      obtain ⟨_, hcl, hat⟩ := World.cells?_some hc
      obtain ⟨ys, n', hn', hy, hlen, hyl, hf⟩ := DataW.trod_struct he ht'
      obtain ⟨o0, k0⟩ := hone_of hone 0 f0 rfl
      obtain ⟨o1, k1⟩ := hone_of hone 1 f1 rfl
      have e0 := hf 0 f0 rfl
      have e1 := hf 1 f1 rfl
      rw [o0, k0] at e0
      rw [o1, k1] at e1
      match cs', hcl with
      | [u0, u1], _ =>
        simp only [List.drop_zero, List.drop_succ_cons, List.take_succ_cons, List.take_zero] at e0 e1
        have hy0 : ys[0]? = some (ys[0]'(by simp at hyl; omega)) := List.getElem?_eq_getElem _
        have hy1 : ys[1]? = some (ys[1]'(by simp at hyl; omega)) := List.getElem?_eq_getElem _
        rw [hy0] at e0
        rw [hy1] at e1
        obtain ⟨p, hp, _, _⟩ := DataW.trod_int h0 e0
        obtain ⟨q, hq, _, _⟩ := DataW.trod_int h1 e1
        simp only [List.cons.injEq, and_true] at hp hq
        subst hp hq
        have c0 := hat 0 (by decide)
        have c1 := hat 1 (by decide)
        exact ⟨p, q, by simpa [Addr.add] using c0, by simpa using c1⟩
    obtain ⟨p0, _, hp0, _⟩ := each 0 hn
    have hs := spot_none hp0
    have ha : a = ⟨a.block, a.off, none⟩ := by
      obtain ⟨bb, oo, ss⟩ := a
      have : ss = none := by simpa [Addr.add] using hs
      rw [this]
    have hlt : a.block < w.heap.size := by
      have := cell_lt' hp0
      simpa [Addr.add] using this
    have spell : ∀ i, a.add (i * 2) = ⟨a.block, a.off + i * 2, none⟩ ∧ (a.add (i * 2)).add 1 = ⟨a.block, a.off + i * 2 + 1, none⟩ := fun i => by
      have e : a.add (i * 2) = ⟨a.block, a.off + i * 2, none⟩ := by
        unfold Addr.add
        split
        · rename_i hz; rw [hz]; exact ha
        · rfl
      exact ⟨e, by rw [e]; rfl⟩
    refine ⟨a.block, a.off, congrArg some ha, hlt, fun i hil => ?_⟩
    obtain ⟨p, q, hp, hq⟩ := each i hil
    rw [(spell i).1] at hp
    rw [(spell i).2] at hq
    rw [hp, hq]
    unfold getIv
    rw [hp, hq]
    exact ⟨rfl, rfl⟩
end
end Go.Proofs.YtjfhhlbgiepkpaaDoor
