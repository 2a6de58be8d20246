/-
  Contracts of the reference's fit. Conditions: at most a million bits.
  Contracts of the reference's FromBools. Conditions: at most a thousand bits.
  Contracts of the reference's Bools. Conditions: at most a thousand bits.
  Contracts of the reference's Unknown, FromInt, Resize, Int. Conditions: at most a thousand bits.
  Contracts of the reference's Balance. Conditions: at most a million bits.
-/
import Derived.Test.YtognpmggfplekaaDoorQo
import Derived.Test.YtognpmggfplekaaDoorQg
import Derived.Test.YtognpmggfplekaaDoorQk

namespace Go.Proofs.YtognpmggfplekaaDoor
open Go Go.RowKit

set_option maxRecDepth 100000 in
theorem rdo_cell {B : Nat} {u : World} {b o n k : Nat} {l : List Int} (h : rdo B (some ⟨b, o, none⟩) n l u) (hk : k < n) : u.cell? ⟨b, o + k, none⟩ = some (.int .u8 (nth l k)) := by
  obtain ⟨b', o', e, _, hc⟩ := h.1.at_ hk
  have e1 := Option.some.inj e
  simp only [Addr.mk.injEq, and_true] at e1
  obtain ⟨rfl, rfl⟩ := e1
  exact hc
set_option maxRecDepth 100000 in
theorem ext_in {l : List Int} {s : Bool} {j : Nat} (h : j < l.length) : ext ⟨l, s⟩ j = nth l j := by unfold ext; rw [if_pos h]
set_option maxRecDepth 100000 in
theorem ext_out {l : List Int} {j : Nat} (h : ¬ j < l.length) : ext ⟨l, true⟩ j = nth l (l.length - 1) := by unfold ext fill; rw [if_neg h]; rfl
set_option maxRecDepth 100000 in
theorem ext_outz {l : List Int} {j : Nat} (h : ¬ j < l.length) : ext ⟨l, false⟩ j = 0 := by unfold ext fill; rw [if_neg h]; rfl
end Go.Proofs.YtognpmggfplekaaDoor

namespace Go.Proofs.YtognpmggfplekaaDoor
open Go Go.RowKit

/-- The slice reads as the bits of x, in a block that lay before w. -/
def rdb (w : World) (A : Option Addr) (n x : Nat) : World → Prop := fun u => B.Rd u A n x ∧ ∀ b o, A = some ⟨b, o, none⟩ → 0 < n → b < w.heap.size
set_option maxRecDepth 100000 in
theorem rdb.of {w u : World} {A : Option Addr} {n x : Nat} (h : B.Rd w A n x) (hb : Below w.heap.size w u) : rdb w A n x u := ⟨h.step hb, fun b o e hn => by
  obtain ⟨b', o', e', hlt, _⟩ := h.2 hn
  rw [e] at e'
  simp only [Option.some.injEq, Addr.mk.injEq, and_true] at e'
  rw [e'.1]; exact hlt⟩
instance (w : World) (A : Option Addr) (n x : Nat) : Stb (rdb w A n x) := ⟨fun _ _ hb ⟨h, k⟩ => ⟨h.step hb, k⟩⟩
set_option maxRecDepth 100000 in
theorem rdb_cell {w u : World} {b o n k x : Nat} (h : rdb w (some ⟨b, o, none⟩) n x u) (hk : k < n) : u.cell? ⟨b, o + k, none⟩ = some (.bool (x.testBit k)) := by
  obtain ⟨b', o', e, _, hc⟩ := h.1.at_ hk
  have e1 := Option.some.inj e
  simp only [Addr.mk.injEq, and_true] at e1
  obtain ⟨rfl, rfl⟩ := e1
  exact hc
instance (w : World) (A : Option Addr) (n x : Nat) : Sgr w.heap.size (rdb w A n x) := ⟨fun u u' row hr hg _ ⟨h, k⟩ => ⟨⟨h.1, fun hn => by
  obtain ⟨b, o, e, hlt, hc⟩ := h.2 hn
  have hne : some b ≠ row := fun x => by have := (hr b x.symm).1; have := k b o e hn; omega
  exact ⟨b, o, e, Nat.lt_of_lt_of_le hlt hg.size, fun i hi => grown_cell hg hne (hc i hi)⟩⟩, k⟩⟩
instance (w : World) (g : Nat) (A : Option Addr) (n x : Nat) [V : Over w g] : Sst g (rdb w A n x) := ⟨fun u X a b s cs O ⟨h, k⟩ => ⟨⟨h.1, fun hn => by
  obtain ⟨b', o, e, hlt, hc⟩ := h.2 hn
  have hne : b' ≠ g := fun e2 => by have := k b' o e hn; have := V.le; omega
  refine ⟨b', o, e, by simpa [World.setRow] using hlt, fun i hi => ?_⟩
  have e3 : (u.setRow g cs).heap[b']? = u.heap[b']? := setRow_other u g b' cs hne
  have h5 := hc i hi
  unfold World.cell? at h5 ⊢
  simp only [e3]
  exact h5⟩, k⟩⟩
set_option maxRecDepth 100000 in
theorem fromI_nn (b : Bool) : 0 ≤ fromI b := by cases b <;> decide
section
variable {o : Oper} {a : Act} {w : World} {K : Act → World → Prop} {Q : Exit → Act → World → Prop}
set_option maxRecDepth 100000 in
theorem run_ixB (b p n c k : Nat) (hk : k < n) (W : World) : (Instr.indexAt 60 (.slice (some ⟨b, p, none⟩) n c) (.int .i64 k)).run Tryd.prog W = .ok (.pointer (some ⟨b, p + k, none⟩)) W := by
  have i1 : (k : Int) < n := by omega
  have i0 : (0 : Int) ≤ k := by omega
  simp [go_sem, i0, i1]
set_option maxRecDepth 100000 in
theorem wp_ixB (x y : Operand) (ho : o.op = .indexAddr 60 x y) {b p n c k : Nat} (hx : a.eval x = .slice (some ⟨b, p, none⟩) n c) (hy : a.eval y = .int .i64 k) (hk : k < n) (h : K (a.put o.dst (.pointer (some ⟨b, p + k, none⟩))) w) : o.wp Tryd.prog a w K Q := by
  refine wp_val ?_ h
  unfold execOp
  simp only [ho, hx, hy, Sem.run_bind, run_ixB _ _ _ _ _ hk, Result.andThen_ok, Sem.run_pure]
end
end Go.Proofs.YtognpmggfplekaaDoor

namespace Go.Proofs.YtognpmggfplekaaDoor
open Go Go.RowKit

set_option maxRecDepth 100000 in
theorem num_snoc : ∀ (l : List Int) (b : Int), num (l ++ [b]) = num l + 2 ^ l.length * (b == 1).toNat
  | [], b => by
    simp only [List.nil_append, num, List.length_nil, Nat.pow_zero]
    by_cases h : b = 1
    · subst h; rfl
    · rw [if_neg h, show (b == 1) = false by simpa using h]; rfl
  | a :: l, b => by
    rw [List.cons_append, num, num_snoc l b, num, List.length_cons, Nat.pow_succ]
    generalize 2 ^ l.length = p
    generalize (b == 1).toNat = q
    rw [Nat.mul_add, Nat.mul_comm p 2, Nat.mul_assoc, Nat.add_assoc]
set_option maxRecDepth 100000 in
theorem take_snoc {l : List Int} {j : Nat} (h : j < l.length) : l.take (j + 1) = l.take j ++ [nth l j] := by
  rw [List.take_add_one, nth, List.getD_eq_getElem?_getD, List.getElem?_eq_getElem h]; rfl
set_option maxRecDepth 100000 in
theorem num_nextB {l : List Int} {j : Nat} (h : j < l.length) : num (l.take (j + 1)) = num (l.take j) + 2 ^ j * (nth l j == 1).toNat := by
  rw [take_snoc h, num_snoc, List.length_take, Nat.min_eq_left (by omega)]
end Go.Proofs.YtognpmggfplekaaDoor

namespace Go.Proofs.YtognpmggfplekaaDoor
open Go Go.RowKit

set_option maxRecDepth 100000 in
theorem vw_no {m : Int} (h : vwB m = false) : m < 1 ∨ (decide (m < 1) = false ∧ decide (128 < m) = true) := by
  unfold vwB at h
  by_cases h1 : m < 1
  · exact .inl h1
  · rw [show decide (1 ≤ m) = true by simp; omega, Bool.true_and] at h
    exact .inr ⟨by simpa using h1, by simp at h ⊢; omega⟩
end Go.Proofs.YtognpmggfplekaaDoor

namespace Go.Proofs.YtognpmggfplekaaDoor
open Go Go.RowKit

end Go.Proofs.YtognpmggfplekaaDoor
