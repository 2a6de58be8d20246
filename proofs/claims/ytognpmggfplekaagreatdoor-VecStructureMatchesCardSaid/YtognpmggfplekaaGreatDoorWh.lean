/-
  Arrays of vectors and of errors as variables: what stands when 'x[i], e[i] = f(..)' has stored its three cells. No conditions.
-/
import Derived.Test.YtognpmggfplekaaGreatDoorWg
namespace Go.Proofs.YtognpmggfplekaaGreatDoor
open Go Go.RowKit

section
variable {w u : World} {g i k q j h : Nat} {a b z : Value} {T S : TypeId} {cs ds : Array Value}
theorem Own.tri_far (O : Own u h T cs) (hg : h ≠ g) (hq : h ≠ q) : Own (((u.setCell ⟨g, i, none⟩ a).setCell ⟨g, k, none⟩ b).setCell ⟨q, j, none⟩ z) h T cs :=
  ((O.far (p := ⟨g, i, none⟩) hg a).far (p := ⟨g, k, none⟩) hg b).far (p := ⟨q, j, none⟩) hq z
theorem Own.tri_x (O : Own u g T cs) (hq : g ≠ q) : Own (((u.setCell ⟨g, i, none⟩ a).setCell ⟨g, k, none⟩ b).setCell ⟨q, j, none⟩ z) g T ((cs.setIfInBounds i a).setIfInBounds k b) :=
  ((O.put i a).put k b).far (p := ⟨q, j, none⟩) hq z
theorem Own.tri_e (O : Own u q T cs) (hg : q ≠ g) : Own (((u.setCell ⟨g, i, none⟩ a).setCell ⟨g, k, none⟩ b).setCell ⟨q, j, none⟩ z) q T (cs.setIfInBounds j z) :=
  ((O.far (p := ⟨g, i, none⟩) hg a).far (p := ⟨g, k, none⟩) hg b).put j z
theorem Nb.tri {B : Nat} {A : Option Addr} {n c : Nat} {l : List Int} (N : Nb u B A n c l) (O : Own u g T cs) (hT : T ≠ 48) (P : Own u q S ds) (hS : S ≠ 48) (hg : q ≠ g) : Nb (((u.setCell ⟨g, i, none⟩ a).setCell ⟨g, k, none⟩ b).setCell ⟨q, j, none⟩ z) B A n c l :=
  ((N.setT O hT i a).setT (O.put i a) hT k b).setT ((P.far (p := ⟨g, i, none⟩) hg a).far (p := ⟨g, k, none⟩) hg b) hS j z
theorem run_eqN (d : Nat) (a b : Int) (W : World) : Sem.run Tryz.prog (Op.equalIn (d + 1) 45 (.int .i64 a) (.int .i64 b)) W = .ok (a == b) W := by
  unfold Op.equalIn
  simp [go_sem]
theorem run_eqE (e0 e1 e2 e3 e4 : Int) (W : World) : Sem.run Tryz.prog (Op.equalIn 10000 71 (.agg #[.int .i64 e0, .int .i64 e1, .int .i64 e2, .int .i64 e3, .int .i64 e4]) (.agg #[.int .i64 e0, .int .i64 e1, .int .i64 e2, .int .i64 e3, .int .i64 e4])) W = .ok true W := by
  rw [show 10000 = 9999 + 1 from rfl]
  unfold Op.equalIn
  simp [go_sem, List.range', isAgg, run_eqN (d := 9998)]
theorem run_eqE8 (e0 e1 e2 e3 e4 e5 e6 e7 : Int) (W : World) : Sem.run Tryz.prog (Op.equalIn 10000 51 (.agg #[.int .i64 e0, .int .i64 e1, .int .i64 e2, .int .i64 e3, .int .i64 e4, .int .i64 e5, .int .i64 e6, .int .i64 e7]) (.agg #[.int .i64 e0, .int .i64 e1, .int .i64 e2, .int .i64 e3, .int .i64 e4, .int .i64 e5, .int .i64 e6, .int .i64 e7])) W = .ok true W := by
  rw [show 10000 = 9999 + 1 from rfl]
  unfold Op.equalIn
  simp [go_sem, List.range', isAgg, run_eqN (d := 9998)]
theorem below_tri (H : Below w.heap.size w u) (hg : w.heap.size ≤ g) (hq : w.heap.size ≤ q) : Below w.heap.size w (((u.setCell ⟨g, i, none⟩ a).setCell ⟨g, k, none⟩ b).setCell ⟨q, j, none⟩ z) :=
  below_set (below_set (below_set H (p := ⟨g, i, none⟩) hg a) (p := ⟨g, k, none⟩) hg b) (p := ⟨q, j, none⟩) hq z
theorem below_tri' {B : Nat} (H : Below B w u) (hg : B ≤ g) (hq : B ≤ q) : Below B w (((u.setCell ⟨g, i, none⟩ a).setCell ⟨g, k, none⟩ b).setCell ⟨q, j, none⟩ z) :=
  ((H.setCell (p := ⟨g, i, none⟩) hg a).setCell (p := ⟨g, k, none⟩) hg b).setCell (p := ⟨q, j, none⟩) hq z
theorem below_z {B : Nat} (h : w.heap.size = B) (H : Below B w u) : Below w.heap.size w u := h ▸ H
theorem tri_size : (((u.setCell ⟨g, i, none⟩ a).setCell ⟨g, k, none⟩ b).setCell ⟨q, j, none⟩ z).heap.size = u.heap.size := by simp
end
theorem below_t (A Y : Option Addr) (n m c d : Nat) (s t : Bool) (l k : List Int) (w : World) (h : Rb w A n l) (h' : Rb w Y m k) (hn : n ≤ 1000) (TT : Tabs w) (hb : belV ⟨l, s⟩ ⟨k, t⟩ = true) :
    Calls Tryz.prog 84 #[.agg #[.slice A n c, .bool s], .agg #[.slice Y m d, .bool t]] w fun e w' => e = .returned (.bool true) ∧ Below w.heap.size w w' := by
  have := below_any A Y n m c d s t l k w h h' (by omega) TT
  rw [hb] at this
  exact this
theorem refines_b (p : Bool) (A Y : Option Addr) (n m c d : Nat) (s t : Bool) (l k : List Int) (w : World) (h : Rb w A n l) (h' : Rb w Y m k) (hn : n ≤ 1000) (hm : m ≤ 1000) (hp : rfB ⟨l, s⟩ ⟨k, t⟩ = p) :
    Calls Tryz.prog 83 #[.agg #[.slice A n c, .bool s], .agg #[.slice Y m d, .bool t]] w fun e w' => e = .returned (.bool p) ∧ Below w.heap.size w w' := by
  have := refines_any A Y n m c d s t l k w h h' (by omega) (by omega)
  rw [hp] at this
  exact this
section
variable {o : Oper} {a : Act} {w : World} {K : Act → World → Prop} {Q : Exit → Act → World → Prop}
theorem run_ixA (g k : Nat) (hk : k < 5) (W : World) : (Instr.indexAt 70 (.pointer (some ⟨g, 0, none⟩)) (.int .i64 k)).run Tryz.prog W = .ok (.pointer (some ⟨g, k * 2, none⟩)) W := by
  have i1 : (k : Int) < 5 := by omega
  have i0 : (0 : Int) ≤ k := by omega
  simp [go_sem, i0, i1]
theorem wp_ixA (x y : Operand) (ho : o.op = .indexAddr 70 x y) {g k : Nat} (hx : a.eval x = .pointer (some ⟨g, 0, none⟩)) (hy : a.eval y = .int .i64 k) (hk : k < 5) (h : K (a.put o.dst (.pointer (some ⟨g, k * 2, none⟩))) w) : o.wp Tryz.prog a w K Q := by
  refine wp_val ?_ h
  unfold execOp
  simp only [ho, hx, hy, Sem.run_bind, run_ixA _ _ hk, Result.andThen_ok, Sem.run_pure]
end
section
variable {o : Oper} {a : Act} {w : World} {K : Act → World → Prop} {Q : Exit → Act → World → Prop}
theorem run_ixA8 (g k : Nat) (hk : k < 8) (W : World) : (Instr.indexAt 50 (.pointer (some ⟨g, 0, none⟩)) (.int .i64 k)).run Tryz.prog W = .ok (.pointer (some ⟨g, k * 2, none⟩)) W := by
  have i1 : (k : Int) < 8 := by omega
  have i0 : (0 : Int) ≤ k := by omega
  simp [go_sem, i0, i1]
theorem wp_ixA8 (x y : Operand) (ho : o.op = .indexAddr 50 x y) {g k : Nat} (hx : a.eval x = .pointer (some ⟨g, 0, none⟩)) (hy : a.eval y = .int .i64 k) (hk : k < 8) (h : K (a.put o.dst (.pointer (some ⟨g, k * 2, none⟩))) w) : o.wp Tryz.prog a w K Q := by
  refine wp_val ?_ h
  unfold execOp
  simp only [ho, hx, hy, Sem.run_bind, run_ixA8 _ _ hk, Result.andThen_ok, Sem.run_pure]
end
def rowV5 (F : Nat → Cv) : Array Value := #[.slice (F 0).A (F 0).n (F 0).c, .bool (F 0).s, .slice (F 1).A (F 1).n (F 1).c, .bool (F 1).s, .slice (F 2).A (F 2).n (F 2).c, .bool (F 2).s, .slice (F 3).A (F 3).n (F 3).c, .bool (F 3).s, .slice (F 4).A (F 4).n (F 4).c, .bool (F 4).s]
theorem rowV5_get (F : Nat → Cv) (i : Nat) (hi : i < 5) : (rowV5 F)[i * 2]? = some (.slice (F i).A (F i).n (F i).c) ∧ (rowV5 F)[i * 2 + 1]? = some (.bool (F i).s) := by
  rcases (show i = 0 ∨ i = 1 ∨ i = 2 ∨ i = 3 ∨ i = 4 by omega) with rfl | rfl | rfl | rfl | rfl
  all_goals exact ⟨rfl, rfl⟩
def rowV8 (F : Nat → Cv) : Array Value := #[.slice (F 0).A (F 0).n (F 0).c, .bool (F 0).s, .slice (F 1).A (F 1).n (F 1).c, .bool (F 1).s, .slice (F 2).A (F 2).n (F 2).c, .bool (F 2).s, .slice (F 3).A (F 3).n (F 3).c, .bool (F 3).s, .slice (F 4).A (F 4).n (F 4).c, .bool (F 4).s, .slice (F 5).A (F 5).n (F 5).c, .bool (F 5).s, .slice (F 6).A (F 6).n (F 6).c, .bool (F 6).s, .slice (F 7).A (F 7).n (F 7).c, .bool (F 7).s]
theorem rowV8_get (F : Nat → Cv) (i : Nat) (hi : i < 8) : (rowV8 F)[i * 2]? = some (.slice (F i).A (F i).n (F i).c) ∧ (rowV8 F)[i * 2 + 1]? = some (.bool (F i).s) := by
  rcases (show i = 0 ∨ i = 1 ∨ i = 2 ∨ i = 3 ∨ i = 4 ∨ i = 5 ∨ i = 6 ∨ i = 7 by omega) with rfl | rfl | rfl | rfl | rfl | rfl | rfl | rfl
  all_goals exact ⟨rfl, rfl⟩
end Go.Proofs.YtognpmggfplekaaGreatDoor
