/-
  Tables of rows of a vector and a plain value, made in a region of open order. No conditions.
-/
import Derived.Test.YtognpmggfplekaaGreatDoorPbW7
set_option maxRecDepth 100000
namespace Go.Proofs.YtognpmggfplekaaGreatDoor
open Go Go.RowKit

def isRw (v : V) (x : Value) : Value → World → Prop := fun q u => ∃ A n c, q = .agg #[.slice A n c, .bool v.s, x] ∧ n ≤ c ∧ n ≤ 1000 ∧ Rb u A n v.l
instance (v : V) (x : Value) : StV (isRw v x) := ⟨fun _ _ _ hb ⟨A, n, c, h1, h2, h3, h4⟩ => ⟨A, n, c, h1, h2, h3, h4.step hb⟩⟩
def isS1 (v : V) : Value → World → Prop := fun q u => ∃ A n c, q = .slice A n c ∧ n ≤ c ∧ n ≤ 1000 ∧ Rb u A n v.l
instance (v : V) : StV (isS1 v) := ⟨fun _ _ _ hb ⟨A, n, c, h1, h2, h3, h4⟩ => ⟨A, n, c, h1, h2, h3, h4.step hb⟩⟩
def isOr (p : Bool) (x : Value) : Value → World → Prop := fun q _ => p = true → q = x
instance (p : Bool) (x : Value) : StV (isOr p x) := ⟨fun _ _ _ _ h => h⟩
def isOrF (p : Bool) (x : Value) : Value → World → Prop := fun q _ => p = false → q = x
instance (p : Bool) (x : Value) : StV (isOrF p x) := ⟨fun _ _ _ _ h => h⟩
def rowsC (f : Nat → Cv) (x : Nat → Value) : Nat → List Value
  | 0 => []
  | n + 1 => rowsC f x n ++ [.slice (f n).A (f n).n (f n).c, .bool (f n).s, x n]
theorem rowsC_len (f : Nat → Cv) (x : Nat → Value) : ∀ n, (rowsC f x n).length = n * 3
  | 0 => rfl
  | n + 1 => by rw [rowsC, List.length_append, rowsC_len f x n]; simp; omega
theorem rowsC_at (f : Nat → Cv) (x : Nat → Value) : ∀ (n j : Nat), j < n → (rowsC f x n)[j * 3]? = some (.slice (f j).A (f j).n (f j).c) ∧ (rowsC f x n)[j * 3 + 1]? = some (.bool (f j).s) ∧ (rowsC f x n)[j * 3 + 2]? = some (x j)
  | 0, _, h => by omega
  | n + 1, j, h => by
    have hl := rowsC_len f x n
    rw [rowsC]
    by_cases hj : j < n
    · obtain ⟨a, b, c⟩ := rowsC_at f x n j hj
      rw [List.getElem?_append_left (by omega), List.getElem?_append_left (by omega), List.getElem?_append_left (by omega)]
      exact ⟨a, b, c⟩
    · obtain rfl : j = n := by omega
      rw [List.getElem?_append_right (by omega), List.getElem?_append_right (by omega), List.getElem?_append_right (by omega), hl]
      rw [Nat.sub_self, Nat.add_sub_cancel_left, Nat.add_sub_cancel_left]
      exact ⟨rfl, rfl, rfl⟩
def Tbl (u : World) (g T n : Nat) (f : Nat → Cv) (v : Nat → V) (x : Nat → Value) : Prop :=
  Own u g T (rowsC f x n).toArray ∧ ∀ j, j < n → (f j).s = (v j).s ∧ (f j).n ≤ (f j).c ∧ (f j).n ≤ 1000 ∧ Rb u (f j).A (f j).n (v j).l
section
variable {u u' : World} {g T n : Nat} {f : Nat → Cv} {v : Nat → V} {x : Nat → Value}
theorem Tbl.step (h : Tbl u g T n f v x) (hb : Below u.heap.size u u') : Tbl u' g T n f v x := ⟨h.1.step hb, fun j hj => ⟨(h.2 j hj).1, (h.2 j hj).2.1, (h.2 j hj).2.2.1, (h.2 j hj).2.2.2.step hb⟩⟩
theorem Tbl.alloc (h : Tbl u g T n f v x) (o : Obj) : Tbl (u.alloc o) g T n f v x := ⟨h.1.alloc o, fun j hj => ⟨(h.2 j hj).1, (h.2 j hj).2.1, (h.2 j hj).2.2.1, (h.2 j hj).2.2.2.alloc o⟩⟩
theorem Tbl.cells (h : Tbl u g T n f v x) {j : Nat} (hj : j < n) : u.cell? ⟨g, j * 3, none⟩ = some (.slice (f j).A (f j).n (f j).c) ∧ u.cell? ⟨g, j * 3 + 1, none⟩ = some (.bool (v j).s) ∧ u.cell? ⟨g, j * 3 + 2, none⟩ = some (x j) := by
  obtain ⟨a, b, c⟩ := rowsC_at f x n j hj
  rw [(h.2 j hj).1] at b
  have e : ∀ k : Nat, (rowsC f x n).toArray[k]? = (rowsC f x n)[k]? := fun k => by simp
  exact ⟨(h.1.cell _).trans ((e _).trans a), (h.1.cell _).trans ((e _).trans b), (h.1.cell _).trans ((e _).trans c)⟩
end
theorem Tbl.row {u : World} {g T n : Nat} {f : Nat → Cv} {v : Nat → V} {x : Nat → Value} (h : Tbl u g T n f v x) {j : Nat} (hj : j < n) : ∃ (A : Option Addr) (m c : Nat), u.cell? ⟨g, j * 3, none⟩ = some (.slice A m c) ∧ u.cell? ⟨g, j * 3 + 1, none⟩ = some (.bool (v j).s) ∧ u.cell? ⟨g, j * 3 + 2, none⟩ = some (x j) ∧ m ≤ c ∧ m ≤ 1000 ∧ Rb u A m (v j).l := by
  obtain ⟨a, b, c⟩ := h.cells hj
  obtain ⟨_, p, q, r⟩ := h.2 j hj
  exact ⟨_, _, _, a, b, c, p, q, r⟩
def isTb (n T : Nat) (v : Nat → V) (x : Nat → Value) : Value → World → Prop := fun q u => ∃ g f, q = .slice (some ⟨g, 0, none⟩) n n ∧ Tbl u g T n f v x
instance (n T : Nat) (v : Nat → V) (x : Nat → Value) : StV (isTb n T v x) := ⟨fun _ _ _ hb ⟨g, f, h1, h2⟩ => ⟨g, f, h1, h2.step hb⟩⟩
section
variable {o : Oper} {a : Act} {w : World} {K : Act → World → Prop} {Q : Exit → Act → World → Prop}
theorem run_bldI (A : Option Addr) (n c : Nat) (s : Bool) (z : Int) (W : World) : (Instr.build 73 #[(0, .agg #[.slice A n c, .bool s]), (1, .int .i64 z)]).run Tryz.prog W = .ok (.agg #[.slice A n c, .bool s, .int .i64 z]) W := by kernel_rfl
theorem wp_bldI (x y : Operand) (ho : o.op = .build 73 #[(0, x), (1, y)]) {A : Option Addr} {n c : Nat} {s : Bool} {z : Int} (hx : a.eval x = .agg #[.slice A n c, .bool s]) (hy : a.eval y = .int .i64 z) (h : K (a.put o.dst (.agg #[.slice A n c, .bool s, .int .i64 z])) w) : o.wp Tryz.prog a w K Q := by
  refine wp_val ?_ h
  unfold execOp
  simp only [ho, Sem.run_bind, List.map_toArray, List.map_cons, List.map_nil, hx, hy, run_bldI, Result.andThen_ok, Sem.run_pure]
theorem run_bldB (A : Option Addr) (n c : Nat) (s : Bool) (z : Bool) (W : World) : (Instr.build 75 #[(0, .agg #[.slice A n c, .bool s]), (1, .bool z)]).run Tryz.prog W = .ok (.agg #[.slice A n c, .bool s, .bool z]) W := by kernel_rfl
theorem wp_bldB (x y : Operand) (ho : o.op = .build 75 #[(0, x), (1, y)]) {A : Option Addr} {n c : Nat} {s : Bool} {z : Bool} (hx : a.eval x = .agg #[.slice A n c, .bool s]) (hy : a.eval y = .bool z) (h : K (a.put o.dst (.agg #[.slice A n c, .bool s, .bool z])) w) : o.wp Tryz.prog a w K Q := by
  refine wp_val ?_ h
  unfold execOp
  simp only [ho, Sem.run_bind, List.map_toArray, List.map_cons, List.map_nil, hx, hy, run_bldB, Result.andThen_ok, Sem.run_pure]
theorem run_bs7 (f : Nat → Cv) (z : Nat → Int) (W : World) : (Instr.buildSlice 74 7 #[(0, .agg #[.slice (f 0).A (f 0).n (f 0).c, .bool (f 0).s, .int .i64 (z 0)]), (1, .agg #[.slice (f 1).A (f 1).n (f 1).c, .bool (f 1).s, .int .i64 (z 1)]), (2, .agg #[.slice (f 2).A (f 2).n (f 2).c, .bool (f 2).s, .int .i64 (z 2)]), (3, .agg #[.slice (f 3).A (f 3).n (f 3).c, .bool (f 3).s, .int .i64 (z 3)]), (4, .agg #[.slice (f 4).A (f 4).n (f 4).c, .bool (f 4).s, .int .i64 (z 4)]), (5, .agg #[.slice (f 5).A (f 5).n (f 5).c, .bool (f 5).s, .int .i64 (z 5)]), (6, .agg #[.slice (f 6).A (f 6).n (f 6).c, .bool (f 6).s, .int .i64 (z 6)])]).run Tryz.prog W = .ok (.slice (some ⟨W.heap.size, 0, none⟩) 7 7) (W.alloc (.cells (rowsC f (fun j => .int .i64 (z j)) 7).toArray 73)) := by kernel_rfl
theorem wp_bs7 (x0 x1 x2 x3 x4 x5 x6 : Operand) (ho : o.op = .buildSlice 74 7 #[(0, x0), (1, x1), (2, x2), (3, x3), (4, x4), (5, x5), (6, x6)]) (f : Nat → Cv) (z : Nat → Int) (h0 : a.eval x0 = .agg #[.slice (f 0).A (f 0).n (f 0).c, .bool (f 0).s, .int .i64 (z 0)]) (h1 : a.eval x1 = .agg #[.slice (f 1).A (f 1).n (f 1).c, .bool (f 1).s, .int .i64 (z 1)]) (h2 : a.eval x2 = .agg #[.slice (f 2).A (f 2).n (f 2).c, .bool (f 2).s, .int .i64 (z 2)]) (h3 : a.eval x3 = .agg #[.slice (f 3).A (f 3).n (f 3).c, .bool (f 3).s, .int .i64 (z 3)]) (h4 : a.eval x4 = .agg #[.slice (f 4).A (f 4).n (f 4).c, .bool (f 4).s, .int .i64 (z 4)]) (h5 : a.eval x5 = .agg #[.slice (f 5).A (f 5).n (f 5).c, .bool (f 5).s, .int .i64 (z 5)]) (h6 : a.eval x6 = .agg #[.slice (f 6).A (f 6).n (f 6).c, .bool (f 6).s, .int .i64 (z 6)]) (h : K (a.put o.dst (.slice (some ⟨w.heap.size, 0, none⟩) 7 7)) (w.alloc (.cells (rowsC f (fun j => .int .i64 (z j)) 7).toArray 73))) : o.wp Tryz.prog a w K Q := by
  refine wp_val ?_ h
  unfold execOp
  have := run_bs7 f z w
  simp only [ho, Sem.run_bind, List.map_toArray, List.map_cons, List.map_nil, h0, h1, h2, h3, h4, h5, h6, this, Result.andThen_ok, Sem.run_pure]
theorem run_bs10 (f : Nat → Cv) (z : Nat → Bool) (W : World) : (Instr.buildSlice 76 10 #[(0, .agg #[.slice (f 0).A (f 0).n (f 0).c, .bool (f 0).s, .bool (z 0)]), (1, .agg #[.slice (f 1).A (f 1).n (f 1).c, .bool (f 1).s, .bool (z 1)]), (2, .agg #[.slice (f 2).A (f 2).n (f 2).c, .bool (f 2).s, .bool (z 2)]), (3, .agg #[.slice (f 3).A (f 3).n (f 3).c, .bool (f 3).s, .bool (z 3)]), (4, .agg #[.slice (f 4).A (f 4).n (f 4).c, .bool (f 4).s, .bool (z 4)]), (5, .agg #[.slice (f 5).A (f 5).n (f 5).c, .bool (f 5).s, .bool (z 5)]), (6, .agg #[.slice (f 6).A (f 6).n (f 6).c, .bool (f 6).s, .bool (z 6)]), (7, .agg #[.slice (f 7).A (f 7).n (f 7).c, .bool (f 7).s, .bool (z 7)]), (8, .agg #[.slice (f 8).A (f 8).n (f 8).c, .bool (f 8).s, .bool (z 8)]), (9, .agg #[.slice (f 9).A (f 9).n (f 9).c, .bool (f 9).s, .bool (z 9)])]).run Tryz.prog W = .ok (.slice (some ⟨W.heap.size, 0, none⟩) 10 10) (W.alloc (.cells (rowsC f (fun j => .bool (z j)) 10).toArray 75)) := by kernel_rfl
theorem wp_bs10 (x0 x1 x2 x3 x4 x5 x6 x7 x8 x9 : Operand) (ho : o.op = .buildSlice 76 10 #[(0, x0), (1, x1), (2, x2), (3, x3), (4, x4), (5, x5), (6, x6), (7, x7), (8, x8), (9, x9)]) (f : Nat → Cv) (z : Nat → Bool) (h0 : a.eval x0 = .agg #[.slice (f 0).A (f 0).n (f 0).c, .bool (f 0).s, .bool (z 0)]) (h1 : a.eval x1 = .agg #[.slice (f 1).A (f 1).n (f 1).c, .bool (f 1).s, .bool (z 1)]) (h2 : a.eval x2 = .agg #[.slice (f 2).A (f 2).n (f 2).c, .bool (f 2).s, .bool (z 2)]) (h3 : a.eval x3 = .agg #[.slice (f 3).A (f 3).n (f 3).c, .bool (f 3).s, .bool (z 3)]) (h4 : a.eval x4 = .agg #[.slice (f 4).A (f 4).n (f 4).c, .bool (f 4).s, .bool (z 4)]) (h5 : a.eval x5 = .agg #[.slice (f 5).A (f 5).n (f 5).c, .bool (f 5).s, .bool (z 5)]) (h6 : a.eval x6 = .agg #[.slice (f 6).A (f 6).n (f 6).c, .bool (f 6).s, .bool (z 6)]) (h7 : a.eval x7 = .agg #[.slice (f 7).A (f 7).n (f 7).c, .bool (f 7).s, .bool (z 7)]) (h8 : a.eval x8 = .agg #[.slice (f 8).A (f 8).n (f 8).c, .bool (f 8).s, .bool (z 8)]) (h9 : a.eval x9 = .agg #[.slice (f 9).A (f 9).n (f 9).c, .bool (f 9).s, .bool (z 9)]) (h : K (a.put o.dst (.slice (some ⟨w.heap.size, 0, none⟩) 10 10)) (w.alloc (.cells (rowsC f (fun j => .bool (z j)) 10).toArray 75))) : o.wp Tryz.prog a w K Q := by
  refine wp_val ?_ h
  unfold execOp
  have := run_bs10 f z w
  simp only [ho, Sem.run_bind, List.map_toArray, List.map_cons, List.map_nil, h0, h1, h2, h3, h4, h5, h6, h7, h8, h9, this, Result.andThen_ok, Sem.run_pure]

theorem wp_lenTI (x : Operand) (ho : o.op = .call { callee := .builtin .len, args := #[x], argTypes := #[74] }) {A : Option Addr} {n c : Nat} (hx : a.eval x = .slice A n c) (h : K (a.put o.dst (.int .i64 n)) w) : o.wp Tryz.prog a w K Q := by
  refine wp_val ?_ h
  unfold execOp
  simp only [ho, resolve, invoke, builtin, Sem.run_bind, Sem.run_pure, Result.andThen_ok, List.map_toArray, List.map_cons, List.map_nil, hx]
  simp [go_sem]
theorem wp_lenTB (x : Operand) (ho : o.op = .call { callee := .builtin .len, args := #[x], argTypes := #[76] }) {A : Option Addr} {n c : Nat} (hx : a.eval x = .slice A n c) (h : K (a.put o.dst (.int .i64 n)) w) : o.wp Tryz.prog a w K Q := by
  refine wp_val ?_ h
  unfold execOp
  simp only [ho, resolve, invoke, builtin, Sem.run_bind, Sem.run_pure, Result.andThen_ok, List.map_toArray, List.map_cons, List.map_nil, hx]
  simp [go_sem]
theorem wp_addI {t t' : TypeId} (x y : Operand) (ho : o.op = .binOp .add t x y t') {i k : Int} (hx : a.eval x = .int .i64 i) (hy : a.eval y = .int .i64 k) (hz : IntKind.i64.wrap (i + k) = i + k) (h : K (a.put o.dst (.int .i64 (i + k))) w) : o.wp Tryz.prog a w K Q := by
  refine wp_val ?_ h
  unfold execOp
  simp only [ho, hx, hy]
  simp [go_sem, hz]
theorem wp_subI {t t' : TypeId} (x y : Operand) (ho : o.op = .binOp .sub t x y t') {i k : Int} (hx : a.eval x = .int .i64 i) (hy : a.eval y = .int .i64 k) (hz : IntKind.i64.wrap (i - k) = i - k) (h : K (a.put o.dst (.int .i64 (i - k))) w) : o.wp Tryz.prog a w K Q := by
  refine wp_val ?_ h
  unfold execOp
  simp only [ho, hx, hy]
  simp [go_sem, hz]
theorem wp_mulI {t t' : TypeId} (x y : Operand) (ho : o.op = .binOp .mul t x y t') {i k : Int} (hx : a.eval x = .int .i64 i) (hy : a.eval y = .int .i64 k) (hz : IntKind.i64.wrap (i * k) = i * k) (h : K (a.put o.dst (.int .i64 (i * k))) w) : o.wp Tryz.prog a w K Q := by
  refine wp_val ?_ h
  unfold execOp
  simp only [ho, hx, hy]
  simp [go_sem, hz]
theorem wp_andI {t t' : TypeId} (x y : Operand) (ho : o.op = .binOp .and t x y t') {i k : Int} (hx : a.eval x = .int .i64 i) (hy : a.eval y = .int .i64 k) (h : K (a.put o.dst (.int .i64 (bits .and .i64 i k))) w) : o.wp Tryz.prog a w K Q := by
  refine wp_val ?_ h
  unfold execOp
  simp only [ho, hx, hy]
  simp [go_sem]
theorem wp_orI {t t' : TypeId} (x y : Operand) (ho : o.op = .binOp .or t x y t') {i k : Int} (hx : a.eval x = .int .i64 i) (hy : a.eval y = .int .i64 k) (h : K (a.put o.dst (.int .i64 (bits .or .i64 i k))) w) : o.wp Tryz.prog a w K Q := by
  refine wp_val ?_ h
  unfold execOp
  simp only [ho, hx, hy]
  simp [go_sem]
theorem wp_xorI {t t' : TypeId} (x y : Operand) (ho : o.op = .binOp .xor t x y t') {i k : Int} (hx : a.eval x = .int .i64 i) (hy : a.eval y = .int .i64 k) (h : K (a.put o.dst (.int .i64 (bits .xor .i64 i k))) w) : o.wp Tryz.prog a w K Q := by
  refine wp_val ?_ h
  unfold execOp
  simp only [ho, hx, hy]
  simp [go_sem]
theorem wp_lssI {t t' : TypeId} (x y : Operand) (ho : o.op = .binOp .lss t x y t') {i k : Int} (hx : a.eval x = .int .i64 i) (hy : a.eval y = .int .i64 k) (h : K (a.put o.dst (.bool (decide (i < k)))) w) : o.wp Tryz.prog a w K Q := by
  refine wp_val ?_ h
  unfold execOp
  simp only [ho, hx, hy]
  simp [go_sem]
theorem wp_leqI {t t' : TypeId} (x y : Operand) (ho : o.op = .binOp .leq t x y t') {i k : Int} (hx : a.eval x = .int .i64 i) (hy : a.eval y = .int .i64 k) (h : K (a.put o.dst (.bool (decide (i ≤ k)))) w) : o.wp Tryz.prog a w K Q := by
  refine wp_val ?_ h
  unfold execOp
  simp only [ho, hx, hy]
  simp [go_sem]
theorem wp_gtrI {t t' : TypeId} (x y : Operand) (ho : o.op = .binOp .gtr t x y t') {i k : Int} (hx : a.eval x = .int .i64 i) (hy : a.eval y = .int .i64 k) (h : K (a.put o.dst (.bool (decide (k < i)))) w) : o.wp Tryz.prog a w K Q := by
  refine wp_val ?_ h
  unfold execOp
  simp only [ho, hx, hy]
  simp [go_sem]
theorem wp_geqI {t t' : TypeId} (x y : Operand) (ho : o.op = .binOp .geq t x y t') {i k : Int} (hx : a.eval x = .int .i64 i) (hy : a.eval y = .int .i64 k) (h : K (a.put o.dst (.bool (decide (k ≤ i)))) w) : o.wp Tryz.prog a w K Q := by
  refine wp_val ?_ h
  unfold execOp
  simp only [ho, hx, hy]
  simp [go_sem]
theorem wp_eqlI {t t' : TypeId} (x y : Operand) (ho : o.op = .binOp .eql t x y t') {i k : Int} (hx : a.eval x = .int .i64 i) (hy : a.eval y = .int .i64 k) (h : K (a.put o.dst (.bool (decide (i = k)))) w) : o.wp Tryz.prog a w K Q := by
  refine wp_val ?_ h
  unfold execOp
  simp only [ho, hx, hy]
  simp [go_sem]
  rfl
theorem wp_neqI {t t' : TypeId} (x y : Operand) (ho : o.op = .binOp .neq t x y t') {i k : Int} (hx : a.eval x = .int .i64 i) (hy : a.eval y = .int .i64 k) (h : K (a.put o.dst (.bool (!decide (i = k)))) w) : o.wp Tryz.prog a w K Q := by
  refine wp_val ?_ h
  unfold execOp
  simp only [ho, hx, hy]
  simp [go_sem]
  rfl
theorem wp_cplI {t : TypeId} (x : Operand) (ho : o.op = .unOp .xor t x) {i : Int} (hx : a.eval x = .int .i64 i) (h : K (a.put o.dst (.int .i64 (bits .xor .i64 (-1) i))) w) : o.wp Tryz.prog a w K Q := by
  refine wp_val ?_ h
  unfold execOp
  simp only [ho, hx]
  simp [go_sem]
  rfl
theorem wp_faB (x : Operand) (ho : o.op = .fieldAddr 75 x 1) {g : Nat} (hx : a.eval x = .pointer (some ⟨g, 0, none⟩)) (h : K (a.put o.dst (.pointer (some ⟨g, 2, none⟩))) w) : o.wp Tryz.prog a w K Q := by
  refine wp_val (w' := w) ?_ h
  unfold execOp
  simp only [ho, hx]
  simp [go_sem]
theorem wp_mvc {v : Value} (ho : o.op = .move (.const v)) (h : K (a.put o.dst v) w) : o.wp Tryz.prog a w K Q := by
  refine wp_val ?_ h
  unfold execOp
  simp only [ho]
  rfl
end
end Go.Proofs.YtognpmggfplekaaGreatDoor
