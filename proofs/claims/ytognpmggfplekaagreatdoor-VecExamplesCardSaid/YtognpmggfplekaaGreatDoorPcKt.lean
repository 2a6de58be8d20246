/-
  Tables of rows of two vectors, made in a region of open order. No conditions.
-/
import Derived.Test.YtognpmggfplekaaGreatDoorPcJt
set_option maxRecDepth 100000
namespace Go.Proofs.YtognpmggfplekaaGreatDoor
open Go Go.RowKit

def isRR (v u2 : V) : Value → World → Prop := fun q u => ∃ A n c B m d, q = .agg #[.slice A n c, .bool v.s, .slice B m d, .bool u2.s] ∧ (n ≤ c ∧ n ≤ 1000 ∧ Rb u A n v.l) ∧ m ≤ d ∧ m ≤ 1000 ∧ Rb u B m u2.l
instance (v u2 : V) : StV (isRR v u2) := ⟨fun _ _ _ hb ⟨A, n, c, B, m, d, h1, ⟨h2, h3, h4⟩, h5, h6, h7⟩ => ⟨A, n, c, B, m, d, h1, ⟨h2, h3, h4.step hb⟩, h5, h6, h7.step hb⟩⟩
def rowsD (f g : Nat → Cv) : Nat → List Value
  | 0 => []
  | n + 1 => rowsD f g n ++ [.slice (f n).A (f n).n (f n).c, .bool (f n).s, .slice (g n).A (g n).n (g n).c, .bool (g n).s]
theorem rowsD_len (f g : Nat → Cv) : ∀ n, (rowsD f g n).length = n * 4
  | 0 => rfl
  | n + 1 => by rw [rowsD, List.length_append, rowsD_len f g n]; simp; omega
theorem rowsD_at (f g : Nat → Cv) : ∀ (n j : Nat), j < n → (rowsD f g n)[j * 4]? = some (.slice (f j).A (f j).n (f j).c) ∧ (rowsD f g n)[j * 4 + 1]? = some (.bool (f j).s) ∧ (rowsD f g n)[j * 4 + 2]? = some (.slice (g j).A (g j).n (g j).c) ∧ (rowsD f g n)[j * 4 + 3]? = some (.bool (g j).s)
  | 0, _, h => by omega
  | n + 1, j, h => by
    have hl := rowsD_len f g n
    rw [rowsD]
    by_cases hj : j < n
    · obtain ⟨a, b, c, d⟩ := rowsD_at f g n j hj
      rw [List.getElem?_append_left (by omega), List.getElem?_append_left (by omega), List.getElem?_append_left (by omega), List.getElem?_append_left (by omega)]
      exact ⟨a, b, c, d⟩
    · obtain rfl : j = n := by omega
      rw [List.getElem?_append_right (by omega), List.getElem?_append_right (by omega), List.getElem?_append_right (by omega), List.getElem?_append_right (by omega), hl]
      rw [Nat.sub_self, Nat.add_sub_cancel_left, Nat.add_sub_cancel_left, Nat.add_sub_cancel_left]
      exact ⟨rfl, rfl, rfl, rfl⟩
def CvR (u : World) (x : Cv) (v : V) : Prop := x.s = v.s ∧ x.n ≤ x.c ∧ x.n ≤ 1000 ∧ Rb u x.A x.n v.l
theorem CvR.step {u u' : World} {x : Cv} {v : V} (h : CvR u x v) (hb : Below u.heap.size u u') : CvR u' x v := ⟨h.1, h.2.1, h.2.2.1, h.2.2.2.step hb⟩
theorem CvR.alloc {u : World} {x : Cv} {v : V} (h : CvR u x v) (o : Obj) : CvR (u.alloc o) x v := ⟨h.1, h.2.1, h.2.2.1, h.2.2.2.alloc o⟩
def TblD (u : World) (b T n : Nat) (f g : Nat → Cv) (v v2 : Nat → V) : Prop :=
  Own u b T (rowsD f g n).toArray ∧ ∀ j, j < n → CvR u (f j) (v j) ∧ CvR u (g j) (v2 j)
section
variable {u u' : World} {b T n : Nat} {f g : Nat → Cv} {v v2 : Nat → V}
theorem TblD.step (h : TblD u b T n f g v v2) (hb : Below u.heap.size u u') : TblD u' b T n f g v v2 := ⟨h.1.step hb, fun j hj => ⟨(h.2 j hj).1.step hb, (h.2 j hj).2.step hb⟩⟩
theorem TblD.alloc (h : TblD u b T n f g v v2) (o : Obj) : TblD (u.alloc o) b T n f g v v2 := ⟨h.1.alloc o, fun j hj => ⟨(h.2 j hj).1.alloc o, (h.2 j hj).2.alloc o⟩⟩
theorem TblD.row (h : TblD u b T n f g v v2) {j : Nat} (hj : j < n) : ∃ (A : Option Addr) (m c : Nat) (B : Option Addr) (k d : Nat), u.cell? ⟨b, j * 4, none⟩ = some (.slice A m c) ∧ u.cell? ⟨b, j * 4 + 1, none⟩ = some (.bool (v j).s) ∧ u.cell? ⟨b, j * 4 + 2, none⟩ = some (.slice B k d) ∧ u.cell? ⟨b, j * 4 + 3, none⟩ = some (.bool (v2 j).s) ∧
    (m ≤ 1000 ∧ Rb u A m (v j).l) ∧ k ≤ 1000 ∧ Rb u B k (v2 j).l := by
  obtain ⟨p, q, r, s⟩ := rowsD_at f g n j hj
  obtain ⟨⟨e1, _, h1, h2⟩, e2, _, h3, h4⟩ := h.2 j hj
  rw [e1] at q
  rw [e2] at s
  have e : ∀ k : Nat, (rowsD f g n).toArray[k]? = (rowsD f g n)[k]? := fun k => by simp
  exact ⟨_, _, _, _, _, _, (h.1.cell _).trans ((e _).trans p), (h.1.cell _).trans ((e _).trans q), (h.1.cell _).trans ((e _).trans r), (h.1.cell _).trans ((e _).trans s), ⟨h1, h2⟩, h3, h4⟩
end
def isTD (n T : Nat) (v v2 : Nat → V) : Value → World → Prop := fun q u => ∃ b f g, q = .slice (some ⟨b, 0, none⟩) n n ∧ TblD u b T n f g v v2
instance (n T : Nat) (v v2 : Nat → V) : StV (isTD n T v v2) := ⟨fun _ _ _ hb ⟨b, f, g, h1, h2⟩ => ⟨b, f, g, h1, h2.step hb⟩⟩
section
variable {o : Oper} {a : Act} {w : World} {K : Act → World → Prop} {Q : Exit → Act → World → Prop}
theorem run_bldR (A B : Option Addr) (n c m d : Nat) (s t : Bool) (W : World) : (Instr.build 66 #[(0, .agg #[.slice A n c, .bool s]), (1, .agg #[.slice B m d, .bool t])]).run Tryz.prog W = .ok (.agg #[.slice A n c, .bool s, .slice B m d, .bool t]) W := by kernel_rfl
theorem wp_bldR (x y : Operand) (ho : o.op = .build 66 #[(0, x), (1, y)]) {A B : Option Addr} {n c m d : Nat} {s t : Bool} (hx : a.eval x = .agg #[.slice A n c, .bool s]) (hy : a.eval y = .agg #[.slice B m d, .bool t]) (h : K (a.put o.dst (.agg #[.slice A n c, .bool s, .slice B m d, .bool t])) w) : o.wp Tryz.prog a w K Q := by
  refine wp_val ?_ h
  unfold execOp
  simp only [ho, Sem.run_bind, List.map_toArray, List.map_cons, List.map_nil, hx, hy, run_bldR, Result.andThen_ok, Sem.run_pure]
theorem run_bldN (W : World) : (Instr.build 24 #[]).run Tryz.prog W = .ok (.agg #[.slice none 0 0, .bool false]) W := by kernel_rfl
theorem wp_bldN (ho : o.op = .build 24 #[]) (h : K (a.put o.dst (.agg #[.slice none 0 0, .bool false])) w) : o.wp Tryz.prog a w K Q := by
  refine wp_val ?_ h
  unfold execOp
  simp only [ho, Sem.run_bind, List.map_toArray, List.map_nil, run_bldN, Result.andThen_ok, Sem.run_pure]
theorem run_bs49 (f g : Nat → Cv) (W : World) : (Instr.buildSlice 67 49 #[(0, .agg #[.slice (f 0).A (f 0).n (f 0).c, .bool (f 0).s, .slice (g 0).A (g 0).n (g 0).c, .bool (g 0).s]), (1, .agg #[.slice (f 1).A (f 1).n (f 1).c, .bool (f 1).s, .slice (g 1).A (g 1).n (g 1).c, .bool (g 1).s]), (2, .agg #[.slice (f 2).A (f 2).n (f 2).c, .bool (f 2).s, .slice (g 2).A (g 2).n (g 2).c, .bool (g 2).s]), (3, .agg #[.slice (f 3).A (f 3).n (f 3).c, .bool (f 3).s, .slice (g 3).A (g 3).n (g 3).c, .bool (g 3).s]), (4, .agg #[.slice (f 4).A (f 4).n (f 4).c, .bool (f 4).s, .slice (g 4).A (g 4).n (g 4).c, .bool (g 4).s]), (5, .agg #[.slice (f 5).A (f 5).n (f 5).c, .bool (f 5).s, .slice (g 5).A (g 5).n (g 5).c, .bool (g 5).s]), (6, .agg #[.slice (f 6).A (f 6).n (f 6).c, .bool (f 6).s, .slice (g 6).A (g 6).n (g 6).c, .bool (g 6).s]), (7, .agg #[.slice (f 7).A (f 7).n (f 7).c, .bool (f 7).s, .slice (g 7).A (g 7).n (g 7).c, .bool (g 7).s]), (8, .agg #[.slice (f 8).A (f 8).n (f 8).c, .bool (f 8).s, .slice (g 8).A (g 8).n (g 8).c, .bool (g 8).s]), (9, .agg #[.slice (f 9).A (f 9).n (f 9).c, .bool (f 9).s, .slice (g 9).A (g 9).n (g 9).c, .bool (g 9).s]), (10, .agg #[.slice (f 10).A (f 10).n (f 10).c, .bool (f 10).s, .slice (g 10).A (g 10).n (g 10).c, .bool (g 10).s]), (11, .agg #[.slice (f 11).A (f 11).n (f 11).c, .bool (f 11).s, .slice (g 11).A (g 11).n (g 11).c, .bool (g 11).s]), (12, .agg #[.slice (f 12).A (f 12).n (f 12).c, .bool (f 12).s, .slice (g 12).A (g 12).n (g 12).c, .bool (g 12).s]), (13, .agg #[.slice (f 13).A (f 13).n (f 13).c, .bool (f 13).s, .slice (g 13).A (g 13).n (g 13).c, .bool (g 13).s]), (14, .agg #[.slice (f 14).A (f 14).n (f 14).c, .bool (f 14).s, .slice (g 14).A (g 14).n (g 14).c, .bool (g 14).s]), (15, .agg #[.slice (f 15).A (f 15).n (f 15).c, .bool (f 15).s, .slice (g 15).A (g 15).n (g 15).c, .bool (g 15).s]), (16, .agg #[.slice (f 16).A (f 16).n (f 16).c, .bool (f 16).s, .slice (g 16).A (g 16).n (g 16).c, .bool (g 16).s]), (17, .agg #[.slice (f 17).A (f 17).n (f 17).c, .bool (f 17).s, .slice (g 17).A (g 17).n (g 17).c, .bool (g 17).s]), (18, .agg #[.slice (f 18).A (f 18).n (f 18).c, .bool (f 18).s, .slice (g 18).A (g 18).n (g 18).c, .bool (g 18).s]), (19, .agg #[.slice (f 19).A (f 19).n (f 19).c, .bool (f 19).s, .slice (g 19).A (g 19).n (g 19).c, .bool (g 19).s]), (20, .agg #[.slice (f 20).A (f 20).n (f 20).c, .bool (f 20).s, .slice (g 20).A (g 20).n (g 20).c, .bool (g 20).s]), (21, .agg #[.slice (f 21).A (f 21).n (f 21).c, .bool (f 21).s, .slice (g 21).A (g 21).n (g 21).c, .bool (g 21).s]), (22, .agg #[.slice (f 22).A (f 22).n (f 22).c, .bool (f 22).s, .slice (g 22).A (g 22).n (g 22).c, .bool (g 22).s]), (23, .agg #[.slice (f 23).A (f 23).n (f 23).c, .bool (f 23).s, .slice (g 23).A (g 23).n (g 23).c, .bool (g 23).s]), (24, .agg #[.slice (f 24).A (f 24).n (f 24).c, .bool (f 24).s, .slice (g 24).A (g 24).n (g 24).c, .bool (g 24).s]), (25, .agg #[.slice (f 25).A (f 25).n (f 25).c, .bool (f 25).s, .slice (g 25).A (g 25).n (g 25).c, .bool (g 25).s]), (26, .agg #[.slice (f 26).A (f 26).n (f 26).c, .bool (f 26).s, .slice (g 26).A (g 26).n (g 26).c, .bool (g 26).s]), (27, .agg #[.slice (f 27).A (f 27).n (f 27).c, .bool (f 27).s, .slice (g 27).A (g 27).n (g 27).c, .bool (g 27).s]), (28, .agg #[.slice (f 28).A (f 28).n (f 28).c, .bool (f 28).s, .slice (g 28).A (g 28).n (g 28).c, .bool (g 28).s]), (29, .agg #[.slice (f 29).A (f 29).n (f 29).c, .bool (f 29).s, .slice (g 29).A (g 29).n (g 29).c, .bool (g 29).s]), (30, .agg #[.slice (f 30).A (f 30).n (f 30).c, .bool (f 30).s, .slice (g 30).A (g 30).n (g 30).c, .bool (g 30).s]), (31, .agg #[.slice (f 31).A (f 31).n (f 31).c, .bool (f 31).s, .slice (g 31).A (g 31).n (g 31).c, .bool (g 31).s]), (32, .agg #[.slice (f 32).A (f 32).n (f 32).c, .bool (f 32).s, .slice (g 32).A (g 32).n (g 32).c, .bool (g 32).s]), (33, .agg #[.slice (f 33).A (f 33).n (f 33).c, .bool (f 33).s, .slice (g 33).A (g 33).n (g 33).c, .bool (g 33).s]), (34, .agg #[.slice (f 34).A (f 34).n (f 34).c, .bool (f 34).s, .slice (g 34).A (g 34).n (g 34).c, .bool (g 34).s]), (35, .agg #[.slice (f 35).A (f 35).n (f 35).c, .bool (f 35).s, .slice (g 35).A (g 35).n (g 35).c, .bool (g 35).s]), (36, .agg #[.slice (f 36).A (f 36).n (f 36).c, .bool (f 36).s, .slice (g 36).A (g 36).n (g 36).c, .bool (g 36).s]), (37, .agg #[.slice (f 37).A (f 37).n (f 37).c, .bool (f 37).s, .slice (g 37).A (g 37).n (g 37).c, .bool (g 37).s]), (38, .agg #[.slice (f 38).A (f 38).n (f 38).c, .bool (f 38).s, .slice (g 38).A (g 38).n (g 38).c, .bool (g 38).s]), (39, .agg #[.slice (f 39).A (f 39).n (f 39).c, .bool (f 39).s, .slice (g 39).A (g 39).n (g 39).c, .bool (g 39).s]), (40, .agg #[.slice (f 40).A (f 40).n (f 40).c, .bool (f 40).s, .slice (g 40).A (g 40).n (g 40).c, .bool (g 40).s]), (41, .agg #[.slice (f 41).A (f 41).n (f 41).c, .bool (f 41).s, .slice (g 41).A (g 41).n (g 41).c, .bool (g 41).s]), (42, .agg #[.slice (f 42).A (f 42).n (f 42).c, .bool (f 42).s, .slice (g 42).A (g 42).n (g 42).c, .bool (g 42).s]), (43, .agg #[.slice (f 43).A (f 43).n (f 43).c, .bool (f 43).s, .slice (g 43).A (g 43).n (g 43).c, .bool (g 43).s]), (44, .agg #[.slice (f 44).A (f 44).n (f 44).c, .bool (f 44).s, .slice (g 44).A (g 44).n (g 44).c, .bool (g 44).s]), (45, .agg #[.slice (f 45).A (f 45).n (f 45).c, .bool (f 45).s, .slice (g 45).A (g 45).n (g 45).c, .bool (g 45).s]), (46, .agg #[.slice (f 46).A (f 46).n (f 46).c, .bool (f 46).s, .slice (g 46).A (g 46).n (g 46).c, .bool (g 46).s]), (47, .agg #[.slice (f 47).A (f 47).n (f 47).c, .bool (f 47).s, .slice (g 47).A (g 47).n (g 47).c, .bool (g 47).s]), (48, .agg #[.slice (f 48).A (f 48).n (f 48).c, .bool (f 48).s, .slice (g 48).A (g 48).n (g 48).c, .bool (g 48).s])]).run Tryz.prog W = .ok (.slice (some ⟨W.heap.size, 0, none⟩) 49 49) (W.alloc (.cells (rowsD f g 49).toArray 66)) := by kernel_rfl
theorem wp_bs49 (x : Nat → Operand) (ho : o.op = .buildSlice 67 49 #[(0, x 0), (1, x 1), (2, x 2), (3, x 3), (4, x 4), (5, x 5), (6, x 6), (7, x 7), (8, x 8), (9, x 9), (10, x 10), (11, x 11), (12, x 12), (13, x 13), (14, x 14), (15, x 15), (16, x 16), (17, x 17), (18, x 18), (19, x 19), (20, x 20), (21, x 21), (22, x 22), (23, x 23), (24, x 24), (25, x 25), (26, x 26), (27, x 27), (28, x 28), (29, x 29), (30, x 30), (31, x 31), (32, x 32), (33, x 33), (34, x 34), (35, x 35), (36, x 36), (37, x 37), (38, x 38), (39, x 39), (40, x 40), (41, x 41), (42, x 42), (43, x 43), (44, x 44), (45, x 45), (46, x 46), (47, x 47), (48, x 48)]) (f g : Nat → Cv) (hx : ∀ j, j < 49 → a.eval (x j) = .agg #[.slice (f j).A (f j).n (f j).c, .bool (f j).s, .slice (g j).A (g j).n (g j).c, .bool (g j).s]) (h : K (a.put o.dst (.slice (some ⟨w.heap.size, 0, none⟩) 49 49)) (w.alloc (.cells (rowsD f g 49).toArray 66))) : o.wp Tryz.prog a w K Q := by
  refine wp_val ?_ h
  unfold execOp
  have := run_bs49 f g w
  have h0 := hx 0 (by decide)
  have h1 := hx 1 (by decide)
  have h2 := hx 2 (by decide)
  have h3 := hx 3 (by decide)
  have h4 := hx 4 (by decide)
  have h5 := hx 5 (by decide)
  have h6 := hx 6 (by decide)
  have h7 := hx 7 (by decide)
  have h8 := hx 8 (by decide)
  have h9 := hx 9 (by decide)
  have h10 := hx 10 (by decide)
  have h11 := hx 11 (by decide)
  have h12 := hx 12 (by decide)
  have h13 := hx 13 (by decide)
  have h14 := hx 14 (by decide)
  have h15 := hx 15 (by decide)
  have h16 := hx 16 (by decide)
  have h17 := hx 17 (by decide)
  have h18 := hx 18 (by decide)
  have h19 := hx 19 (by decide)
  have h20 := hx 20 (by decide)
  have h21 := hx 21 (by decide)
  have h22 := hx 22 (by decide)
  have h23 := hx 23 (by decide)
  have h24 := hx 24 (by decide)
  have h25 := hx 25 (by decide)
  have h26 := hx 26 (by decide)
  have h27 := hx 27 (by decide)
  have h28 := hx 28 (by decide)
  have h29 := hx 29 (by decide)
  have h30 := hx 30 (by decide)
  have h31 := hx 31 (by decide)
  have h32 := hx 32 (by decide)
  have h33 := hx 33 (by decide)
  have h34 := hx 34 (by decide)
  have h35 := hx 35 (by decide)
  have h36 := hx 36 (by decide)
  have h37 := hx 37 (by decide)
  have h38 := hx 38 (by decide)
  have h39 := hx 39 (by decide)
  have h40 := hx 40 (by decide)
  have h41 := hx 41 (by decide)
  have h42 := hx 42 (by decide)
  have h43 := hx 43 (by decide)
  have h44 := hx 44 (by decide)
  have h45 := hx 45 (by decide)
  have h46 := hx 46 (by decide)
  have h47 := hx 47 (by decide)
  have h48 := hx 48 (by decide)
  simp only [ho, Sem.run_bind, List.map_toArray, List.map_cons, List.map_nil, h0, h1, h2, h3, h4, h5, h6, h7, h8, h9, h10, h11, h12, h13, h14, h15, h16, h17, h18, h19, h20, h21, h22, h23, h24, h25, h26, h27, h28, h29, h30, h31, h32, h33, h34, h35, h36, h37, h38, h39, h40, h41, h42, h43, h44, h45, h46, h47, h48, this, Result.andThen_ok, Sem.run_pure]
theorem wp_lenTD (x : Operand) (ho : o.op = .call { callee := .builtin .len, args := #[x], argTypes := #[67] }) {A : Option Addr} {n c : Nat} (hx : a.eval x = .slice A n c) (h : K (a.put o.dst (.int .i64 n)) w) : o.wp Tryz.prog a w K Q := by
  refine wp_val ?_ h
  unfold execOp
  simp only [ho, resolve, invoke, builtin, Sem.run_bind, Sem.run_pure, Result.andThen_ok, List.map_toArray, List.map_cons, List.map_nil, hx]
  simp [go_sem]
end
end Go.Proofs.YtognpmggfplekaaGreatDoor
