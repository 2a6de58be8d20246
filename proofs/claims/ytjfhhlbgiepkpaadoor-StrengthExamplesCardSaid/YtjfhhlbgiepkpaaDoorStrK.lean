/-
  Statements of layer 2 over the seat's translation, the walks: the algebra of combinations. Conditions: the two tables read as the program lays them ('Tb').
-/
import Derived.Test.YtjfhhlbgiepkpaaDoorStrI
import Derived.Deep.DeepCutAuto
namespace Go.Proofs.YtjfhhlbgiepkpaaDoor
open Go Go.RowKit
attribute [local go_sem ↓] eql_p eql_r neq_p neq_r

theorem RdS.step {w u : World} {A : Option Addr} {n : Nat} {f : Nat → Int × Int} (h : RdS w A n f) (hb : Below w.heap.size w u) : RdS u A n f := fun hn => by
  obtain ⟨g, e, hg, hc⟩ := h hn
  exact ⟨g, e, Nat.lt_of_lt_of_le hg hb.size, fun i hi => ⟨(hb.cell (p := ⟨g, i * 2, none⟩) hg).trans (hc i hi).1, (hb.cell (p := ⟨g, i * 2 + 1, none⟩) hg).trans (hc i hi).2⟩⟩
theorem Own.at (u : World) (t : TypeId) (cs : Array Value) {g : Nat} (h : g = u.heap.size) : Own (u.alloc (.cells cs t)) g t cs := h ▸ Own.new u t cs
def f1 (a b : Int) (_ : Nat) : Int × Int := (a, b)
def f3 (a b c d e g : Int) (i : Nat) : Int × Int := if i = 0 then (a, b) else if i = 1 then (c, d) else (e, g)
theorem Rd1 (u : World) (t : TypeId) (a b : Int) {g : Nat} (h : g = u.heap.size) : RdS (u.alloc (.cells #[.int .i8 a, .int .i8 b] t)) (some ⟨g, 0, none⟩) 1 (f1 a b) := fun _ =>
  ⟨g, rfl, by simp [h], fun i hi => by
    have O := (Own.new u t #[.int .i8 a, .int .i8 b]).cell
    rw [h, O, O]
    obtain rfl : i = 0 := by omega
    exact ⟨rfl, rfl⟩⟩
theorem Rd2 (u : World) (t : TypeId) (a b c d : Int) {g : Nat} (h : g = u.heap.size) : RdS (u.alloc (.cells #[.int .i8 a, .int .i8 b, .int .i8 c, .int .i8 d] t)) (some ⟨g, 0, none⟩) 2 (f2 a b c d) := h ▸ RdS2 u t a b c d
theorem Rd3 (u : World) (t : TypeId) (a b c d e k : Int) {g : Nat} (h : g = u.heap.size) : RdS (u.alloc (.cells #[.int .i8 a, .int .i8 b, .int .i8 c, .int .i8 d, .int .i8 e, .int .i8 k] t)) (some ⟨g, 0, none⟩) 3 (f3 a b c d e k) := fun _ =>
  ⟨g, rfl, by simp [h], fun i hi => by
    have O := (Own.new u t #[.int .i8 a, .int .i8 b, .int .i8 c, .int .i8 d, .int .i8 e, .int .i8 k]).cell
    rw [h, O, O]
    obtain rfl | rfl | rfl : i = 0 ∨ i = 1 ∨ i = 2 := by omega
    all_goals exact ⟨rfl, rfl⟩⟩
theorem keepG {w u v : World} {g7 g8 g9 g10 : Nat} {t : TypeId} {x0 x1 y0 y1 z0 z1 s0 s1 : Int} (T : Tb u) (O7 : Own u g7 t #[.int .i8 x0, .int .i8 x1]) (O8 : Own u g8 t #[.int .i8 y0, .int .i8 y1]) (O9 : Own u g9 t #[.int .i8 z0, .int .i8 z1]) (O10 : Own u g10 t #[.int .i8 s0, .int .i8 s1])
    (B : Below w.heap.size w u) (hb : Below u.heap.size u v) :
    (Tb v ∧ Own v g7 t #[.int .i8 x0, .int .i8 x1] ∧ Own v g8 t #[.int .i8 y0, .int .i8 y1] ∧ Own v g9 t #[.int .i8 z0, .int .i8 z1] ∧ Own v g10 t #[.int .i8 s0, .int .i8 s1] ∧ Below w.heap.size w v) ∧
      v.cell? ⟨g7, 0, none⟩ = some (.int .i8 x0) ∧ v.cell? ⟨g7, 1, none⟩ = some (.int .i8 x1) ∧ v.cell? ⟨g8, 0, none⟩ = some (.int .i8 y0) ∧ v.cell? ⟨g8, 1, none⟩ = some (.int .i8 y1) ∧ v.cell? ⟨g9, 0, none⟩ = some (.int .i8 z0) ∧ v.cell? ⟨g9, 1, none⟩ = some (.int .i8 z1) ∧
      v.cell? ⟨g10, 0, none⟩ = some (.int .i8 s0) ∧ v.cell? ⟨g10, 1, none⟩ = some (.int .i8 s1) :=
  ⟨⟨T.step hb, O7.step hb, O8.step hb, O9.step hb, O10.step hb, below_step B hb⟩, (O7.step hb).cell 0, (O7.step hb).cell 1, (O8.step hb).cell 0, (O8.step hb).cell 1, (O9.step hb).cell 0, (O9.step hb).cell 1, (O10.step hb).cell 0, (O10.step hb).cell 1⟩
theorem keepS4 {w u v : World} {g7 g8 g9 g10 : Nat} {t : TypeId} {x0 x1 y0 y1 z0 z1 s0 s1 : Int} (H : Tb u ∧ Own u g7 t #[.int .i8 x0, .int .i8 x1] ∧ Own u g8 t #[.int .i8 y0, .int .i8 y1] ∧ Own u g9 t #[.int .i8 z0, .int .i8 z1] ∧ Own u g10 t #[.int .i8 s0, .int .i8 s1] ∧ Below w.heap.size w u) (hb : Below u.heap.size u v) :
    (Tb v ∧ Own v g7 t #[.int .i8 x0, .int .i8 x1] ∧ Own v g8 t #[.int .i8 y0, .int .i8 y1] ∧ Own v g9 t #[.int .i8 z0, .int .i8 z1] ∧ Own v g10 t #[.int .i8 s0, .int .i8 s1] ∧ Below w.heap.size w v) ∧
      v.cell? ⟨g7, 0, none⟩ = some (.int .i8 x0) ∧ v.cell? ⟨g7, 1, none⟩ = some (.int .i8 x1) ∧ v.cell? ⟨g8, 0, none⟩ = some (.int .i8 y0) ∧ v.cell? ⟨g8, 1, none⟩ = some (.int .i8 y1) ∧ v.cell? ⟨g9, 0, none⟩ = some (.int .i8 z0) ∧ v.cell? ⟨g9, 1, none⟩ = some (.int .i8 z1) ∧
      v.cell? ⟨g10, 0, none⟩ = some (.int .i8 s0) ∧ v.cell? ⟨g10, 1, none⟩ = some (.int .i8 s1) :=
  keepG H.1 H.2.1 H.2.2.1 H.2.2.2.1 H.2.2.2.2.1 H.2.2.2.2.2 hb
/-- Short combinations. -/
theorem fC1 (a b : Int) : fC (f1 a b) 1 = (nLo a b, nHi a b) := by
  obtain ⟨h0, h1, h2⟩ := nm_out a b
  have := comb_zero' (a0 := nLo a b) (a1 := nHi a b) h1
  show (cLo 0 0 (nLo a b) (nHi a b), cHi 0 0 (nLo a b) (nHi a b)) = _
  rw [this.1, this.2]
theorem fC2 (a b c d : Int) : fC (f2 a b c d) 2 = (cLo (nLo a b) (nHi a b) (nLo c d) (nHi c d), cHi (nLo a b) (nHi a b) (nLo c d) (nHi c d)) := by
  have h1 := (nm_out a b).2.1
  have := comb_zero' (a0 := nLo a b) (a1 := nHi a b) h1
  show (cLo (cLo 0 0 (nLo a b) (nHi a b)) (cHi 0 0 (nLo a b) (nHi a b)) (nLo c d) (nHi c d), cHi (cLo 0 0 (nLo a b) (nHi a b)) (cHi 0 0 (nLo a b) (nHi a b)) (nLo c d) (nHi c d)) = _
  rw [this.1, this.2]
theorem fC3 (a b c d e k : Int) : fC (f3 a b c d e k) 3 = (cLo (cLo (nLo a b) (nHi a b) (nLo c d) (nHi c d)) (cHi (nLo a b) (nHi a b) (nLo c d) (nHi c d)) (nLo e k) (nHi e k), cHi (cLo (nLo a b) (nHi a b) (nLo c d) (nHi c d)) (cHi (nLo a b) (nHi a b) (nLo c d) (nHi c d)) (nLo e k) (nHi e k)) := by
  have h1 := (nm_out a b).2.1
  have := comb_zero' (a0 := nLo a b) (a1 := nHi a b) h1
  show (cLo (cLo (cLo 0 0 (nLo a b) (nHi a b)) (cHi 0 0 (nLo a b) (nHi a b)) (nLo c d) (nHi c d)) (cHi (cLo 0 0 (nLo a b) (nHi a b)) (cHi 0 0 (nLo a b) (nHi a b)) (nLo c d) (nHi c d)) (nLo e k) (nHi e k), cHi (cLo (cLo 0 0 (nLo a b) (nHi a b)) (cHi 0 0 (nLo a b) (nHi a b)) (nLo c d) (nHi c d)) (cHi (cLo 0 0 (nLo a b) (nHi a b)) (cHi 0 0 (nLo a b) (nHi a b)) (nLo c d) (nHi c d)) (nLo e k) (nHi e k)) = _
  rw [this.1, this.2]
theorem nm_fC (f : Nat → Int × Int) (n : Nat) : nLo (fC f n).1 (fC f n).2 = (fC f n).1 ∧ nHi (fC f n).1 (fC f n).2 = (fC f n).2 := norm_of (fC_nm f n)
/-- The laws, as the walk meets them. -/
theorem alg1 (a b c d : Int) : fC (f2 c d a b) 2 = fC (f2 a b c d) 2 := by
  rw [fC2, fC2]
  have h := comb_comm (nm_out a b).2.1 (nm_out c d).2.1
  rw [h.1, h.2]
theorem alg3 (a b c d e k : Int) : fC (f2 (fC (f2 a b c d) 2).1 (fC (f2 a b c d) 2).2 e k) 2 = fC (f3 a b c d e k) 3 := by
  rw [fC2 (fC (f2 a b c d) 2).1, (nm_fC _ _).1, (nm_fC _ _).2, fC2, fC3]
theorem alg4 (a b c d e k : Int) : fC (f2 a b (fC (f2 c d e k) 2).1 (fC (f2 c d e k) 2).2) 2 = fC (f3 a b c d e k) 3 := by
  rw [fC2 a, (nm_fC _ _).1, (nm_fC _ _).2, fC2, fC3]
  have h := comb_assoc (nm_out a b).2.1 (nm_out c d).2.1 (nm_out e k).2.1
  rw [h.1, h.2]
theorem alg2 (a b c d e k : Int) : fC (f3 e k a b c d) 3 = fC (f3 a b c d e k) 3 := by
  rw [← alg3 a b c d e k, alg1 e k, alg4]
theorem alg5 (a b : Int) : fC (f2 a b 0 0) 2 = (nLo a b, nHi a b) := by
  rw [fC2]
  have h := comb_zero (nm_out a b).2.1
  have e1 : nLo 0 0 = 0 := rfl
  have e2 : nHi 0 0 = 0 := rfl
  rw [e1, e2, h.1, h.2]

/-- Combine at a slice of one, two, three intervals that the caller has just made, or a step before. -/
theorem Cb1 (u : World) (a b : Int) {g : Nat} (h : g = u.heap.size) : Calls Tryd.prog 15 #[.slice (some ⟨g, 0, none⟩) 1 1] (u.alloc (.cells #[.int .i8 a, .int .i8 b] 29)) fun e w' => e = .returned (.agg #[.int .i8 (fC (f1 a b) 1).1, .int .i8 (fC (f1 a b) 1).2]) ∧ Below (u.alloc (.cells #[.int .i8 a, .int .i8 b] 29)).heap.size (u.alloc (.cells #[.int .i8 a, .int .i8 b] 29)) w' :=
  Combine_any _ 1 1 _ _ (by decide) (Rd1 u _ a b h)
theorem Cb2 (u : World) (a b c d : Int) {g : Nat} (h : g = u.heap.size) : Calls Tryd.prog 15 #[.slice (some ⟨g, 0, none⟩) 2 2] (u.alloc (.cells #[.int .i8 a, .int .i8 b, .int .i8 c, .int .i8 d] 29)) fun e w' => e = .returned (.agg #[.int .i8 (fC (f2 a b c d) 2).1, .int .i8 (fC (f2 a b c d) 2).2]) ∧ Below (u.alloc (.cells #[.int .i8 a, .int .i8 b, .int .i8 c, .int .i8 d] 29)).heap.size (u.alloc (.cells #[.int .i8 a, .int .i8 b, .int .i8 c, .int .i8 d] 29)) w' :=
  Combine_any _ 2 2 _ _ (by decide) (Rd2 u _ a b c d h)
theorem Cb3 (u : World) (a b c d x y : Int) {g : Nat} (h : g = u.heap.size) : Calls Tryd.prog 15 #[.slice (some ⟨g, 0, none⟩) 3 3] (u.alloc (.cells #[.int .i8 a, .int .i8 b, .int .i8 c, .int .i8 d, .int .i8 x, .int .i8 y] 29)) fun e w' => e = .returned (.agg #[.int .i8 (fC (f3 a b c d x y) 3).1, .int .i8 (fC (f3 a b c d x y) 3).2]) ∧ Below (u.alloc (.cells #[.int .i8 a, .int .i8 b, .int .i8 c, .int .i8 d, .int .i8 x, .int .i8 y] 29)).heap.size (u.alloc (.cells #[.int .i8 a, .int .i8 b, .int .i8 c, .int .i8 d, .int .i8 x, .int .i8 y] 29)) w' :=
  Combine_any _ 3 3 _ _ (by decide) (Rd3 u _ a b c d x y h)
theorem Cb2n (u : World) (a b c d : Int) (o : Obj) {g : Nat} (h : g = u.heap.size) : Calls Tryd.prog 15 #[.slice (some ⟨g, 0, none⟩) 2 2] ((u.alloc (.cells #[.int .i8 a, .int .i8 b, .int .i8 c, .int .i8 d] 29)).alloc o) fun e w' => e = .returned (.agg #[.int .i8 (fC (f2 a b c d) 2).1, .int .i8 (fC (f2 a b c d) 2).2]) ∧ Below ((u.alloc (.cells #[.int .i8 a, .int .i8 b, .int .i8 c, .int .i8 d] 29)).alloc o).heap.size ((u.alloc (.cells #[.int .i8 a, .int .i8 b, .int .i8 c, .int .i8 d] 29)).alloc o) w' :=
  Combine_any _ 2 2 _ _ (by decide) ((Rd2 u _ a b c d h).step (below_new (Below.refl _ _) _))
theorem Cb2s (u v : World) (a b c d : Int) {g : Nat} (h : g = u.heap.size) (hb : Below (u.alloc (.cells #[.int .i8 a, .int .i8 b, .int .i8 c, .int .i8 d] 29)).heap.size (u.alloc (.cells #[.int .i8 a, .int .i8 b, .int .i8 c, .int .i8 d] 29)) v) : Calls Tryd.prog 15 #[.slice (some ⟨g, 0, none⟩) 2 2] v fun e w' => e = .returned (.agg #[.int .i8 (fC (f2 a b c d) 2).1, .int .i8 (fC (f2 a b c d) 2).2]) ∧ Below v.heap.size v w' :=
  Combine_any _ 2 2 _ _ (by decide) ((Rd2 u _ a b c d h).step hb)
theorem Cb2t (u v : World) (a b c d : Int) (o : Obj) {g : Nat} (h : g = u.heap.size) (hb : Below ((u.alloc (.cells #[.int .i8 a, .int .i8 b, .int .i8 c, .int .i8 d] 29)).alloc o).heap.size ((u.alloc (.cells #[.int .i8 a, .int .i8 b, .int .i8 c, .int .i8 d] 29)).alloc o) v) : Calls Tryd.prog 15 #[.slice (some ⟨g, 0, none⟩) 2 2] v fun e w' => e = .returned (.agg #[.int .i8 (fC (f2 a b c d) 2).1, .int .i8 (fC (f2 a b c d) 2).2]) ∧ Below v.heap.size v w' :=
  Combine_any _ 2 2 _ _ (by decide) (((Rd2 u _ a b c d h).step (below_new (Below.refl _ _) _)).step hb)
theorem Cb2d (u : World) (a b c d : Int) {g : Nat} (h : g = u.heap.size) : Calls Tryd.prog 15 #[.slice (some ⟨g, 0, none⟩) 2 2] ((u.alloc (.cells #[.int .i8 a, .int .i8 b, .int .i8 c, .int .i8 d] 29)).drew) fun e w' => e = .returned (.agg #[.int .i8 (fC (f2 a b c d) 2).1, .int .i8 (fC (f2 a b c d) 2).2]) ∧ Below (((u.alloc (.cells #[.int .i8 a, .int .i8 b, .int .i8 c, .int .i8 d] 29)).drew)).heap.size (((u.alloc (.cells #[.int .i8 a, .int .i8 b, .int .i8 c, .int .i8 d] 29)).drew)) w' :=
  Combine_any _ 2 2 _ _ (by decide) ((Rd2 u _ a b c d h).step (below_drewN (Below.refl _ _) 1))
theorem Cb2nd (u : World) (a b c d : Int) (o : Obj) {g : Nat} (h : g = u.heap.size) : Calls Tryd.prog 15 #[.slice (some ⟨g, 0, none⟩) 2 2] ((((u.alloc (.cells #[.int .i8 a, .int .i8 b, .int .i8 c, .int .i8 d] 29)).alloc o)).drew) fun e w' => e = .returned (.agg #[.int .i8 (fC (f2 a b c d) 2).1, .int .i8 (fC (f2 a b c d) 2).2]) ∧ Below (((((u.alloc (.cells #[.int .i8 a, .int .i8 b, .int .i8 c, .int .i8 d] 29)).alloc o)).drew)).heap.size (((((u.alloc (.cells #[.int .i8 a, .int .i8 b, .int .i8 c, .int .i8 d] 29)).alloc o)).drew)) w' :=
  Combine_any _ 2 2 _ _ (by decide) ((Rd2 u _ a b c d h).step (below_drewN (below_new (Below.refl _ _) _) 1))
theorem Cb2sd (u v : World) (a b c d : Int) {g : Nat} (h : g = u.heap.size) (hb : Below ((u.alloc (.cells #[.int .i8 a, .int .i8 b, .int .i8 c, .int .i8 d] 29)).drew).heap.size ((u.alloc (.cells #[.int .i8 a, .int .i8 b, .int .i8 c, .int .i8 d] 29)).drew) v) : Calls Tryd.prog 15 #[.slice (some ⟨g, 0, none⟩) 2 2] v fun e w' => e = .returned (.agg #[.int .i8 (fC (f2 a b c d) 2).1, .int .i8 (fC (f2 a b c d) 2).2]) ∧ Below (v).heap.size (v) w' :=
  Combine_any _ 2 2 _ _ (by decide) (((Rd2 u _ a b c d h).step (below_drewN (Below.refl _ _) 1)).step hb)
theorem Cb2td (u v : World) (a b c d : Int) (o : Obj) {g : Nat} (h : g = u.heap.size) (hb : Below (((u.alloc (.cells #[.int .i8 a, .int .i8 b, .int .i8 c, .int .i8 d] 29)).alloc o).drew).heap.size (((u.alloc (.cells #[.int .i8 a, .int .i8 b, .int .i8 c, .int .i8 d] 29)).alloc o).drew) v) : Calls Tryd.prog 15 #[.slice (some ⟨g, 0, none⟩) 2 2] v fun e w' => e = .returned (.agg #[.int .i8 (fC (f2 a b c d) 2).1, .int .i8 (fC (f2 a b c d) 2).2]) ∧ Below (v).heap.size (v) w' :=
  Combine_any _ 2 2 _ _ (by decide) (((Rd2 u _ a b c d h).step (below_drewN (below_new (Below.refl _ _) _) 1)).step hb)
end Go.Proofs.YtjfhhlbgiepkpaaDoor
