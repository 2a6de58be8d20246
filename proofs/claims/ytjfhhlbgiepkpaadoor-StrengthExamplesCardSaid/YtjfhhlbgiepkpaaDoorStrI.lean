/-
  The examples that every statement of layer 2 asks first or last, over the seat's translation. Conditions: the two tables read as the program lays them ('Tb').
-/
import Derived.Test.YtjfhhlbgiepkpaaDoorStrH
import Derived.Test.YtjfhhlbgiepkpaaDoorStrE
namespace Go.Proofs.YtjfhhlbgiepkpaaDoor
open Go Go.RowKit
attribute [local go_sem ↓] eql_p eql_r neq_p neq_r

/-- A whole array stored into a block that was just made. -/
theorem store_new {P : Program} {ops : Array Oper} {rest : List Oper} {o : Oper} {a : Act} {w0 : World} {Q : Exit → Act → World → Prop} (hgd : o.guard = none) (ty : TypeId) (x y : Operand) (ho : o.op = .store ty x y)
    (hd : o.dst = none) (t : TypeId) (old cells : Array Value) (hx : a.eval x = .pointer (some ⟨w0.heap.size, 0, none⟩)) (hy : a.eval y = .agg cells)
    (hi : (P.info? ty).map (·.size) = some cells.size) (hold : old.size = cells.size) (h1 : cells.all (·.oneCell') = true)
    (h : wpList P ops Q rest a (w0.alloc (.cells cells t))) : wpList P ops Q (o :: rest) a (w0.alloc (.cells old t)) := by
  refine wpList_store_row hgd ty x y ho w0.heap.size cells hx hy t old (by show (w0.heap.push _)[w0.heap.size]? = _; simp) hi hold h1 ?_
  have e : (w0.alloc (.cells old t)).setRow w0.heap.size cells = w0.alloc (.cells cells t) := by
    have e' : (w0.heap.push (.cells old t)).modify w0.heap.size (fun | .cells _ e f => .cells cells e f | o => o) = w0.heap.push (.cells cells t) := by
      apply Array.ext_getElem?
      intro i
      rw [Array.getElem?_modify]
      by_cases hi : w0.heap.size = i
      · subst hi; simp
      · rw [if_neg hi]
        by_cases hl : i < w0.heap.size
        · rw [Array.getElem?_push_lt hl, Array.getElem?_push_lt hl]
        · rw [Array.getElem?_eq_none (by simp; omega), Array.getElem?_eq_none (by simp; omega)]
    unfold World.setRow
    unfold World.alloc
    exact congrArg (fun h => { w0 with heap := h }) e'
  rw [hd, e]
  exact h

/-- Two intervals as a list. -/
def f2 (a b c d : Int) (i : Nat) : Int × Int := if i = 0 then (a, b) else (c, d)
theorem RdS2 (u : World) (t : TypeId) (a b c d : Int) : RdS (u.alloc (.cells #[.int .i8 a, .int .i8 b, .int .i8 c, .int .i8 d] t)) (some ⟨u.heap.size, 0, none⟩) 2 (f2 a b c d) := fun _ =>
  ⟨u.heap.size, rfl, by simp, fun i hi => by
    have O := (Own.new u t #[.int .i8 a, .int .i8 b, .int .i8 c, .int .i8 d]).cell
    rw [O, O]
    obtain rfl | rfl : i = 0 ∨ i = 1 := by omega
    all_goals exact ⟨rfl, rfl⟩⟩
theorem keepA {w u v : World} {b : Nat} {t : TypeId} {x y : Int} (T : Tb u) (O : Own u b t #[.int .i8 x, .int .i8 y]) (B : Below w.heap.size w u) (hb : Below u.heap.size u v) :
    (Tb v ∧ Own v b t #[.int .i8 x, .int .i8 y] ∧ Below w.heap.size w v) ∧ v.cell? ⟨b, 0, none⟩ = some (.int .i8 x) ∧ v.cell? ⟨b, 1, none⟩ = some (.int .i8 y) :=
  ⟨⟨T.step hb, O.step hb, below_step B hb⟩, (O.step hb).cell 0, (O.step hb).cell 1⟩
theorem name_b (s : Int) (one : Bool) (w : World) (h : 0 ≤ s) [T : Tb w] : Calls Tryd.prog 27 #[.int .u8 s, .bool one] w fun e w' => e = .returned (.string (nameB s one)) ∧ Below w.heap.size w w' :=
  (name_any s one w h).mono fun _ _ ⟨he, m, hm⟩ => ⟨he, hm ▸ below_drewN (Below.refl _ _) m⟩
theorem parse_highz0 (w : World) [T : Tb w] : Calls Tryd.prog 29 #[.string ⟨#[104, 105, 103, 104, 122, 48]⟩] w fun e w' => e = .returned (.tuple #[.int .u8 0, .bool false, .bool true]) ∧ Below w.heap.size w w' :=
  (parse_any _ w).mono fun _ _ ⟨he, m, hm⟩ => ⟨he.trans (congrArg Ending.returned (show tup (pf _ 8) = _ by kernel_rfl)), hm ▸ below_drewN (Below.refl _ _) m⟩

set_option maxRecDepth 100000 in
set_option maxHeartbeats 4000000 in
theorem awake_any (w : World) [T : Tb w] : Calls Tryd.prog 13 #[] w fun e w' => e = .returned (.bool true) ∧ Below w.heap.size w w' := by
  have k0 : fC (f2 5 5 (-5) (-5)) 2 = (-5, 5) := by kernel_rfl
  have k1 : fC (f2 (-5) 5 6 6) 2 = (6, 6) := by kernel_rfl
  have k2 : fC (f2 3 5 (-4) (-4)) 2 = (-4, 5) := by kernel_rfl
  have k3 : drLo 1 6 5 = 5 := by kernel_rfl
  have k4 : drHi 1 6 5 = 5 := by kernel_rfl
  have k5 : drLo 2 6 5 = -6 := by kernel_rfl
  have k6 : drHi 2 6 5 = 5 := by kernel_rfl
  have k7 : readI (-5) 5 = 2 := by kernel_rfl
  have k8 : readI 6 6 = 1 := by kernel_rfl
  have k9 : readI 0 0 = 3 := by kernel_rfl
  have k10 : readI 0 3 = 2 := by kernel_rfl
  have k11 : readI 1 3 = 1 := by kernel_rfl
  have k12 : nameB 5 true = ⟨#[112, 117, 108, 108, 49]⟩ := by kernel_rfl
  have B := Lib.hid (Below.refl w.heap.size w)
  go_enter Tryd.func13, Tryd.ntmps13
  go_wp2_with (first | (with_reducible refine store_new rfl 29 (.tmp 4) (.tmp 13) rfl rfl 29 _ #[.int .i8 (-5), .int .i8 5] rfl rfl (by kernel_rfl) (by kernel_rfl) (by kernel_rfl) ?_; have O := Lib.hid (Own.new _ _ _)) | (go_at_call 29; refine (parse_highz0 _).mono ?_; rintro e w1 ⟨rfl, hb⟩; haveI := Tb.step (by infer_instance) hb; replace B := Lib.hid (below_step (by first | exact B.out | exact below_new B.out _) hb); (try (replace O := Lib.hid ((by first | exact O.out | exact O.out.alloc _ : Own _ _ _ _).step hb); have q0 := O.out.cell 0; have q1 := O.out.cell 1; simp only [List.getElem?_toArray, List.getElem?_cons_zero, List.getElem?_cons_succ] at q0 q1)); clear hb) | (go_at_call 31; refine (to_any _ _ _).mono ?_; rintro e w1 ⟨rfl, hb⟩; haveI := Tb.step (by infer_instance) hb; replace B := Lib.hid (below_step (by first | exact B.out | exact below_new B.out _) hb); (try (replace O := Lib.hid ((by first | exact O.out | exact O.out.alloc _ : Own _ _ _ _).step hb); have q0 := O.out.cell 0; have q1 := O.out.cell 1; simp only [List.getElem?_toArray, List.getElem?_cons_zero, List.getElem?_cons_succ] at q0 q1)); clear hb) | (go_at_call 15; refine (Combine_any _ _ _ _ _ (by decide) (RdS2 _ _ _ _ _ _)).mono ?_; rintro e w1 ⟨rfl, hb⟩; haveI := Tb.step (by infer_instance) hb; replace B := Lib.hid (below_step (by first | exact B.out | exact below_new B.out _) hb); (try (replace O := Lib.hid ((by first | exact O.out | exact O.out.alloc _ : Own _ _ _ _).step hb); have q0 := O.out.cell 0; have q1 := O.out.cell 1; simp only [List.getElem?_toArray, List.getElem?_cons_zero, List.getElem?_cons_succ] at q0 q1)); clear hb) | (go_at_call 25; refine (drive_any _ _ _ _ (by decide) (by decide)).mono ?_; rintro e w1 ⟨rfl, hb⟩; haveI := Tb.step (by infer_instance) hb; replace B := Lib.hid (below_step (by first | exact B.out | exact below_new B.out _) hb); (try (replace O := Lib.hid ((by first | exact O.out | exact O.out.alloc _ : Own _ _ _ _).step hb); have q0 := O.out.cell 0; have q1 := O.out.cell 1; simp only [List.getElem?_toArray, List.getElem?_cons_zero, List.getElem?_cons_succ] at q0 q1)); clear hb) | (go_at_call 21; refine (read_any _ _ _).mono ?_; rintro e w1 ⟨rfl, hb⟩; haveI := Tb.step (by infer_instance) hb; replace B := Lib.hid (below_step (by first | exact B.out | exact below_new B.out _) hb); (try (replace O := Lib.hid ((by first | exact O.out | exact O.out.alloc _ : Own _ _ _ _).step hb); have q0 := O.out.cell 0; have q1 := O.out.cell 1; simp only [List.getElem?_toArray, List.getElem?_cons_zero, List.getElem?_cons_succ] at q0 q1)); clear hb) | (go_at_call 27; refine (name_any _ _ _ (by decide)).mono ?_; rintro e w1 ⟨rfl, m, rfl⟩; replace B := Lib.hid (below_drewN B.out m)))
  have hA := keepA (Tb.step (by assumption) (below_new (Below.refl _ _) (.cells #[.int .i8 (-5), .int .i8 5] 29))) (Own.new w1 29 #[.int .i8 (-5), .int .i8 5]) (below_new B.out (.cells #[.int .i8 (-5), .int .i8 5] 29)) (below_drewN (Below.refl _ _) 1)
  clear B
  generalize w1.alloc (.cells #[.int .i8 (-5), .int .i8 5] 29) = W5 at *
  simp only [List.append_eq, List.cons_append, List.nil_append]
  go_region_held3 (fun u => (Tb u ∧ Own u w1.heap.size 29 #[.int .i8 (-5), .int .i8 5] ∧ Below w.heap.size w u) ∧ u.cell? ⟨w1.heap.size, 0, none⟩ = some (.int .i8 (-5)) ∧ u.cell? ⟨w1.heap.size, 1, none⟩ = some (.int .i8 5))
    (first | assumption | (exact keepA (And.left (And.left (by assumption))) (And.left (And.right (And.left (by assumption)))) (And.right (And.right (And.left (by assumption)))) (by first | assumption | exact below_new (Below.refl _ _) _)))
    ((first
      | (go_at_call 31; refine (to_any _ _ _).mono ?_; rintro e w2 ⟨rfl, hb⟩)
      | (go_at_call 15; refine (Combine_any _ _ _ _ _ (by decide) (RdS2 _ _ _ _ _ _)).mono ?_; rintro e w2 ⟨rfl, hb⟩)
      | (go_at_call 25; refine (drive_any _ _ _ _ (by decide) (by decide)).mono ?_; rintro e w2 ⟨rfl, hb⟩)
      | (go_at_call 21; refine (read_any _ _ _).mono ?_; rintro e w2 ⟨rfl, hb⟩)
      | (go_at_call 27; refine (name_b (T := And.left (And.left (by assumption))) _ _ _ (by decide)).mono ?_; rintro e w2 ⟨rfl, hb⟩)))
  go_wp2
  go_ret
  exact ⟨rfl, And.right (And.right (And.left (by assumption)))⟩
end Go.Proofs.YtjfhhlbgiepkpaaDoor
