/-
  Statements of layer 2 over the seat's translation, the walks: dominance. Conditions: the two tables read as the program lays them ('Tb').
-/
import Derived.Test.YtjfhhlbgiepkpaaDoorStrK
import Derived.Test.YtjfhhlbgiepkpaaDoorTwo
namespace Go.Proofs.YtjfhhlbgiepkpaaDoor
open Go Go.RowKit
attribute [local go_sem ↓] eql_p eql_r neq_p neq_r

theorem enter_norm (args : Array Value) (u : World) : (callFunc 18 args).run Tryd.prog u = .ok (.enter 18 args) u := by
  simp [callFunc, Tryd.func18, run_program]
  rfl
theorem alloc_iv (u : World) : (Instr.alloc 29 true (.tuple #[])).run Tryd.prog u = .ok (.pointer (some ⟨u.heap.size, 0, none⟩)) (u.alloc (.cells #[.int .i8 0, .int .i8 0] 29)) := by
  go_simp
theorem keep2 {w u v : World} {g7 g8 : Nat} {t : TypeId} {x0 x1 y0 y1 : Int} (H : Tb u ∧ Own u g7 t #[.int .i8 x0, .int .i8 x1] ∧ Own u g8 t #[.int .i8 y0, .int .i8 y1] ∧ Below w.heap.size w u) (hb : Below u.heap.size u v) :
    (Tb v ∧ Own v g7 t #[.int .i8 x0, .int .i8 x1] ∧ Own v g8 t #[.int .i8 y0, .int .i8 y1] ∧ Below w.heap.size w v) ∧
      v.cell? ⟨g7, 0, none⟩ = some (.int .i8 x0) ∧ v.cell? ⟨g7, 1, none⟩ = some (.int .i8 x1) ∧ v.cell? ⟨g8, 0, none⟩ = some (.int .i8 y0) ∧ v.cell? ⟨g8, 1, none⟩ = some (.int .i8 y1) :=
  ⟨⟨H.1.step hb, H.2.1.step hb, H.2.2.1.step hb, below_step H.2.2.2 hb⟩, (H.2.1.step hb).cell 0, (H.2.1.step hb).cell 1, (H.2.2.1.step hb).cell 0, (H.2.2.1.step hb).cell 1⟩
theorem dom_fC {x0 x1 y0 y1 : Int} [A : Nm x0 x1] [B : Nm y0 y1] (h : ¬ (x0 ≤ 0 ∧ 0 ≤ x1)) (hd : max y1 (-y0) < min (max x0 (-x0)) (max x1 (-x1))) : fC (f2 x0 x1 y0 y1) 2 = (x0, x1) ∧ fC (f2 y0 y1 x0 x1) 2 = (x0, x1) := by
  have h1 := norm_of A
  have h2 := norm_of B
  have h3 := comb_dom A.le B.le h hd
  have e : fC (f2 x0 x1 y0 y1) 2 = (x0, x1) := by rw [fC2, h1.1, h1.2, h2.1, h2.2, h3.1, h3.2]
  exact ⟨e, (alg1 x0 x1 y0 y1).trans e⟩

set_option maxRecDepth 100000 in
set_option maxHeartbeats 8000000 in
theorem walk_StrengthDominance (a0 a1 b0 b1 : Int) (w : World) [T : Tb w] : Calls Tryd.prog 9 #[.agg #[.int .i8 a0, .int .i8 a1], .agg #[.int .i8 b0, .int .i8 b1]] w fun e w' => e = .returned (.bool true) ∧ Below w.heap.size w w' := by
  have OA := (Own.new w 34 #[.int .i8 a0, .int .i8 a1]).alloc (.cells #[.int .i8 b0, .int .i8 b1] 34)
  have OB := Own.new (w.alloc (.cells #[.int .i8 a0, .int .i8 a1] 34)) 34 #[.int .i8 b0, .int .i8 b1]
  have B0 : Below w.heap.size w ((w.alloc (.cells #[.int .i8 a0, .int .i8 a1] 34)).alloc (.cells #[.int .i8 b0, .int .i8 b1] 34)) := below_new (below_new (Below.refl _ _) _) _
  simp only [World.size_alloc] at OB
  have T0 := Tb.step T B0
  have H := Lib.hid (And.intro OA (And.intro OB (And.intro B0 T0)))
  clear OA OB B0 T0 T
  go_enter Tryd.func9, Tryd.ntmps9
  go_wp2_with fail
  obtain ⟨OA, OB, B0, T0⟩ := H.out
  generalize (w.alloc (.cells #[.int .i8 a0, .int .i8 a1] 34)).alloc (.cells #[.int .i8 b0, .int .i8 b1] 34) = W at *
  refine two_calls (z := #[.int .i8 0, .int .i8 0]) (c1 := #[.int .i8 (nLo a0 a1), .int .i8 (nHi a0 a1)]) (c3 := #[.int .i8 (nLo b0 b1), .int .i8 (nHi b0 b1)]) (by kernel_rfl) _ _ _ _ _ _ _ _ rfl (by kernel_rfl) ⟨rfl, rfl, rfl⟩ ⟨rfl, rfl, rfl⟩ ⟨rfl, rfl, rfl⟩ ⟨rfl, rfl, rfl⟩ ⟨rfl, rfl, rfl⟩ ⟨rfl, rfl, rfl⟩ ⟨rfl, rfl, rfl⟩ ⟨rfl, rfl, rfl⟩ (by kernel_rfl) (by kernel_rfl) (by kernel_rfl) (by kernel_rfl) (by decide) (by decide) (by decide) (by simp) rfl rfl
    OA OB Tryd.underlying34 rfl (by kernel_rfl) (by kernel_rfl) (by kernel_rfl) (by kernel_rfl) rfl rfl (by kernel_rfl) (by kernel_rfl) alloc_iv enter_norm enter_norm (fun u => norm_any _ _ u) (fun u => norm_any _ _ u) ?_
  intro k4 k5 w' hB O4 O5
  have B1 := below_step B0 hB
  have T1 := T0.step hB
  have n1 := (inferInstance : Nm (nLo a0 a1) (nHi a0 a1))
  have n2 := (inferInstance : Nm (nLo b0 b1) (nHi b0 b1))
  have hd := @dom_fC (nLo a0 a1) (nHi a0 a1) (nLo b0 b1) (nHi b0 b1) n1 n2
  clear H OA OB B0 T0 hB
  generalize nLo a0 a1 = x0 at *
  generalize nHi a0 a1 = x1 at *
  generalize nLo b0 b1 = y0 at *
  generalize nHi b0 b1 = y1 at *
  obtain ⟨xl, xm, xh⟩ := n1
  obtain ⟨yl, ym, yh⟩ := n2
  have H := Lib.hid (And.intro T1 (And.intro O4 (And.intro O5 B1)))
  have q0 := O4.cell 0
  have q1 := O4.cell 1
  have q2 := O5.cell 0
  have q3 := O5.cell 1
  clear O4 O5 B1 T1
  simp only [Act.put, List.setIfInBounds_toArray, List.set_cons_zero, List.set_cons_succ]
  by_cases hc : (x0 ≤ 0 ∧ 0 ≤ x1) ∨ min (max x0 (-x0)) (max x1 (-x1)) ≤ max y1 (-y0)
  · clear hd
    have hs : (x0 ≤ 0 ∧ 0 ≤ x1) ∨ 0 < x0 ∨ x1 < 0 := by omega
    replace hc := Lib.hid hc
    rcases hs with ⟨s1, s2⟩ | s1 | s1
    all_goals
      go_wp2_with (go_at_call 13; refine (awake_any (T := H.out.1) _).mono ?_; rintro e w1 ⟨rfl, hb⟩)
      all_goals first
        | (exfalso; have := hc.out; omega)
        | (go_ret; exact ⟨rfl, below_step H.out.2.2.2 hb⟩)
  · obtain ⟨d1, d2⟩ := hd (fun h => hc (.inl h)) (by omega)
    have hs : 0 < x0 ∨ x1 < 0 := by omega
    replace hc := Lib.hid hc
    replace d1 := Lib.hid d1
    replace d2 := Lib.hid d2
    rcases hs with s1 | s1
    all_goals
      go_wp2_with fail
      all_goals first
        | (exfalso; have := hc.out; omega)
        | skip
      all_goals
        have d1 := d1.out
        have d2 := d2.out
        have S0 := keep2 H.out (below_drewN (Below.refl _ _) 1)
        go_region_held3 (fun u => (Tb u ∧ Own u k4 29 #[.int .i8 x0, .int .i8 x1] ∧ Own u k5 29 #[.int .i8 y0, .int .i8 y1] ∧ Below w.heap.size w u) ∧ u.cell? ⟨k4, 0, none⟩ = some (.int .i8 x0) ∧ u.cell? ⟨k4, 1, none⟩ = some (.int .i8 x1) ∧ u.cell? ⟨k5, 0, none⟩ = some (.int .i8 y0) ∧ u.cell? ⟨k5, 1, none⟩ = some (.int .i8 y1))
          (first | assumption | (exact keep2 (And.left (by assumption)) (by first | assumption | exact below_new (Below.refl _ _) _)))
          ((first
            | (go_at_call 15; (with_reducible refine (Cb2 _ _ _ _ _ ?_).mono ?_); rotate_left; rintro e w2 ⟨rfl, hb⟩; rotate_left; (first | rfl | (simp; done)))
            | (go_at_call 15; (with_reducible refine (Cb2d _ _ _ _ _ ?_).mono ?_); rotate_left; rintro e w2 ⟨rfl, hb⟩; rotate_left; (first | rfl | (simp; done)))
            | (go_at_call 13; refine (awake_any (T := And.left (And.left (by assumption))) _).mono ?_; rintro e w2 ⟨rfl, hb⟩)))
        go_wp2
        go_ret
        exact ⟨rfl, And.right (And.right (And.right (And.left (by assumption))))⟩
end Go.Proofs.YtjfhhlbgiepkpaaDoor
