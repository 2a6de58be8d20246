/-
  Statements of layer 2 over the seat's translation, the walks: monotony. Conditions: the two tables read as the program lays them ('Tb').
-/
import Derived.Test.YtjfhhlbgiepkpaaDoorStrN
namespace Go.Proofs.YtjfhhlbgiepkpaaDoor
open Go Go.RowKit
attribute [local go_sem ↓] eql_p eql_r neq_p neq_r

def leB (a b : Int) : Bool := a == b || (!(a == 0 || a == 1) && (b == 0 || b == 1))
def bit4 (a : Int) : Prop := a = 0 ∨ a = 1 ∨ a = 2 ∨ a = 3
set_option maxHeartbeats 4000000 in
theorem leq_any (a b : Int) (w : World) (ha : bit4 a) (hb : bit4 b) : Calls Tryd.prog 34 #[.int .u8 a, .int .u8 b] w fun e w' => e = .returned (.bool (leB a b)) ∧ Below w.heap.size w w' := by
  unfold bit4 at ha hb
  rcases ha with rfl | rfl | rfl | rfl <;> rcases hb with rfl | rfl | rfl | rfl
  all_goals
    go_enter Tryd.func34, Tryd.ntmps34
    go_wp2
    go_ret
    exact ⟨rfl, Below.refl _ _⟩
theorem read4 (lo hi : Int) : bit4 (readI lo hi) := by
  unfold bit4 readI
  (repeat' split) <;> simp
theorem read_mono {x0 x1 p0 p1 : Int} [A : Nm x0 x1] [B : Nm p0 p1] (h0 : x0 ≤ p0) (h1 : p1 ≤ x1) (hz : ¬ (p0 = 0 ∧ p1 = 0)) : leB (readI x0 x1) (readI p0 p1) = true := by
  have n1 := norm_of A
  have n2 := norm_of B
  have := A.le
  have := B.le
  unfold readI
  rw [n1.1, n1.2, n2.1, n2.2, if_neg hz]
  by_cases a : x1 < 0
  · rw [if_pos a, if_pos (by omega)]; rfl
  · rw [if_neg a]
    by_cases b : 0 < x0
    · rw [if_pos b, if_neg (by omega), if_pos (by omega)]; rfl
    · rw [if_neg b, if_neg (by omega)]
      (repeat' split) <;> rfl
theorem mono_fC {x0 x1 y0 y1 p0 p1 q0 q1 : Int} [A : Nm x0 x1] [B : Nm y0 y1] [C : Nm p0 p1] [D : Nm q0 q1] (h0 : x0 ≤ p0) (h1 : p1 ≤ x1) (h2 : y0 ≤ q0) (h3 : q1 ≤ y1) :
    decide ((fC (f2 x0 x1 y0 y1) 2).1 ≤ (fC (f2 p0 p1 q0 q1) 2).1 ∧ (fC (f2 p0 p1 q0 q1) 2).2 ≤ (fC (f2 x0 x1 y0 y1) 2).2) = true := by
  have n1 := norm_of A
  have n2 := norm_of B
  have n3 := norm_of C
  have n4 := norm_of D
  rw [fC2, fC2, n1.1, n1.2, n2.1, n2.2, n3.1, n3.2, n4.1, n4.2]
  exact decide_eq_true (comb_mono C.le D.le ⟨h0, h1⟩ ⟨h2, h3⟩)
theorem keepQ {w u v : World} {g7 g8 g9 g10 : Nat} {t : TypeId} {x0 x1 y0 y1 z0 z1 s0 s1 : Int} (H : Tb u ∧ Own u g7 t #[.int .i8 x0, .int .i8 x1] ∧ Own u g8 t #[.int .i8 y0, .int .i8 y1] ∧ Own u g9 t #[.int .i8 z0, .int .i8 z1] ∧ Own u g10 t #[.int .i8 s0, .int .i8 s1] ∧ Below w.heap.size w u) (hb : Below u.heap.size u v) :
    Tb v ∧ Own v g7 t #[.int .i8 x0, .int .i8 x1] ∧ Own v g8 t #[.int .i8 y0, .int .i8 y1] ∧ Own v g9 t #[.int .i8 z0, .int .i8 z1] ∧ Own v g10 t #[.int .i8 s0, .int .i8 s1] ∧ Below w.heap.size w v := (keepS4 H hb).1

set_option maxRecDepth 100000 in
set_option maxHeartbeats 8000000 in
theorem walk_StrengthMonotone (a0 a1 b0 b1 d0 d1 e0 e1 : Int) (w : World) [T : Tb w] : Calls Tryd.prog 10 #[.agg #[.int .i8 a0, .int .i8 a1], .agg #[.int .i8 b0, .int .i8 b1], .agg #[.int .i8 d0, .int .i8 d1], .agg #[.int .i8 e0, .int .i8 e1]] w fun e w' => e = .returned (.bool true) ∧ Below w.heap.size w w' := by
  have OA := (((Own.new w 34 #[.int .i8 a0, .int .i8 a1]).alloc (.cells #[.int .i8 b0, .int .i8 b1] 34)).alloc (.cells #[.int .i8 d0, .int .i8 d1] 34)).alloc (.cells #[.int .i8 e0, .int .i8 e1] 34)
  have OB := ((Own.new (w.alloc (.cells #[.int .i8 a0, .int .i8 a1] 34)) 34 #[.int .i8 b0, .int .i8 b1]).alloc (.cells #[.int .i8 d0, .int .i8 d1] 34)).alloc (.cells #[.int .i8 e0, .int .i8 e1] 34)
  have OC := (Own.new ((w.alloc (.cells #[.int .i8 a0, .int .i8 a1] 34)).alloc (.cells #[.int .i8 b0, .int .i8 b1] 34)) 34 #[.int .i8 d0, .int .i8 d1]).alloc (.cells #[.int .i8 e0, .int .i8 e1] 34)
  have OD := Own.new (((w.alloc (.cells #[.int .i8 a0, .int .i8 a1] 34)).alloc (.cells #[.int .i8 b0, .int .i8 b1] 34)).alloc (.cells #[.int .i8 d0, .int .i8 d1] 34)) 34 #[.int .i8 e0, .int .i8 e1]
  have B0 : Below w.heap.size w ((((w.alloc (.cells #[.int .i8 a0, .int .i8 a1] 34)).alloc (.cells #[.int .i8 b0, .int .i8 b1] 34)).alloc (.cells #[.int .i8 d0, .int .i8 d1] 34)).alloc (.cells #[.int .i8 e0, .int .i8 e1] 34)) := below_new (below_new (below_new (below_new (Below.refl _ _) _) _) _) _
  simp only [World.size_alloc] at OB OC OD
  have T0 := Tb.step T B0
  have H := Lib.hid (And.intro OA (And.intro OB (And.intro OC (And.intro OD (And.intro B0 T0)))))
  clear OA OB OC OD B0 T0 T
  go_enter Tryd.func10, Tryd.ntmps10
  go_wp2_with fail
  obtain ⟨OA, OB, OC, OD, B0, T0⟩ := H.out
  clear H
  generalize ((((w.alloc (.cells #[.int .i8 a0, .int .i8 a1] 34)).alloc (.cells #[.int .i8 b0, .int .i8 b1] 34)).alloc (.cells #[.int .i8 d0, .int .i8 d1] 34)).alloc (.cells #[.int .i8 e0, .int .i8 e1] 34)) = W at *
  refine two_calls (z := #[.int .i8 0, .int .i8 0]) (c1 := #[.int .i8 (nLo a0 a1), .int .i8 (nHi a0 a1)]) (c3 := #[.int .i8 (nLo b0 b1), .int .i8 (nHi b0 b1)]) (by kernel_rfl) _ _ _ _ _ _ _ _ rfl (by kernel_rfl) ⟨rfl, rfl, rfl⟩ ⟨rfl, rfl, rfl⟩ ⟨rfl, rfl, rfl⟩ ⟨rfl, rfl, rfl⟩ ⟨rfl, rfl, rfl⟩ ⟨rfl, rfl, rfl⟩ ⟨rfl, rfl, rfl⟩ ⟨rfl, rfl, rfl⟩ (by kernel_rfl) (by kernel_rfl) (by kernel_rfl) (by kernel_rfl) (by decide) (by decide) (by decide) (by simp) rfl rfl
    OA OB Tryd.underlying34 rfl (by kernel_rfl) (by kernel_rfl) (by kernel_rfl) (by kernel_rfl) rfl rfl (by kernel_rfl) (by kernel_rfl) alloc_iv enter_norm enter_norm (fun u => norm_any _ _ u) (fun u => norm_any _ _ u) ?_
  intro k9 k10 W1 hB O9 O10
  replace OC := OC.below hB OC.lt
  replace OD := OD.below hB OD.lt
  replace B0 := below_step B0 hB
  replace T0 := T0.step hB
  clear OA OB hB
  have H := Lib.hid (And.intro OC (And.intro OD (And.intro B0 (And.intro T0 (And.intro O9 O10)))))
  clear OC OD B0 T0 O9 O10
  simp only [Act.put, List.setIfInBounds_toArray, List.set_cons_zero, List.set_cons_succ]
  go_wp2_with fail
  obtain ⟨OA, OB, B0, T0, O9, O10⟩ := H.out
  clear H
  refine two_calls (z := #[.int .i8 0, .int .i8 0]) (c1 := #[.int .i8 (nLo d0 d1), .int .i8 (nHi d0 d1)]) (c3 := #[.int .i8 (nLo e0 e1), .int .i8 (nHi e0 e1)]) (by kernel_rfl) _ _ _ _ _ _ _ _ rfl (by kernel_rfl) ⟨rfl, rfl, rfl⟩ ⟨rfl, rfl, rfl⟩ ⟨rfl, rfl, rfl⟩ ⟨rfl, rfl, rfl⟩ ⟨rfl, rfl, rfl⟩ ⟨rfl, rfl, rfl⟩ ⟨rfl, rfl, rfl⟩ ⟨rfl, rfl, rfl⟩ (by kernel_rfl) (by kernel_rfl) (by kernel_rfl) (by kernel_rfl) (by decide) (by decide) (by decide) (by simp) rfl rfl
    OA OB Tryd.underlying34 rfl (by kernel_rfl) (by kernel_rfl) (by kernel_rfl) (by kernel_rfl) rfl rfl (by kernel_rfl) (by kernel_rfl) alloc_iv enter_norm enter_norm (fun u => norm_any _ _ u) (fun u => norm_any _ _ u) ?_
  intro k11 k12 W2 hB O11 O12
  replace O9 := O9.below hB O9.lt
  replace O10 := O10.below hB O10.lt
  replace B0 := below_step B0 hB
  replace T0 := T0.step hB
  clear OA OB hB
  have n1 := (inferInstance : Nm (nLo a0 a1) (nHi a0 a1))
  have n2 := (inferInstance : Nm (nLo b0 b1) (nHi b0 b1))
  have n3 := (inferInstance : Nm (nLo d0 d1) (nHi d0 d1))
  have n4 := (inferInstance : Nm (nLo e0 e1) (nHi e0 e1))
  have hm := @mono_fC (nLo a0 a1) (nHi a0 a1) (nLo b0 b1) (nHi b0 b1) (nLo d0 d1) (nHi d0 d1) (nLo e0 e1) (nHi e0 e1) n1 n2 n3 n4
  have hr := @read_mono (nLo a0 a1) (nHi a0 a1) (nLo d0 d1) (nHi d0 d1) n1 n3
  clear n1 n2 n3 n4
  generalize nLo a0 a1 = x0 at *
  generalize nHi a0 a1 = x1 at *
  generalize nLo b0 b1 = y0 at *
  generalize nHi b0 b1 = y1 at *
  generalize nLo d0 d1 = p0 at *
  generalize nHi d0 d1 = p1 at *
  generalize nLo e0 e1 = q0 at *
  generalize nHi e0 e1 = q1 at *
  have H := Lib.hid (And.intro T0 (And.intro O9 (And.intro O10 (And.intro O11 (And.intro O12 B0)))))
  have c0 := O9.cell 0
  have c1 := O9.cell 1
  have c2 := O10.cell 0
  have c3 := O10.cell 1
  have c4 := O11.cell 0
  have c5 := O11.cell 1
  have c6 := O12.cell 0
  have c7 := O12.cell 1
  clear O9 O10 O11 O12 B0 T0
  simp only [Act.put, List.setIfInBounds_toArray, List.set_cons_zero, List.set_cons_succ]
  by_cases hw : (x0 ≤ p0 ∧ p1 ≤ x1) ∧ (y0 ≤ q0 ∧ q1 ≤ y1)
  · obtain ⟨⟨i0, i1⟩, i2, i3⟩ := hw
    have g1 : decide (x0 ≤ p0 ∧ p1 ≤ x1) = true := decide_eq_true ⟨i0, i1⟩
    have g2 : decide (y0 ≤ q0 ∧ q1 ≤ y1) = true := decide_eq_true ⟨i2, i3⟩
    have g3 := hm i0 i1 i2 i3
    have hz : (p0 = 0 ∧ p1 = 0) ∨ ((p0 == 0) = false ∧ leB (readI x0 x1) (readI p0 p1) = true) ∨ (p0 = 0 ∧ (p1 == 0) = false ∧ leB (readI x0 x1) (readI p0 p1) = true) := by
      by_cases h : p0 = 0
      · by_cases h' : p1 = 0
        · exact .inl ⟨h, h'⟩
        · exact .inr (.inr ⟨h, by simpa using h', hr i0 i1 (fun z => h' z.2)⟩)
      · exact .inr (.inl ⟨by simpa using h, hr i0 i1 (fun z => h z.1)⟩)
    clear hm hr i0 i1 i2 i3
    rcases hz with ⟨rfl, rfl⟩ | ⟨hz, hl⟩ | ⟨rfl, hz, hl⟩
    · skip
      go_wp2_with (go_at_call 33; refine (within_any _ _ _ _ _).mono ?_; rintro e w1 ⟨rfl, hb⟩; replace H := Lib.hid (keepQ H.out hb); clear c0 c1 c2 c3 c4 c5 c6 c7; obtain ⟨_, O9, O10, O11, O12, _⟩ := H.out; have c0 := O9.cell 0; have c1 := O9.cell 1; have c2 := O10.cell 0; have c3 := O10.cell 1; have c4 := O11.cell 0; have c5 := O11.cell 1; have c6 := O12.cell 0; have c7 := O12.cell 1; clear O9 O10 O11 O12 hb)
      have S0 := keepS4 H.out (below_drewN (Below.refl _ _) 1)
      go_region_held3 (fun u => (Tb u ∧ Own u k9 29 #[.int .i8 x0, .int .i8 x1] ∧ Own u k10 29 #[.int .i8 y0, .int .i8 y1] ∧ Own u k11 29 #[.int .i8 0, .int .i8 0] ∧ Own u k12 29 #[.int .i8 q0, .int .i8 q1] ∧ Below w.heap.size w u) ∧ u.cell? ⟨k9, 0, none⟩ = some (.int .i8 x0) ∧ u.cell? ⟨k9, 1, none⟩ = some (.int .i8 x1) ∧ u.cell? ⟨k10, 0, none⟩ = some (.int .i8 y0) ∧ u.cell? ⟨k10, 1, none⟩ = some (.int .i8 y1) ∧ u.cell? ⟨k11, 0, none⟩ = some (.int .i8 0) ∧ u.cell? ⟨k11, 1, none⟩ = some (.int .i8 0) ∧ u.cell? ⟨k12, 0, none⟩ = some (.int .i8 q0) ∧ u.cell? ⟨k12, 1, none⟩ = some (.int .i8 q1))
        (first | assumption | (exact keepS4 (And.left (by assumption)) (by first | assumption | exact below_new (Below.refl _ _) _)))
        ((first
          | (go_at_call 15; apply Calls.mono; (with_reducible apply Cb2); (case h => first | rfl | (simp; done)); rintro e w2 ⟨rfl, hb⟩)
          | (go_at_call 15; apply Calls.mono; (with_reducible apply Cb2d); (case h => first | rfl | (simp; done)); rintro e w2 ⟨rfl, hb⟩)
          | (go_at_call 15; apply Calls.mono; (with_reducible apply Cb2nd); (case h => first | rfl | (simp; done)); rintro e w2 ⟨rfl, hb⟩)
          | (go_at_call 15; apply Calls.mono; (with_reducible apply Cb2sd); (case hb => assumption); (case h => first | rfl | (simp; done)); rintro e w2 ⟨rfl, hb⟩)
          | (go_at_call 15; apply Calls.mono; (with_reducible apply Cb2td); (case hb => assumption); (case h => first | rfl | (simp; done)); rintro e w2 ⟨rfl, hb⟩)
          | (go_at_call 33; refine (within_any _ _ _ _ _).mono ?_; rintro e w2 ⟨rfl, hb⟩)))
      all_goals
        go_wp2_with fail
        have hh : (Tb w2 ∧ Own w2 k9 29 #[.int .i8 x0, .int .i8 x1] ∧ Own w2 k10 29 #[.int .i8 y0, .int .i8 y1] ∧ Own w2 k11 29 #[.int .i8 0, .int .i8 0] ∧ Own w2 k12 29 #[.int .i8 q0, .int .i8 q1] ∧ Below w.heap.size w w2) ∧ w2.cell? ⟨k9, 0, none⟩ = some (.int .i8 x0) ∧ w2.cell? ⟨k9, 1, none⟩ = some (.int .i8 x1) ∧ w2.cell? ⟨k10, 0, none⟩ = some (.int .i8 y0) ∧ w2.cell? ⟨k10, 1, none⟩ = some (.int .i8 y1) ∧ w2.cell? ⟨k11, 0, none⟩ = some (.int .i8 0) ∧ w2.cell? ⟨k11, 1, none⟩ = some (.int .i8 0) ∧ w2.cell? ⟨k12, 0, none⟩ = some (.int .i8 q0) ∧ w2.cell? ⟨k12, 1, none⟩ = some (.int .i8 q1) := by assumption
        obtain ⟨H9, r0, r1, r2, r3, r4, r5, r6, r7⟩ := hh
        replace H9 := Lib.hid H9
        go_region_with ((first
          | (go_at_call 31; refine (to_any _ _ _).mono ?_; rintro e w3 ⟨rfl, hb3⟩; obtain ⟨H8, t0, t1, t2, t3, t4, t5, t6, t7⟩ := keepS4 H9.out (below_of_drew hb3); clear hb3; replace H8 := Lib.hid H8)
          | (go_at_call 13; refine (awake_any (T := H8.out.1) _).mono ?_; rintro e w4 ⟨rfl, hb4⟩)))
        all_goals
          go_wp2
          go_ret
          exact ⟨rfl, below_step H8.out.2.2.2.2.2 hb4⟩
    · skip
      go_wp2_with (go_at_call 33; refine (within_any _ _ _ _ _).mono ?_; rintro e w1 ⟨rfl, hb⟩; replace H := Lib.hid (keepQ H.out hb); clear c0 c1 c2 c3 c4 c5 c6 c7; obtain ⟨_, O9, O10, O11, O12, _⟩ := H.out; have c0 := O9.cell 0; have c1 := O9.cell 1; have c2 := O10.cell 0; have c3 := O10.cell 1; have c4 := O11.cell 0; have c5 := O11.cell 1; have c6 := O12.cell 0; have c7 := O12.cell 1; clear O9 O10 O11 O12 hb)
      have S0 := keepS4 H.out (below_drewN (Below.refl _ _) 1)
      go_region_held3 (fun u => (Tb u ∧ Own u k9 29 #[.int .i8 x0, .int .i8 x1] ∧ Own u k10 29 #[.int .i8 y0, .int .i8 y1] ∧ Own u k11 29 #[.int .i8 p0, .int .i8 p1] ∧ Own u k12 29 #[.int .i8 q0, .int .i8 q1] ∧ Below w.heap.size w u) ∧ u.cell? ⟨k9, 0, none⟩ = some (.int .i8 x0) ∧ u.cell? ⟨k9, 1, none⟩ = some (.int .i8 x1) ∧ u.cell? ⟨k10, 0, none⟩ = some (.int .i8 y0) ∧ u.cell? ⟨k10, 1, none⟩ = some (.int .i8 y1) ∧ u.cell? ⟨k11, 0, none⟩ = some (.int .i8 p0) ∧ u.cell? ⟨k11, 1, none⟩ = some (.int .i8 p1) ∧ u.cell? ⟨k12, 0, none⟩ = some (.int .i8 q0) ∧ u.cell? ⟨k12, 1, none⟩ = some (.int .i8 q1))
        (first | assumption | (exact keepS4 (And.left (by assumption)) (by first | assumption | exact below_new (Below.refl _ _) _)))
        ((first
          | (go_at_call 15; apply Calls.mono; (with_reducible apply Cb2); (case h => first | rfl | (simp; done)); rintro e w2 ⟨rfl, hb⟩)
          | (go_at_call 15; apply Calls.mono; (with_reducible apply Cb2d); (case h => first | rfl | (simp; done)); rintro e w2 ⟨rfl, hb⟩)
          | (go_at_call 15; apply Calls.mono; (with_reducible apply Cb2nd); (case h => first | rfl | (simp; done)); rintro e w2 ⟨rfl, hb⟩)
          | (go_at_call 15; apply Calls.mono; (with_reducible apply Cb2sd); (case hb => assumption); (case h => first | rfl | (simp; done)); rintro e w2 ⟨rfl, hb⟩)
          | (go_at_call 15; apply Calls.mono; (with_reducible apply Cb2td); (case hb => assumption); (case h => first | rfl | (simp; done)); rintro e w2 ⟨rfl, hb⟩)
          | (go_at_call 33; refine (within_any _ _ _ _ _).mono ?_; rintro e w2 ⟨rfl, hb⟩)))
      all_goals
        go_wp2_with fail
        go_region_held3 (fun u => (Tb u ∧ Own u k9 29 #[.int .i8 x0, .int .i8 x1] ∧ Own u k10 29 #[.int .i8 y0, .int .i8 y1] ∧ Own u k11 29 #[.int .i8 p0, .int .i8 p1] ∧ Own u k12 29 #[.int .i8 q0, .int .i8 q1] ∧ Below w.heap.size w u) ∧ u.cell? ⟨k9, 0, none⟩ = some (.int .i8 x0) ∧ u.cell? ⟨k9, 1, none⟩ = some (.int .i8 x1) ∧ u.cell? ⟨k10, 0, none⟩ = some (.int .i8 y0) ∧ u.cell? ⟨k10, 1, none⟩ = some (.int .i8 y1) ∧ u.cell? ⟨k11, 0, none⟩ = some (.int .i8 p0) ∧ u.cell? ⟨k11, 1, none⟩ = some (.int .i8 p1) ∧ u.cell? ⟨k12, 0, none⟩ = some (.int .i8 q0) ∧ u.cell? ⟨k12, 1, none⟩ = some (.int .i8 q1))
          (first | assumption | (exact keepS4 (And.left (by assumption)) (by first | assumption | exact below_drewN (Below.refl _ _) 1 | exact below_new (Below.refl _ _) _)))
          ((first
            | (go_at_call 31; refine (to_any _ _ _).mono ?_; rintro e w2 ⟨rfl, hb⟩)
            | (go_at_call 21; refine (read_any _ _ _).mono ?_; rintro e w2 ⟨rfl, hb⟩)
            | (go_at_call 34; refine (leq_any _ _ _ (read4 _ _) (read4 _ _)).mono ?_; rintro e w2 ⟨rfl, hb⟩)
            | (go_at_call 13; refine (awake_any (T := And.left (And.left (by assumption))) _).mono ?_; rintro e w2 ⟨rfl, hb⟩)))
        all_goals
          go_wp2
          go_ret
          exact ⟨rfl, And.right (And.right (And.right (And.right (And.right (And.left (by assumption))))))⟩
    · skip
      go_wp2_with (go_at_call 33; refine (within_any _ _ _ _ _).mono ?_; rintro e w1 ⟨rfl, hb⟩; replace H := Lib.hid (keepQ H.out hb); clear c0 c1 c2 c3 c4 c5 c6 c7; obtain ⟨_, O9, O10, O11, O12, _⟩ := H.out; have c0 := O9.cell 0; have c1 := O9.cell 1; have c2 := O10.cell 0; have c3 := O10.cell 1; have c4 := O11.cell 0; have c5 := O11.cell 1; have c6 := O12.cell 0; have c7 := O12.cell 1; clear O9 O10 O11 O12 hb)
      have S0 := keepS4 H.out (below_drewN (Below.refl _ _) 1)
      go_region_held3 (fun u => (Tb u ∧ Own u k9 29 #[.int .i8 x0, .int .i8 x1] ∧ Own u k10 29 #[.int .i8 y0, .int .i8 y1] ∧ Own u k11 29 #[.int .i8 0, .int .i8 p1] ∧ Own u k12 29 #[.int .i8 q0, .int .i8 q1] ∧ Below w.heap.size w u) ∧ u.cell? ⟨k9, 0, none⟩ = some (.int .i8 x0) ∧ u.cell? ⟨k9, 1, none⟩ = some (.int .i8 x1) ∧ u.cell? ⟨k10, 0, none⟩ = some (.int .i8 y0) ∧ u.cell? ⟨k10, 1, none⟩ = some (.int .i8 y1) ∧ u.cell? ⟨k11, 0, none⟩ = some (.int .i8 0) ∧ u.cell? ⟨k11, 1, none⟩ = some (.int .i8 p1) ∧ u.cell? ⟨k12, 0, none⟩ = some (.int .i8 q0) ∧ u.cell? ⟨k12, 1, none⟩ = some (.int .i8 q1))
        (first | assumption | (exact keepS4 (And.left (by assumption)) (by first | assumption | exact below_new (Below.refl _ _) _)))
        ((first
          | (go_at_call 15; apply Calls.mono; (with_reducible apply Cb2); (case h => first | rfl | (simp; done)); rintro e w2 ⟨rfl, hb⟩)
          | (go_at_call 15; apply Calls.mono; (with_reducible apply Cb2d); (case h => first | rfl | (simp; done)); rintro e w2 ⟨rfl, hb⟩)
          | (go_at_call 15; apply Calls.mono; (with_reducible apply Cb2nd); (case h => first | rfl | (simp; done)); rintro e w2 ⟨rfl, hb⟩)
          | (go_at_call 15; apply Calls.mono; (with_reducible apply Cb2sd); (case hb => assumption); (case h => first | rfl | (simp; done)); rintro e w2 ⟨rfl, hb⟩)
          | (go_at_call 15; apply Calls.mono; (with_reducible apply Cb2td); (case hb => assumption); (case h => first | rfl | (simp; done)); rintro e w2 ⟨rfl, hb⟩)
          | (go_at_call 33; refine (within_any _ _ _ _ _).mono ?_; rintro e w2 ⟨rfl, hb⟩)))
      all_goals
        go_wp2_with fail
        go_region_held3 (fun u => (Tb u ∧ Own u k9 29 #[.int .i8 x0, .int .i8 x1] ∧ Own u k10 29 #[.int .i8 y0, .int .i8 y1] ∧ Own u k11 29 #[.int .i8 0, .int .i8 p1] ∧ Own u k12 29 #[.int .i8 q0, .int .i8 q1] ∧ Below w.heap.size w u) ∧ u.cell? ⟨k9, 0, none⟩ = some (.int .i8 x0) ∧ u.cell? ⟨k9, 1, none⟩ = some (.int .i8 x1) ∧ u.cell? ⟨k10, 0, none⟩ = some (.int .i8 y0) ∧ u.cell? ⟨k10, 1, none⟩ = some (.int .i8 y1) ∧ u.cell? ⟨k11, 0, none⟩ = some (.int .i8 0) ∧ u.cell? ⟨k11, 1, none⟩ = some (.int .i8 p1) ∧ u.cell? ⟨k12, 0, none⟩ = some (.int .i8 q0) ∧ u.cell? ⟨k12, 1, none⟩ = some (.int .i8 q1))
          (first | assumption | (exact keepS4 (And.left (by assumption)) (by first | assumption | exact below_drewN (Below.refl _ _) 1 | exact below_new (Below.refl _ _) _)))
          ((first
            | (go_at_call 31; refine (to_any _ _ _).mono ?_; rintro e w2 ⟨rfl, hb⟩)
            | (go_at_call 21; refine (read_any _ _ _).mono ?_; rintro e w2 ⟨rfl, hb⟩)
            | (go_at_call 34; refine (leq_any _ _ _ (read4 _ _) (read4 _ _)).mono ?_; rintro e w2 ⟨rfl, hb⟩)
            | (go_at_call 13; refine (awake_any (T := And.left (And.left (by assumption))) _).mono ?_; rintro e w2 ⟨rfl, hb⟩)))
        all_goals
          go_wp2
          go_ret
          exact ⟨rfl, And.right (And.right (And.right (And.right (And.right (And.left (by assumption))))))⟩
  · clear hm hr
    have hg : decide (x0 ≤ p0 ∧ p1 ≤ x1) = false ∨ (decide (x0 ≤ p0 ∧ p1 ≤ x1) = true ∧ decide (y0 ≤ q0 ∧ q1 ≤ y1) = false) := by
      by_cases h1 : x0 ≤ p0 ∧ p1 ≤ x1
      · right; exact ⟨decide_eq_true h1, decide_eq_false (fun h2 => hw ⟨h1, h2⟩)⟩
      · left; exact decide_eq_false h1
    clear hw
    rcases hg with g1 | ⟨g1, g2⟩
    all_goals
      go_wp2_with (first | (go_at_call 33; refine (within_any _ _ _ _ _).mono ?_; rintro e w1 ⟨rfl, hb⟩; replace H := Lib.hid (keepQ H.out hb); clear c0 c1 c2 c3 c4 c5 c6 c7; obtain ⟨_, O9, O10, O11, O12, _⟩ := H.out; have c0 := O9.cell 0; have c1 := O9.cell 1; have c2 := O10.cell 0; have c3 := O10.cell 1; have c4 := O11.cell 0; have c5 := O11.cell 1; have c6 := O12.cell 0; have c7 := O12.cell 1; clear O9 O10 O11 O12 hb) | (go_at_call 13; refine (awake_any (T := H.out.1) _).mono ?_; rintro e w1 ⟨rfl, hb⟩))
      go_ret
      exact ⟨rfl, below_step H.out.2.2.2.2.2 hb⟩
end Go.Proofs.YtjfhhlbgiepkpaaDoor
