/-
  Statements of layer 2 over the seat's translation, the walks: the levels of a combination. Conditions: the two tables read as the program lays them ('Tb').
-/
import Derived.Test.YtjfhhlbgiepkpaaDoorStrN
namespace Go.Proofs.YtjfhhlbgiepkpaaDoor
open Go Go.RowKit
attribute [local go_sem ↓] eql_p eql_r neq_p neq_r

/-- Some pair of levels before (m, k) gives n. -/
def Hit (x0 x1 y0 y1 n m k : Int) : Prop := ∃ m' k', x0 ≤ m' ∧ m' ≤ x1 ∧ y0 ≤ k' ∧ k' ≤ y1 ∧ (m' < m ∨ (m' = m ∧ k' < k)) ∧ lvl n m' k'
theorem Hit.none_ (x0 x1 y0 y1 n : Int) : ¬ Hit x0 x1 y0 y1 n x0 y0 := by rintro ⟨m, k, h1, h2, h3, h4, h5, _⟩; omega
theorem Hit.succ {x0 x1 y0 y1 n m k : Int} (m0 : x0 ≤ m) (m1 : m ≤ x1) (k0 : y0 ≤ k) (k1 : k ≤ y1) : Hit x0 x1 y0 y1 n m (k + 1) ↔ Hit x0 x1 y0 y1 n m k ∨ lvl n m k := by
  constructor
  · rintro ⟨m', k', h1, h2, h3, h4, h5, h6⟩
    by_cases h : m' = m ∧ k' = k
    · obtain ⟨rfl, rfl⟩ := h; exact .inr h6
    · exact .inl ⟨m', k', h1, h2, h3, h4, by omega, h6⟩
  · rintro (⟨m', k', h1, h2, h3, h4, h5, h6⟩ | h)
    · exact ⟨m', k', h1, h2, h3, h4, by omega, h6⟩
    · exact ⟨m, k, m0, m1, k0, k1, by omega, h⟩
theorem Hit.row {x0 x1 y0 y1 n m : Int} : Hit x0 x1 y0 y1 n (m + 1) y0 ↔ Hit x0 x1 y0 y1 n m (y1 + 1) := by
  constructor
  · rintro ⟨m', k', h1, h2, h3, h4, h5, h6⟩; exact ⟨m', k', h1, h2, h3, h4, by omega, h6⟩
  · rintro ⟨m', k', h1, h2, h3, h4, h5, h6⟩; exact ⟨m', k', h1, h2, h3, h4, by omega, h6⟩
theorem Hit.all {x0 x1 y0 y1 n : Int} [A : Nm x0 x1] [B : Nm y0 y1] : Hit x0 x1 y0 y1 n (x1 + 1) y0 ↔ cLo x0 x1 y0 y1 ≤ n ∧ n ≤ cHi x0 x1 y0 y1 := by
  rw [mem_comb A.le B.le]
  constructor
  · rintro ⟨m', k', h1, h2, h3, h4, h5, h6⟩; exact ⟨m', k', h1, h2, h3, h4, h6⟩
  · rintro ⟨m', k', h1, h2, h3, h4, h6⟩; exact ⟨m', k', h1, h2, h3, h4, by omega, h6⟩

theorem kpStep {w u v : World} {g7 g8 g9 : Nat} {t : TypeId} {x0 x1 y0 y1 z0 z1 : Int} (H : Tb u ∧ Own u g7 t #[.int .i8 x0, .int .i8 x1] ∧ Own u g8 t #[.int .i8 y0, .int .i8 y1] ∧ Own u g9 t #[.int .i8 z0, .int .i8 z1] ∧ Below w.heap.size w u) (hb : Below u.heap.size u v) :
    Tb v ∧ Own v g7 t #[.int .i8 x0, .int .i8 x1] ∧ Own v g8 t #[.int .i8 y0, .int .i8 y1] ∧ Own v g9 t #[.int .i8 z0, .int .i8 z1] ∧ Below w.heap.size w v :=
  ⟨H.1.step hb, H.2.1.step hb, H.2.2.1.step hb, H.2.2.2.1.step hb, below_step H.2.2.2.2 hb⟩
/-- What the walk keeps. -/
def Kp (w u : World) (g7 g8 g9 : Nat) (x0 x1 y0 y1 z0 z1 : Int) : Prop := Tb u ∧ Own u g7 29 #[.int .i8 x0, .int .i8 x1] ∧ Own u g8 29 #[.int .i8 y0, .int .i8 y1] ∧ Own u g9 29 #[.int .i8 z0, .int .i8 z1] ∧ Below w.heap.size w u
set_option maxRecDepth 100000 in
set_option maxHeartbeats 8000000 in
theorem walk_StrengthElements (a0 a1 b0 b1 : Int) (w : World) [T : Tb w] : Calls Tryd.prog 7 #[.agg #[.int .i8 a0, .int .i8 a1], .agg #[.int .i8 b0, .int .i8 b1]] w fun e w' => e = .returned (.bool true) ∧ Below w.heap.size w w' := by
  have OA := (Own.new w 34 #[.int .i8 a0, .int .i8 a1]).alloc (.cells #[.int .i8 b0, .int .i8 b1] 34)
  have OB := Own.new (w.alloc (.cells #[.int .i8 a0, .int .i8 a1] 34)) 34 #[.int .i8 b0, .int .i8 b1]
  have B0 : Below w.heap.size w ((w.alloc (.cells #[.int .i8 a0, .int .i8 a1] 34)).alloc (.cells #[.int .i8 b0, .int .i8 b1] 34)) := below_new (below_new (Below.refl _ _) _) _
  simp only [World.size_alloc] at OB
  have T0 := Tb.step T B0
  have H := Lib.hid (And.intro OA (And.intro OB (And.intro B0 T0)))
  clear OA OB B0 T0 T
  go_enter Tryd.func7, Tryd.ntmps7
  go_wp2_with fail
  obtain ⟨OA, OB, B0, T0⟩ := H.out
  generalize (w.alloc (.cells #[.int .i8 a0, .int .i8 a1] 34)).alloc (.cells #[.int .i8 b0, .int .i8 b1] 34) = W at *
  refine two_calls (z := #[.int .i8 0, .int .i8 0]) (c1 := #[.int .i8 (nLo a0 a1), .int .i8 (nHi a0 a1)]) (c3 := #[.int .i8 (nLo b0 b1), .int .i8 (nHi b0 b1)]) (by kernel_rfl) _ _ _ _ _ _ _ _ rfl (by kernel_rfl) ⟨rfl, rfl, rfl⟩ ⟨rfl, rfl, rfl⟩ ⟨rfl, rfl, rfl⟩ ⟨rfl, rfl, rfl⟩ ⟨rfl, rfl, rfl⟩ ⟨rfl, rfl, rfl⟩ ⟨rfl, rfl, rfl⟩ ⟨rfl, rfl, rfl⟩ (by kernel_rfl) (by kernel_rfl) (by kernel_rfl) (by kernel_rfl) (by decide) (by decide) (by decide) (by simp) rfl rfl
    OA OB Tryd.underlying34 rfl (by kernel_rfl) (by kernel_rfl) (by kernel_rfl) (by kernel_rfl) rfl rfl (by kernel_rfl) (by kernel_rfl) alloc_iv enter_norm enter_norm (fun u => norm_any _ _ u) (fun u => norm_any _ _ u) ?_
  intro k5 k6 W1 hB O5 O6
  replace OA := OA.below hB OA.lt
  replace OB := OB.below hB OB.lt
  replace B0 := below_step B0 hB
  replace T0 := T0.step hB
  clear H hB
  have c0 := OA.cell 0
  have c1 := OA.cell 1
  have c2 := OB.cell 0
  have c3 := OB.cell 1
  have H := Lib.hid (And.intro T0 (And.intro O5 (And.intro O6 B0)))
  clear OA OB T0 O5 O6 B0
  simp only [Act.put, List.setIfInBounds_toArray, List.set_cons_zero, List.set_cons_succ]
  go_wp2_with fail
  apply Calls.mono
  (with_reducible apply Cb2)
  case h => rfl
  rintro e w2 ⟨rfl, hb⟩
  obtain ⟨T0, O5, O6, B0⟩ := H.out
  clear H c0 c1 c2 c3
  replace T0 := T0.step (below_step (below_new (Below.refl _ _) _) hb)
  replace O5 := (O5.alloc _).step hb
  replace O6 := (O6.alloc _).step hb
  replace B0 := below_step (below_new B0 _) hb
  clear hb
  have n1 := (inferInstance : Nm (nLo a0 a1) (nHi a0 a1))
  have n2 := (inferInstance : Nm (nLo b0 b1) (nHi b0 b1))
  have v3 := nm_fC (f2 a0 a1 b0 b1) 2
  have hall : ∀ n, Hit (nLo a0 a1) (nHi a0 a1) (nLo b0 b1) (nHi b0 b1) n (nHi a0 a1 + 1) (nLo b0 b1) ↔ ((fC (f2 a0 a1 b0 b1) 2).1 ≤ n ∧ n ≤ (fC (f2 a0 a1 b0 b1) 2).2) := fun n => by rw [fC2]; exact Hit.all
  generalize fC (f2 a0 a1 b0 b1) 2 = s at *
  obtain ⟨s0, s1⟩ := s
  simp only at *
  have v1 := norm_of n1
  have v2 := norm_of n2
  generalize nLo a0 a1 = x0 at *
  generalize nHi a0 a1 = x1 at *
  generalize nLo b0 b1 = y0 at *
  generalize nHi b0 b1 = y1 at *
  obtain ⟨xl, xm, xh⟩ := n1
  obtain ⟨yl, ym, yh⟩ := n2
  have z1 : (x0 == nLo x0 x1) = true := by rw [v1.1]; simp
  have z2 : (x1 == nHi x0 x1) = true := by rw [v1.2]; simp
  have z3 : (y0 == nLo y0 y1) = true := by rw [v2.1]; simp
  have z4 : (y1 == nHi y0 y1) = true := by rw [v2.2]; simp
  have z5 : (s0 == nLo s0 s1) = true := by rw [v3.1]; simp
  have z6 : (s1 == nHi s0 s1) = true := by rw [v3.2]; simp
  have hcon : ∀ n, (conB s0 s1 n = true ↔ Hit x0 x1 y0 y1 n (x1 + 1) y0) := fun n => by
    unfold conB
    rw [decide_eq_true_eq, v3.1, v3.2]
    exact (hall n).symm
  replace hcon := Lib.hid hcon
  clear v1 v2 v3 hall
  have K := Lib.hid (And.intro (T0.step (below_new (Below.refl _ _) (.cells #[.int .i8 s0, .int .i8 s1] 29))) (And.intro (O5.alloc (.cells #[.int .i8 s0, .int .i8 s1] 29)) (And.intro (O6.alloc (.cells #[.int .i8 s0, .int .i8 s1] 29)) (And.intro (Own.new w2 29 #[.int .i8 s0, .int .i8 s1]) (below_new B0 (.cells #[.int .i8 s0, .int .i8 s1] 29))))))
  clear T0 O5 O6 B0
  have c0 := K.out.2.1.cell 0
  have c1 := K.out.2.1.cell 1
  have c2 := K.out.2.2.1.cell 0
  have c3 := K.out.2.2.1.cell 1
  have c4 := K.out.2.2.2.1.cell 0
  have c5 := K.out.2.2.2.1.cell 1
  go_wp2_with (go_at_call 20; refine (valid_any _ _ _).mono ?_; rintro e w1 ⟨rfl, hb⟩; replace K := Lib.hid (kpStep K.out hb); clear c0 c1 c2 c3 c4 c5; have c0 := K.out.2.1.cell 0; have c1 := K.out.2.1.cell 1; have c2 := K.out.2.2.1.cell 0; have c3 := K.out.2.2.1.cell 1; have c4 := K.out.2.2.2.1.cell 0; have c5 := K.out.2.2.2.1.cell 1; clear hb)
  replace K := Lib.hid (show Kp w _ k5 k6 w2.heap.size x0 x1 y0 y1 s0 s1 from K.out)
  clear c0 c1 c2 c3 c4 c5
  go_loopw [8] (fun v wr => ∃ n : Int, v = .int .i8 n ∧ -7 ≤ n ∧ n ≤ 8 ∧ Kp w wr k5 k6 w2.heap.size x0 x1 y0 y1 s0 s1) (fun v _ => (8 - intOf v).toNat)
  case atStart => exact ⟨-7, rfl, by omega, by omega, K.out⟩
  case round =>
    clear K
    obtain ⟨n, rfl, n0, n1, K⟩ := hrel
    replace K := Lib.hid K
    have c0 := K.out.2.1.cell 0
    have c1 := K.out.2.1.cell 1
    have c2 := K.out.2.2.1.cell 0
    have c3 := K.out.2.2.1.cell 1
    by_cases hn7 : n ≤ 7
    · go_wp2
      obtain ⟨wo, rfl⟩ : ∃ wo : World, wo = wr := ⟨_, rfl⟩
      go_loopw [9, 10] (fun r v wr => ∃ (m : Int) (b : Bool), v = .int .i8 m ∧ x0 ≤ m ∧ m ≤ x1 + 1 ∧ r = .bool b ∧ (b = true ↔ Hit x0 x1 y0 y1 n m y0) ∧ Kp w wr k5 k6 w2.heap.size x0 x1 y0 y1 s0 s1) (fun _ v _ => (x1 + 1 - intOf v).toNat)
      case atStart => exact ⟨x0, false, rfl, by omega, by omega, rfl, by simp [Hit.none_], K.out⟩
      case round =>
        clear K c0 c1 c2 c3
        obtain ⟨m, b, rfl, m0, m1, rfl, hb, K⟩ := hrel
        replace K := Lib.hid K
        replace hb := Lib.hid hb
        have c0 := K.out.2.1.cell 0
        have c1 := K.out.2.1.cell 1
        have c2 := K.out.2.2.1.cell 0
        have c3 := K.out.2.2.1.cell 1
        by_cases hm : m ≤ x1
        · go_wp2
          obtain ⟨wi, rfl⟩ : ∃ wi : World, wi = wr := ⟨_, rfl⟩
          go_loopw [9, 11] (fun r v wr => ∃ (k : Int) (b : Bool), v = .int .i8 k ∧ y0 ≤ k ∧ k ≤ y1 + 1 ∧ r = .bool b ∧ (b = true ↔ Hit x0 x1 y0 y1 n m k) ∧ Kp w wr k5 k6 w2.heap.size x0 x1 y0 y1 s0 s1) (fun _ v _ => (y1 + 1 - intOf v).toNat)
          case atStart => exact ⟨y0, b, rfl, by omega, by omega, rfl, hb.out, K.out⟩
          case round =>
            clear K hb c0 c1 c2 c3
            obtain ⟨k, b, rfl, k0, k1, rfl, hb, K⟩ := hrel
            replace K := Lib.hid K
            have c0 := K.out.2.1.cell 0
            have c1 := K.out.2.1.cell 1
            have c2 := K.out.2.2.1.cell 0
            have c3 := K.out.2.2.1.cell 1
            have lvb := lv_le m k
            by_cases hk : k ≤ y1
            · have hsucc := Hit.succ (n := n) m0 hm k0 hk
              have lva := (lvl_bd _ m k (by omega) (by omega) ((lvl_iff _ _ _).2 ⟨Int.le_refl _, lvb⟩)).1
              have lvc := (lvl_bd _ m k (by omega) (by omega) ((lvl_iff _ _ _).2 ⟨lvb, Int.le_refl _⟩)).2
              rw [lvl_iff] at hsucc
              by_cases hr : b = true
              · subst hr
                have hb1 : Hit x0 x1 y0 y1 n m (k + 1) := hsucc.2 (.inl (hb.1 rfl))
                replace hb1 := Lib.hid hb1
                clear hb hsucc
                go_wp2_with (go_at_call 32; refine (levels_any m k _ (by omega) (by omega) (by omega) (by omega)).mono ?_; rintro e w1 ⟨g, cap, c, rfl, hn, hg0, hg1, hcs, hb⟩; replace K := Lib.hid (kpStep K.out hb); clear hg0 hg1 hb; have cA := hcs 0 (by omega); have cB := hcs (c - 1) (by omega); rw [show lvLo m k + ((c - 1 : Nat) : Int) = lvHi m k by omega] at cB; rw [show lvLo m k + ((0 : Nat) : Int) = lvLo m k by omega] at cA; clear hcs; have hc1 : 1 ≤ c := (by omega); have hc2 : c ≤ 15 := (by omega); clear hn)
                go_roundw
                case rel => exact ⟨k + 1, true, rfl, by omega, by omega, rfl, ⟨fun _ => hb1.out, fun _ => rfl⟩, K.out⟩
                case measure => simp [intOf]; omega
              · have hr' : b = false := by simpa using hr
                subst hr'
                have hno : ¬ Hit x0 x1 y0 y1 n m k := fun h => by have := hb.2 h; cases this
                by_cases h1 : lvLo m k ≤ n
                · by_cases h2 : n ≤ lvHi m k
                  · have hb1 : Hit x0 x1 y0 y1 n m (k + 1) := hsucc.2 (.inr ⟨h1, h2⟩)
                    replace hb1 := Lib.hid hb1
                    clear hb hsucc hr hno
                    go_wp2_with (go_at_call 32; refine (levels_any m k _ (by omega) (by omega) (by omega) (by omega)).mono ?_; rintro e w1 ⟨g, cap, c, rfl, hn, hg0, hg1, hcs, hb⟩; replace K := Lib.hid (kpStep K.out hb); clear hg0 hg1 hb; have cA := hcs 0 (by omega); have cB := hcs (c - 1) (by omega); rw [show lvLo m k + ((c - 1 : Nat) : Int) = lvHi m k by omega] at cB; rw [show lvLo m k + ((0 : Nat) : Int) = lvLo m k by omega] at cA; clear hcs; have hc1 : 1 ≤ c := (by omega); have hc2 : c ≤ 15 := (by omega); clear hn)
                    go_roundw
                    case rel => exact ⟨k + 1, true, rfl, by omega, by omega, rfl, ⟨fun _ => hb1.out, fun _ => rfl⟩, K.out⟩
                    case measure => simp [intOf]; omega
                  · have d2 : decide (n ≤ lvHi m k) = false := decide_eq_false h2
                    have hb1 : ¬ Hit x0 x1 y0 y1 n m (k + 1) := fun h => (hsucc.1 h).elim hno (fun h => h2 h.2)
                    replace hb1 := Lib.hid hb1
                    clear hb hsucc hr hno
                    go_wp2_with (go_at_call 32; refine (levels_any m k _ (by omega) (by omega) (by omega) (by omega)).mono ?_; rintro e w1 ⟨g, cap, c, rfl, hn, hg0, hg1, hcs, hb⟩; replace K := Lib.hid (kpStep K.out hb); clear hg0 hg1 hb; have cA := hcs 0 (by omega); have cB := hcs (c - 1) (by omega); rw [show lvLo m k + ((c - 1 : Nat) : Int) = lvHi m k by omega] at cB; rw [show lvLo m k + ((0 : Nat) : Int) = lvLo m k by omega] at cA; clear hcs; have hc1 : 1 ≤ c := (by omega); have hc2 : c ≤ 15 := (by omega); clear hn)
                    go_roundw
                    case rel => exact ⟨k + 1, false, rfl, by omega, by omega, rfl, ⟨fun h => (by cases h), fun h => (hb1.out h).elim⟩, K.out⟩
                    case measure => simp [intOf]; omega
                · have hb1 : ¬ Hit x0 x1 y0 y1 n m (k + 1) := fun h => (hsucc.1 h).elim hno (fun h => h1 h.1)
                  replace hb1 := Lib.hid hb1
                  clear hb hsucc hr hno
                  go_wp2_with (go_at_call 32; refine (levels_any m k _ (by omega) (by omega) (by omega) (by omega)).mono ?_; rintro e w1 ⟨g, cap, c, rfl, hn, hg0, hg1, hcs, hb⟩; replace K := Lib.hid (kpStep K.out hb); clear hg0 hg1 hb; have cA := hcs 0 (by omega); have cB := hcs (c - 1) (by omega); rw [show lvLo m k + ((c - 1 : Nat) : Int) = lvHi m k by omega] at cB; rw [show lvLo m k + ((0 : Nat) : Int) = lvLo m k by omega] at cA; clear hcs; have hc1 : 1 ≤ c := (by omega); have hc2 : c ≤ 15 := (by omega); clear hn)
                  go_roundw
                  case rel => exact ⟨k + 1, false, rfl, by omega, by omega, rfl, ⟨fun h => (by cases h), fun h => (hb1.out h).elim⟩, K.out⟩
                  case measure => simp [intOf]; omega
            · obtain rfl : k = y1 + 1 := by omega
              rw [← Hit.row] at hb
              replace hb := Lib.hid hb
              go_wp2
              go_roundw
              case rel => exact ⟨m + 1, b, rfl, by omega, by omega, rfl, hb.out, K.out⟩
              case measure => simp [intOf]; omega
        · obtain rfl : m = x1 + 1 := by omega
          have c4 := K.out.2.2.2.1.cell 0
          have c5 := K.out.2.2.2.1.cell 1
          have hbc : conB s0 s1 n = b := Bool.eq_iff_iff.2 ((hcon.out n).trans hb.out.symm)
          clear hb
          cases b
          all_goals
            go_wp2_with (go_at_call 23; refine (contains_any _ _ _ _).mono ?_; rintro e w1 ⟨rfl, hb1⟩; replace K := Lib.hid (kpStep K.out hb1); clear hb1)
            go_roundw
            case rel => exact ⟨n + 1, rfl, by omega, by omega, K.out⟩
            case measure => simp [intOf]; omega
    · go_wp2_with (go_at_call 13; refine (awake_any (T := K.out.1) _).mono ?_; rintro e w1 ⟨rfl, hb⟩)
      go_ret
      exact ⟨rfl, below_step K.out.2.2.2.2 hb⟩
end Go.Proofs.YtjfhhlbgiepkpaaDoor
