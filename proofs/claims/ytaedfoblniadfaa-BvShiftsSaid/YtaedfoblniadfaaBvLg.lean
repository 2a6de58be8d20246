/-
  Walk of BvShifts: the call returns true and changes no argument. No conditions.
-/
import Derived.Test.YtaedfoblniadfaaBvLd
import Derived.Test.YtaedfoblniadfaaBvR
namespace Go.Proofs.Ytaedfoblniadfaa
open Go Go.RowKit

set_option maxRecDepth 100000 in
set_option maxHeartbeats 8000000 in
theorem walk_BvShifts (A0 : Option Addr) (n c0 x : Nat) (a b : Int) (w : World) (ha : Arg w A0 n c0 x) (w1 : 0 ≤ a ∧ a ≤ 255) (w2 : 0 ≤ b ∧ b ≤ 255) :
    Calls Try.prog 11 #[.slice A0 n c0, .int .u8 a, .int .u8 b] w fun en w' => en = .returned (.bool true) ∧ Below w.heap.size w w' := by
  obtain ⟨hc, hcm, h⟩ := ha
  obtain ⟨a0, a1⟩ := w1
  obtain ⟨b0, b1⟩ := w2
  unfold maxLen at hcm
  have hx := h.1
  by_cases g : 140 < n
  · have hlong := Lib.hid (fun W => long1 A0 n c0 W true ⟨fun _ => g, fun _ => rfl⟩)
    clear g
    go_enter Try.func11, Try.ntmps11
    go_wp2_with (first | (go_at_call 14; apply Calls.mono; (with_reducible apply awake_any); rintro e wn ⟨rfl, hb⟩) | (go_at_call 13; apply Calls.mono; (with_reducible exact hlong.out _); rintro e wn ⟨rfl, rfl⟩))
    go_ret
    refine ⟨rfl, ?_⟩
    repeat (first | exact Below.refl _ _ | assumption | (apply below_last; assumption) | apply below_new | apply below_drew)
  · have hlong := Lib.hid (fun W => long1 A0 n c0 W false ⟨fun h => absurd h (by decide), fun h => absurd h g⟩)
    by_cases g1 : n ≤ 70
    · have d1 : decide ((70 : Int) < n) = false := by simp; omega
      obtain ⟨I, hI⟩ : ∃ I : Nat, a % 80 = I := ⟨(a % 80).toNat, by omega⟩
      obtain ⟨K, hK⟩ : ∃ K : Nat, b % 80 = K := ⟨(b % 80).toNat, by omega⟩
      have hI2 : I < 80 := by omega
      have hK2 : K < 80 := by omega
      have hmkI := fun W => run_makeB I (by omega) W
      have hmkn := fun W => run_makeB n (by omega) W
      have hpz : 2 ^ I ≠ 0 := Nat.ne_of_gt (pow_p I)
      clear g
      go_enter Try.func11, Try.ntmps11
      go_wp2_with (first | (go_at_call 14; apply Calls.mono; (with_reducible apply awake_any); rintro e wn ⟨rfl, hb⟩) | (go_at_call 13; apply Calls.mono; (with_reducible exact hlong.out _); rintro e wn ⟨rfl, rfl⟩) | (at_builtin; refine wpList_push rfl (.tmp 37) (.tmp 38) rfl rfl (below_new (Below.refl _ _) _) rfl (Nw.of_own (Own.new _ _ (ba I 0)) (pow_p I) (Nat.le_refl _) (by unfold maxLen; omega)) _ (by simp) true rfl (by omega) ?_; intro P cp wp hP hbp; simp only [Nat.zero_add, Bool.toNat_true, Nat.mul_one] at hP) | (go_at_call 32; apply Calls.mono; (with_reducible apply divmod_any); (repeat (first | assumption | exact Rd.nil _ | exact rd_zero _ _ | exact rd_true _ | (apply Nw.rd; assumption) | (apply Rd.at_later; assumption) | apply Rd.alloc | omega)); rintro e wq ⟨Q, cq, R, cr, rfl, hQ, hR, hbq⟩; skip) | (go_at_call 35; apply Calls.mono; (with_reducible apply shl_any); (repeat (first | assumption | exact Rd.nil _ | exact rd_zero _ _ | exact rd_true _ | (apply Nw.rd; assumption) | (apply Rd.at_later; assumption) | apply Rd.alloc | omega)); rintro e wn ⟨A, c, rfl, hv, hb⟩) | (go_at_call 36; apply Calls.mono; (with_reducible apply shr_any); (repeat (first | assumption | exact Rd.nil _ | exact rd_zero _ _ | exact rd_true _ | (apply Nw.rd; assumption) | (apply Rd.at_later; assumption) | apply Rd.alloc | omega)); rintro e wn ⟨A, c, rfl, hv, hb⟩) | (go_at_call 37; apply Calls.mono; (with_reducible apply sar_any); (repeat (first | assumption | exact Rd.nil _ | exact rd_zero _ _ | exact rd_true _ | (apply Nw.rd; assumption) | (apply Rd.at_later; assumption) | apply Rd.alloc | omega)); rintro e wn ⟨A, c, rfl, hv, hb⟩) | (go_at_call 19; apply Calls.mono; (with_reducible apply mul_any); (repeat (first | assumption | exact Rd.nil _ | exact rd_zero _ _ | exact rd_true _ | (apply Nw.rd; assumption) | (apply Rd.at_later; assumption) | apply Rd.alloc | omega)); rintro e wn ⟨A, c, rfl, hv, hb⟩) | (go_at_call 20; apply Calls.mono; (with_reducible apply same_t); (repeat (first | assumption | exact Rd.nil _ | exact rd_zero _ _ | exact rd_true _ | (apply Nw.rd; assumption) | (apply Rd.at_later; assumption) | apply Rd.alloc | omega)); (first | (rintro e wn ⟨rfl, hb⟩) | ((first | rfl | (with_reducible exact shlv_mul _ _ _) | (with_reducible exact shv_div hx _) | (with_reducible exact shl_shl _ _ _ _) | (with_reducible exact shr_shr hx _ _) | (with_reducible exact sar_sar hx _ _) | (with_reducible exact shl_all _ _ _) | (exact (shr_all _ _ _ _).trans (mkn_const_false _)) | (exact shr_all _ _ _ _)); (rintro e wn ⟨rfl, hb⟩)) | (rfl; rintro e wn ⟨rfl, hb⟩) | (rfl; (first | rfl | (with_reducible exact shlv_mul _ _ _) | (with_reducible exact shv_div hx _) | (with_reducible exact shl_shl _ _ _ _) | (with_reducible exact shr_shr hx _ _) | (with_reducible exact sar_sar hx _ _) | (with_reducible exact shl_all _ _ _) | (exact (shr_all _ _ _ _).trans (mkn_const_false _)) | (exact shr_all _ _ _ _)); rintro e wn ⟨rfl, hb⟩))))
      obtain ⟨wc, rfl⟩ : ∃ wc : World, wc = wn := ⟨_, rfl⟩
      go_region
      all_goals
        go_wp2
        have o0 : Own ((wc.alloc (.cells (ba n 0) 4)).alloc (.cells (ba n 0) 4)).drew wc.heap.size 4 (ba n 0) := ((Own.new wc _ _).alloc _).drew
        have o1 : Own ((wc.alloc (.cells (ba n 0) 4)).alloc (.cells (ba n 0) 4)).drew (wc.heap.size + 1) 4 (ba n 0) := by simpa using (Own.new (wc.alloc (.cells (ba n 0) 4)) 4 (ba n 0)).drew
        have b0 : Below wc.heap.size wc ((wc.alloc (.cells (ba n 0) 4)).alloc (.cells (ba n 0) 4)).drew := below_drew (below_new (below_new (Below.refl _ _) _) _)
      · skip
        go_loopw [16] (fun i u => ∃ k : Nat, k ≤ n ∧ i = .int .i64 k ∧ Below wc.heap.size wc u ∧ Own u wc.heap.size 4 (ba n 0) ∧ Own u (wc.heap.size + 1) 4 (ba n (mkn k fun _ => neg n x))) (fun i _ => n - (intOf i).toNat)
        case atStart => exact ⟨0, Nat.zero_le _, rfl, b0, o0, o1⟩
        case round =>
          obtain ⟨k, hk, rfl, hbw, hZ, hS⟩ := hrel
          by_cases g2 : k < n
          · have hr : Rd wr A0 n x := by (repeat (first | assumption | exact Rd.nil _ | exact rd_zero _ _ | exact rd_true _ | (apply Nw.rd; assumption) | (apply Rd.at_later; assumption) | apply Rd.alloc | omega))
            obtain ⟨ab, ao, rfl, hlt, hcell0⟩ := hr.at_ (show n - 1 < n by omega)
            have cS := (hS.cell k).trans (ba_get _ _ _ g2)
            have fS := hS.free k
            have o2 := hS.put k (.bool (neg n x))
            rw [ba_set _ g2, setb_new (mkn_lt _ _)] at o2
            have o3 := hZ.far (p := ⟨(wc.heap.size + 1), k, none⟩) (by simp) (.bool (neg n x))
            have hcell : wr.cell? ⟨ab, ao + (n - 1), none⟩ = some (.bool (neg n x)) := hcell0
            clear hcell0
            have hfin := Lib.hid (And.intro o3 o2)
            have d2 : decide ((k : Int) < n) = true := by simpa using g2
            have l0 : (0 : Int) ≤ k := by omega
            have l1 : (k : Int) < n := by omega
            have l2 : (1 : Int) ≤ n := by omega
            have l5 : ((n : Int) - 1).toNat = n - 1 := by omega
            have l6 := hS.lt
            clear hZ hS o2 o3 hr
            generalize neg n x = nb at *
            go_wp2
            go_roundw
            case rel => exact ⟨k + 1, by omega, by go_num, below_set hbw (by simp) _, hfin.out.1, hfin.out.2⟩
            case measure => simp [intOf]; omega
          · obtain rfl : k = n := by omega
            have hZ' := Rd.of_own hZ (pow_p k)
            have hS' := Rd.of_own hS (mkn_lt _ _)
            go_wp2_with (first | (go_at_call 35; apply Calls.mono; (with_reducible apply shl_any); (repeat (first | assumption | exact Rd.nil _ | exact rd_zero _ _ | exact rd_true _ | (apply Nw.rd; assumption) | (apply Rd.at_later; assumption) | apply Rd.alloc | omega)); rintro e wn ⟨A, c, rfl, hv, hb⟩) | (go_at_call 36; apply Calls.mono; (with_reducible apply shr_any); (repeat (first | assumption | exact Rd.nil _ | exact rd_zero _ _ | exact rd_true _ | (apply Nw.rd; assumption) | (apply Rd.at_later; assumption) | apply Rd.alloc | omega)); rintro e wn ⟨A, c, rfl, hv, hb⟩) | (go_at_call 37; apply Calls.mono; (with_reducible apply sar_any); (repeat (first | assumption | exact Rd.nil _ | exact rd_zero _ _ | exact rd_true _ | (apply Nw.rd; assumption) | (apply Rd.at_later; assumption) | apply Rd.alloc | omega)); rintro e wn ⟨A, c, rfl, hv, hb⟩) | (go_at_call 20; apply Calls.mono; (with_reducible apply same_t); (repeat (first | assumption | exact Rd.nil _ | exact rd_zero _ _ | exact rd_true _ | (apply Nw.rd; assumption) | (apply Rd.at_later; assumption) | apply Rd.alloc | omega)); (first | (rintro e wn ⟨rfl, hb⟩) | ((first | rfl | (with_reducible exact shlv_mul _ _ _) | (with_reducible exact shv_div hx _) | (with_reducible exact shl_shl _ _ _ _) | (with_reducible exact shr_shr hx _ _) | (with_reducible exact sar_sar hx _ _) | (with_reducible exact shl_all _ _ _) | (exact (shr_all _ _ _ _).trans (mkn_const_false _)) | (exact shr_all _ _ _ _)); (rintro e wn ⟨rfl, hb⟩)) | (rfl; rintro e wn ⟨rfl, hb⟩) | (rfl; (first | rfl | (with_reducible exact shlv_mul _ _ _) | (with_reducible exact shv_div hx _) | (with_reducible exact shl_shl _ _ _ _) | (with_reducible exact shr_shr hx _ _) | (with_reducible exact sar_sar hx _ _) | (with_reducible exact shl_all _ _ _) | (exact (shr_all _ _ _ _).trans (mkn_const_false _)) | (exact shr_all _ _ _ _)); rintro e wn ⟨rfl, hb⟩))))
            go_ret
            refine ⟨rfl, ?_⟩
            repeat (first | exact Below.refl _ _ | assumption | (apply below_last; assumption) | apply below_new | apply below_drew)
      · skip
        go_loopw [16] (fun i u => ∃ k : Nat, k ≤ n ∧ i = .int .i64 k ∧ Below wc.heap.size wc u ∧ Own u (wc.heap.size + 1) 4 (ba n 0) ∧ Own u wc.heap.size 4 (ba n (mkn k fun _ => neg n x))) (fun i _ => n - (intOf i).toNat)
        case atStart => exact ⟨0, Nat.zero_le _, rfl, b0, o1, o0⟩
        case round =>
          obtain ⟨k, hk, rfl, hbw, hZ, hS⟩ := hrel
          by_cases g2 : k < n
          · have hr : Rd wr A0 n x := by (repeat (first | assumption | exact Rd.nil _ | exact rd_zero _ _ | exact rd_true _ | (apply Nw.rd; assumption) | (apply Rd.at_later; assumption) | apply Rd.alloc | omega))
            obtain ⟨ab, ao, rfl, hlt, hcell0⟩ := hr.at_ (show n - 1 < n by omega)
            have cS := (hS.cell k).trans (ba_get _ _ _ g2)
            have fS := hS.free k
            have o2 := hS.put k (.bool (neg n x))
            rw [ba_set _ g2, setb_new (mkn_lt _ _)] at o2
            have o3 := hZ.far (p := ⟨wc.heap.size, k, none⟩) (by simp) (.bool (neg n x))
            have hcell : wr.cell? ⟨ab, ao + (n - 1), none⟩ = some (.bool (neg n x)) := hcell0
            clear hcell0
            have hfin := Lib.hid (And.intro o3 o2)
            have d2 : decide ((k : Int) < n) = true := by simpa using g2
            have l0 : (0 : Int) ≤ k := by omega
            have l1 : (k : Int) < n := by omega
            have l2 : (1 : Int) ≤ n := by omega
            have l5 : ((n : Int) - 1).toNat = n - 1 := by omega
            have l6 := hS.lt
            clear hZ hS o2 o3 hr
            generalize neg n x = nb at *
            go_wp2
            go_roundw
            case rel => exact ⟨k + 1, by omega, by go_num, below_set hbw (by simp) _, hfin.out.1, hfin.out.2⟩
            case measure => simp [intOf]; omega
          · obtain rfl : k = n := by omega
            have hZ' := Rd.of_own hZ (pow_p k)
            have hS' := Rd.of_own hS (mkn_lt _ _)
            go_wp2_with (first | (go_at_call 35; apply Calls.mono; (with_reducible apply shl_any); (repeat (first | assumption | exact Rd.nil _ | exact rd_zero _ _ | exact rd_true _ | (apply Nw.rd; assumption) | (apply Rd.at_later; assumption) | apply Rd.alloc | omega)); rintro e wn ⟨A, c, rfl, hv, hb⟩) | (go_at_call 36; apply Calls.mono; (with_reducible apply shr_any); (repeat (first | assumption | exact Rd.nil _ | exact rd_zero _ _ | exact rd_true _ | (apply Nw.rd; assumption) | (apply Rd.at_later; assumption) | apply Rd.alloc | omega)); rintro e wn ⟨A, c, rfl, hv, hb⟩) | (go_at_call 37; apply Calls.mono; (with_reducible apply sar_any); (repeat (first | assumption | exact Rd.nil _ | exact rd_zero _ _ | exact rd_true _ | (apply Nw.rd; assumption) | (apply Rd.at_later; assumption) | apply Rd.alloc | omega)); rintro e wn ⟨A, c, rfl, hv, hb⟩) | (go_at_call 20; apply Calls.mono; (with_reducible apply same_t); (repeat (first | assumption | exact Rd.nil _ | exact rd_zero _ _ | exact rd_true _ | (apply Nw.rd; assumption) | (apply Rd.at_later; assumption) | apply Rd.alloc | omega)); (first | (rintro e wn ⟨rfl, hb⟩) | ((first | rfl | (with_reducible exact shlv_mul _ _ _) | (with_reducible exact shv_div hx _) | (with_reducible exact shl_shl _ _ _ _) | (with_reducible exact shr_shr hx _ _) | (with_reducible exact sar_sar hx _ _) | (with_reducible exact shl_all _ _ _) | (exact (shr_all _ _ _ _).trans (mkn_const_false _)) | (exact shr_all _ _ _ _)); (rintro e wn ⟨rfl, hb⟩)) | (rfl; rintro e wn ⟨rfl, hb⟩) | (rfl; (first | rfl | (with_reducible exact shlv_mul _ _ _) | (with_reducible exact shv_div hx _) | (with_reducible exact shl_shl _ _ _ _) | (with_reducible exact shr_shr hx _ _) | (with_reducible exact sar_sar hx _ _) | (with_reducible exact shl_all _ _ _) | (exact (shr_all _ _ _ _).trans (mkn_const_false _)) | (exact shr_all _ _ _ _)); rintro e wn ⟨rfl, hb⟩))))
            go_ret
            refine ⟨rfl, ?_⟩
            repeat (first | exact Below.refl _ _ | assumption | (apply below_last; assumption) | apply below_new | apply below_drew)
    · have d1 : decide ((70 : Int) < n) = true := by simp; omega
      go_enter Try.func11, Try.ntmps11
      go_wp2_with (first | (go_at_call 14; apply Calls.mono; (with_reducible apply awake_any); rintro e wn ⟨rfl, hb⟩) | (go_at_call 13; apply Calls.mono; (with_reducible exact hlong.out _); rintro e wn ⟨rfl, rfl⟩))
      go_ret
      refine ⟨rfl, ?_⟩
      repeat (first | exact Below.refl _ _ | assumption | (apply below_last; assumption) | apply below_new | apply below_drew)
end Go.Proofs.Ytaedfoblniadfaa
