/-
  Walk of BvWords: the call returns true. No conditions.
-/
import Derived.Test.YtaedfoblniadfaaBvLd
import Derived.Test.YtaedfoblniadfaaBvR
import Derived.Test.YtaedfoblniadfaaBvF3
import Derived.Test.YtaedfoblniadfaaBvW3
import Derived.Test.YtaedfoblniadfaaBvLi
import Derived.BigQuiet
import Derived.Deep.RegionHeld3
import Derived.Deep.DrawnRows
import Derived.Deep.QuietTactic
namespace Go.Proofs.Ytaedfoblniadfaa
open Go Go.RowKit
attribute [local go_sem ↓] Go.wp_at_zero Go.wp_at_succ

set_option maxRecDepth 100000 in
set_option maxHeartbeats 8000000 in
theorem walk_BvWords (m n a s : Int) (w : World) (hm : -9223372036854775808 ≤ m ∧ m ≤ 9223372036854775807) (hn : -9223372036854775808 ≤ n ∧ n ≤ 9223372036854775807) (ha : 0 ≤ a ∧ a ≤ 255) (hs : 0 ≤ s ∧ s ≤ 255) :
    Calls Try.prog 10 #[.int .i64 m, .int .i64 n, .int .u8 a, .int .u8 s] w fun en w' => en = .returned (.bool true) ∧ Below w.heap.size w w' := by
  obtain ⟨a0, a1⟩ := ha
  obtain ⟨s0, s1⟩ := hs
  obtain ⟨m0, m1⟩ := hm
  obtain ⟨n0, n1⟩ := hn
  obtain ⟨W, hW⟩ : ∃ W : Nat, 1 + a % 64 = W := ⟨(1 + a % 64).toNat, by omega⟩
  have hW1 : 1 ≤ W := by omega
  have hW2 : W ≤ 64 := by omega
  have l1 : (0 : Int) ≤ 64 - (W : Int) := by omega
  have l2 : 64 - (W : Int) ≤ 64 := by omega
  obtain ⟨M, hM⟩ : ∃ M, wrap64 (m * (2 : Int) ^ (64 - W)) / (2 : Int) ^ (64 - W) = M := ⟨_, rfl⟩
  obtain ⟨N, hN⟩ : ∃ N, wrap64 (n * (2 : Int) ^ (64 - W)) / (2 : Int) ^ (64 - W) = N := ⟨_, rfl⟩
  have sM : Sw W M := by rw [← hM]; exact Sw.of_shift hW1 hW2 _
  have sN : Sw W N := by rw [← hN]; exact Sw.of_shift hW1 hW2 _
  obtain ⟨MK, hMK⟩ : ∃ MK : Int, (18446744073709551615 : Int) / (2 : Int) ^ (64 - W) = MK := ⟨_, rfl⟩
  have kM : bits BinOp.and IntKind.u64 (IntKind.u64.wrap M) MK = ((fi M W : Nat) : Int) := by rw [← hMK, mask_eq hW2]; exact and_mask hW2 M
  have kN : bits BinOp.and IntKind.u64 (IntKind.u64.wrap N) MK = ((fi N W : Nat) : Int) := by rw [← hMK, mask_eq hW2]; exact and_mask hW2 N
  have mM := sM.i64
  have iM := int_fi sM
  have uM := uint_fi (M := M) hW2
  have nM := sN.i64
  replace iM := Lib.hid iM
  replace uM := Lib.hid uM
  have hw128 : W ≤ 128 := by omega
  go_enter Try.func10, Try.ntmps10
  go_wp2_with (go_at_call 14; apply Calls.mono; (with_reducible apply awake_any); rintro e wn ⟨rfl, hb⟩)
  go_quiet (fail)
  go_wp2_with (first | (go_at_call 38; apply Calls.mono; (with_reducible apply fromInt_any); (repeat (first | assumption | exact Rd.nil _ | exact rd_zero _ _ | exact rd_true _ | (apply Nw.rd; assumption) | (apply Rd.at_later; assumption) | apply Rd.alloc | omega)); rintro e wn ⟨A, c, rfl, hv, hb⟩) | (go_at_call 44; apply Calls.mono; (with_reducible apply int_v _ _ _ _ M true); (repeat (first | assumption | exact Rd.nil _ | exact rd_zero _ _ | exact rd_true _ | (apply Nw.rd; assumption) | (apply Rd.at_later; assumption) | apply Rd.alloc | omega)); (first | rintro e wn ⟨rfl, rfl⟩ | (exact iM.out; rintro e wn ⟨rfl, rfl⟩))) | (go_at_call 42; apply Calls.mono; (with_reducible apply uint_v _ _ _ _ ((fi M W : Nat) : Int) true); (repeat (first | assumption | exact Rd.nil _ | exact rd_zero _ _ | exact rd_true _ | (apply Nw.rd; assumption) | (apply Rd.at_later; assumption) | apply Rd.alloc | omega)); (first | rintro e wn ⟨rfl, rfl⟩ | (exact uM.out; rintro e wn ⟨rfl, rfl⟩))) | (go_at_call 16; apply Calls.mono; (with_reducible apply add_any); (repeat (first | assumption | exact Rd.nil _ | exact rd_zero _ _ | exact rd_true _ | (apply Nw.rd; assumption) | (apply Rd.at_later; assumption) | apply Rd.alloc | omega)); rintro e wn ⟨G1, cG1, rfl, hv, hb⟩; rw [words1 hW2] at hv) | (go_at_call 17; apply Calls.mono; (with_reducible apply sub_any); (repeat (first | assumption | exact Rd.nil _ | exact rd_zero _ _ | exact rd_true _ | (apply Nw.rd; assumption) | (apply Rd.at_later; assumption) | apply Rd.alloc | omega)); rintro e wn ⟨G2, cG2, rfl, hv, hb⟩; rw [words2 hW2] at hv) | (go_at_call 19; apply Calls.mono; (with_reducible apply mul_any); (repeat (first | assumption | exact Rd.nil _ | exact rd_zero _ _ | exact rd_true _ | (apply Nw.rd; assumption) | (apply Rd.at_later; assumption) | apply Rd.alloc | omega)); rintro e wn ⟨G3, cG3, rfl, hv, hb⟩; rw [words3 hW2] at hv) | (go_at_call 18; apply Calls.mono; (with_reducible apply neg_any); (repeat (first | assumption | exact Rd.nil _ | exact rd_zero _ _ | exact rd_true _ | (apply Nw.rd; assumption) | (apply Rd.at_later; assumption) | apply Rd.alloc | omega)); rintro e wn ⟨G4, cG4, rfl, hv, hb⟩; rw [words4 hW2] at hv) | (go_at_call 35; apply Calls.mono; (with_reducible apply shl_any); (repeat (first | assumption | exact Rd.nil _ | exact rd_zero _ _ | exact rd_true _ | (apply Nw.rd; assumption) | (apply Rd.at_later; assumption) | apply Rd.alloc | omega)); rintro e wn ⟨G5, cG5, rfl, hv, hb⟩; rw [words5 hW2] at hv) | (go_at_call 37; apply Calls.mono; (with_reducible apply sar_any); (repeat (first | assumption | exact Rd.nil _ | exact rd_zero _ _ | exact rd_true _ | (apply Nw.rd; assumption) | (apply Rd.at_later; assumption) | apply Rd.alloc | omega)); rintro e wn ⟨G6, cG6, rfl, hv, hb⟩; rw [words6 sM] at hv) | (go_at_call 36; apply Calls.mono; (with_reducible apply shr_any); (repeat (first | assumption | exact Rd.nil _ | exact rd_zero _ _ | exact rd_true _ | (apply Nw.rd; assumption) | (apply Rd.at_later; assumption) | apply Rd.alloc | omega)); rintro e wn ⟨G7, cG7, rfl, hv, hb⟩; rw [words7 hW2] at hv))
  obtain ⟨wc, rfl⟩ : ∃ wc : World, wc = wn := ⟨_, rfl⟩
  have hent : ∀ k : Nat, k < 7 → ∃ G c z, (#[.slice G1 W cG1, .int .i64 (wrap64 (M + N)), .slice G2 W cG2, .int .i64 (wrap64 (M - N)), .slice G3 W cG3, .int .i64 (wrap64 (M * N)), .slice G4 W cG4, .int .i64 (wrap64 (-M)), .slice G5 W cG5, .int .i64 (wrap64 (M * (2 : Int) ^ min s.toNat 64)), .slice G6 W cG6, .int .i64 (M / (2 : Int) ^ min s.toNat 64), .slice G7 W cG7, .int .i64 (wrap64 (((fi M W : Nat) : Int) / (2 : Int) ^ min s.toNat 64))] : Array Value)[k * 2]? = some (.slice G W c) ∧ (#[.slice G1 W cG1, .int .i64 (wrap64 (M + N)), .slice G2 W cG2, .int .i64 (wrap64 (M - N)), .slice G3 W cG3, .int .i64 (wrap64 (M * N)), .slice G4 W cG4, .int .i64 (wrap64 (-M)), .slice G5 W cG5, .int .i64 (wrap64 (M * (2 : Int) ^ min s.toNat 64)), .slice G6 W cG6, .int .i64 (M / (2 : Int) ^ min s.toNat 64), .slice G7 W cG7, .int .i64 (wrap64 (((fi M W : Nat) : Int) / (2 : Int) ^ min s.toNat 64))] : Array Value)[k * 2 + 1]? = some (.int .i64 z) ∧ Rd wc G W (fi z W) := by
    intro k hk
    rcases (show k = 0 ∨ k = 1 ∨ k = 2 ∨ k = 3 ∨ k = 4 ∨ k = 5 ∨ k = 6 by omega) with rfl | rfl | rfl | rfl | rfl | rfl | rfl
    all_goals
      refine ⟨_, _, _, rfl, rfl, ?_⟩
      (repeat (first | assumption | exact Rd.nil _ | exact rd_zero _ _ | exact rd_true _ | (apply Nw.rd; assumption) | (apply Rd.at_later; assumption) | apply Rd.alloc | omega))
  have hent := Lib.hid hent
  go_loopw [155] (fun i u => ∃ k : Nat, k ≤ 7 ∧ i = .int .i64 k ∧ Below wc.heap.size wc u ∧ Own u wc.heap.size 47 #[.slice G1 W cG1, .int .i64 (wrap64 (M + N)), .slice G2 W cG2, .int .i64 (wrap64 (M - N)), .slice G3 W cG3, .int .i64 (wrap64 (M * N)), .slice G4 W cG4, .int .i64 (wrap64 (-M)), .slice G5 W cG5, .int .i64 (wrap64 (M * (2 : Int) ^ min s.toNat 64)), .slice G6 W cG6, .int .i64 (M / (2 : Int) ^ min s.toNat 64), .slice G7 W cG7, .int .i64 (wrap64 (((fi M W : Nat) : Int) / (2 : Int) ^ min s.toNat 64))]) (fun i _ => 7 - (intOf i).toNat)
  case atStart => exact ⟨0, Nat.zero_le _, rfl, below_new (Below.refl _ _) _, Own.new wc _ _⟩
  case round =>
    obtain ⟨k, hk, rfl, hbw, oC⟩ := hrel
    by_cases g1 : k < 7
    · obtain ⟨G, cG, z, e1, e2, hG⟩ := hent.out k g1
      have c0 := (oC.cell (k * 2)).trans e1
      have c1 := (oC.cell (k * 2 + 1)).trans e2
      have hGr := hG.step hbw
      have oC := Lib.hid oC
      have d1 : decide ((k : Int) < 7) = true := by simp; omega
      have l0 : (0 : Int) ≤ k := by omega
      have l1 : (k : Int) < 7 := by omega
      clear e1 e2 hG
      go_wp2
      have oZ := Own.new wr 47 #[.slice G W cG, .int .i64 z]
      have cz0 := oZ.cell 0
      have cz1 := oZ.cell 1
      have hbW : Below wc.heap.size wc (wr.alloc (.cells #[.slice G W cG, .int .i64 z] 47)).drew := below_drew (below_new hbw _)
      have oCC := ((oC.out.alloc (.cells #[.slice G W cG, .int .i64 z] 47)).drew)
      have oCC := Lib.hid oCC
      clear oZ c0 c1
      simp only [List.getElem?_toArray, List.getElem?_cons_zero, List.getElem?_cons_succ] at cz0 cz1
      go_region_held3 (fun u => u.cell? ⟨wr.heap.size, 0, none⟩ = some (.slice G W cG) ∧ u.cell? ⟨wr.heap.size, 1, none⟩ = some (.int .i64 z)) (go_keep) (first | (go_at_call 48; refine (of_any _ _ _ hw128).mono ?_; rintro e w1 ⟨Ao, co, rfl, hvo, hbo⟩; obtain ⟨hc1, hf1⟩ := bcell hbo; have hz1 : wr.heap.size < w1.heap.size := by (have := hbo.size; simp at this; omega)) | (go_at_call 20; refine (same_t _ _ _ _ _ _ _ _ _ (((hGr.alloc _).drew).step hbo) hvo.rd (by omega) rfl rfl).mono ?_; rintro e w2 ⟨rfl, hb2⟩; obtain ⟨hc2, hf2⟩ := bcell hb2))
      go_wp2
      go_roundw
      case rel => exact ⟨k + 1, by omega, by go_num, below_step (below_step hbW hbo) hb2, (oCC.out.step hbo).step hb2⟩
      case measure => simp [intOf]; omega
    · obtain rfl : k = 7 := by omega
      have d1 : decide (((7 : Nat) : Int) < 7) = false := by decide
      have hrA : Below wc.heap.size wc wr := hbw
      by_cases hN0 : N = 0
      · have hN1 : (N == 0) = true := by simpa using hN0
        replace hN0 := Lib.hid hN0
        go_wp2_with fail
        have hsM := sval_fi sM
        have hsN := sval_fi sN
        rcases Int.lt_trichotomy M N with hlt | heq | hgt
        · have hv := Lib.hid (show cmpI (sval W (fi M W)) (sval W (fi N W)) = -1 by rw [hsM, hsN]; unfold cmpI; rw [if_pos hlt])
          have t1 : decide (M < N) = true := by simpa using hlt
          have t2 : (M == N) = false := by simp; omega
          clear hsM hsN
          by_cases hu : fi M W < fi N W
          · have hu' := Lib.hid (show cmpI (fi M W : Int) (fi N W : Int) = -1 by unfold cmpI; rw [if_pos (by omega)])
            have t3 : decide (fi M W < fi N W) = true := by simpa using hu
            have z3 : (-1 : Int) < 0 := by decide
            go_wp2_with (first | (go_at_call 28; apply Calls.mono; (with_reducible apply scmp_v _ _ _ _ _ _ _ _ (-1)); (repeat (first | assumption | exact Rd.nil _ | exact rd_zero _ _ | exact rd_true _ | (apply Nw.rd; assumption) | (apply Rd.at_later; assumption) | apply Rd.alloc | omega)); (first | rintro e wn ⟨rfl, rfl⟩ | (exact hv.out; rintro e wn ⟨rfl, rfl⟩))) | (go_at_call 26; apply Calls.mono; (with_reducible apply cmp_v _ _ _ _ _ _ _ _ (-1)); (repeat (first | assumption | exact Rd.nil _ | exact rd_zero _ _ | exact rd_true _ | (apply Nw.rd; assumption) | (apply Rd.at_later; assumption) | apply Rd.alloc | omega)); (first | rintro e wn ⟨rfl, rfl⟩ | (exact hu'.out; rintro e wn ⟨rfl, rfl⟩))))
            go_ret
            refine ⟨rfl, ?_⟩
            repeat (first | exact Below.refl _ _ | assumption | (apply below_last; assumption) | apply below_new | apply below_drew | apply below_drewN)
          · obtain ⟨zu, hzu, hz0⟩ : ∃ zu : Int, cmpI (fi M W : Int) (fi N W : Int) = zu ∧ 0 ≤ zu := ⟨_, rfl, by unfold cmpI; rw [if_neg (by omega)]; split <;> decide⟩
            have hu' := Lib.hid hzu
            clear hzu
            have t3 : decide (fi M W < fi N W) = false := by simpa using hu
            have t4 : decide (zu < 0) = false := by simp; omega
            go_wp2_with (first | (go_at_call 28; apply Calls.mono; (with_reducible apply scmp_v _ _ _ _ _ _ _ _ (-1)); (repeat (first | assumption | exact Rd.nil _ | exact rd_zero _ _ | exact rd_true _ | (apply Nw.rd; assumption) | (apply Rd.at_later; assumption) | apply Rd.alloc | omega)); (first | rintro e wn ⟨rfl, rfl⟩ | (exact hv.out; rintro e wn ⟨rfl, rfl⟩))) | (go_at_call 26; apply Calls.mono; (with_reducible apply cmp_v _ _ _ _ _ _ _ _ zu); (repeat (first | assumption | exact Rd.nil _ | exact rd_zero _ _ | exact rd_true _ | (apply Nw.rd; assumption) | (apply Rd.at_later; assumption) | apply Rd.alloc | omega)); (first | rintro e wn ⟨rfl, rfl⟩ | (exact hu'.out; rintro e wn ⟨rfl, rfl⟩))))
            go_ret
            refine ⟨rfl, ?_⟩
            repeat (first | exact Below.refl _ _ | assumption | (apply below_last; assumption) | apply below_new | apply below_drew | apply below_drewN)
        · have hv := Lib.hid (show cmpI (sval W (fi M W)) (sval W (fi N W)) = 0 by rw [hsM, hsN]; unfold cmpI; rw [if_neg (by omega), if_pos heq])
          have t1 : decide (M < N) = false := by simp; omega
          have t2 : (M == N) = true := by simpa using heq
          have hu : ¬ fi M W < fi N W := by rw [heq]; omega
          clear hsM hsN heq
          obtain ⟨zu, hzu, hz0⟩ : ∃ zu : Int, cmpI (fi M W : Int) (fi N W : Int) = zu ∧ 0 ≤ zu := ⟨_, rfl, by unfold cmpI; rw [if_neg (by omega)]; split <;> decide⟩
          have hu' := Lib.hid hzu
          clear hzu
          have t3 : decide (fi M W < fi N W) = false := by simpa using hu
          have t4 : decide (zu < 0) = false := by simp; omega
          go_wp2_with (first | (go_at_call 28; apply Calls.mono; (with_reducible apply scmp_v _ _ _ _ _ _ _ _ (0)); (repeat (first | assumption | exact Rd.nil _ | exact rd_zero _ _ | exact rd_true _ | (apply Nw.rd; assumption) | (apply Rd.at_later; assumption) | apply Rd.alloc | omega)); (first | rintro e wn ⟨rfl, rfl⟩ | (exact hv.out; rintro e wn ⟨rfl, rfl⟩))) | (go_at_call 26; apply Calls.mono; (with_reducible apply cmp_v _ _ _ _ _ _ _ _ zu); (repeat (first | assumption | exact Rd.nil _ | exact rd_zero _ _ | exact rd_true _ | (apply Nw.rd; assumption) | (apply Rd.at_later; assumption) | apply Rd.alloc | omega)); (first | rintro e wn ⟨rfl, rfl⟩ | (exact hu'.out; rintro e wn ⟨rfl, rfl⟩))))
          go_ret
          refine ⟨rfl, ?_⟩
          repeat (first | exact Below.refl _ _ | assumption | (apply below_last; assumption) | apply below_new | apply below_drew | apply below_drewN)
        · have hv := Lib.hid (show cmpI (sval W (fi M W)) (sval W (fi N W)) = 1 by rw [hsM, hsN]; unfold cmpI; rw [if_neg (by omega), if_neg (by omega)])
          have t1 : decide (M < N) = false := by simp; omega
          have t2 : (M == N) = false := by simp; omega
          clear hsM hsN
          by_cases hu : fi M W < fi N W
          · have hu' := Lib.hid (show cmpI (fi M W : Int) (fi N W : Int) = -1 by unfold cmpI; rw [if_pos (by omega)])
            have t3 : decide (fi M W < fi N W) = true := by simpa using hu
            have z3 : (-1 : Int) < 0 := by decide
            go_wp2_with (first | (go_at_call 28; apply Calls.mono; (with_reducible apply scmp_v _ _ _ _ _ _ _ _ (1)); (repeat (first | assumption | exact Rd.nil _ | exact rd_zero _ _ | exact rd_true _ | (apply Nw.rd; assumption) | (apply Rd.at_later; assumption) | apply Rd.alloc | omega)); (first | rintro e wn ⟨rfl, rfl⟩ | (exact hv.out; rintro e wn ⟨rfl, rfl⟩))) | (go_at_call 26; apply Calls.mono; (with_reducible apply cmp_v _ _ _ _ _ _ _ _ (-1)); (repeat (first | assumption | exact Rd.nil _ | exact rd_zero _ _ | exact rd_true _ | (apply Nw.rd; assumption) | (apply Rd.at_later; assumption) | apply Rd.alloc | omega)); (first | rintro e wn ⟨rfl, rfl⟩ | (exact hu'.out; rintro e wn ⟨rfl, rfl⟩))))
            go_ret
            refine ⟨rfl, ?_⟩
            repeat (first | exact Below.refl _ _ | assumption | (apply below_last; assumption) | apply below_new | apply below_drew | apply below_drewN)
          · obtain ⟨zu, hzu, hz0⟩ : ∃ zu : Int, cmpI (fi M W : Int) (fi N W : Int) = zu ∧ 0 ≤ zu := ⟨_, rfl, by unfold cmpI; rw [if_neg (by omega)]; split <;> decide⟩
            have hu' := Lib.hid hzu
            clear hzu
            have t3 : decide (fi M W < fi N W) = false := by simpa using hu
            have t4 : decide (zu < 0) = false := by simp; omega
            go_wp2_with (first | (go_at_call 28; apply Calls.mono; (with_reducible apply scmp_v _ _ _ _ _ _ _ _ (1)); (repeat (first | assumption | exact Rd.nil _ | exact rd_zero _ _ | exact rd_true _ | (apply Nw.rd; assumption) | (apply Rd.at_later; assumption) | apply Rd.alloc | omega)); (first | rintro e wn ⟨rfl, rfl⟩ | (exact hv.out; rintro e wn ⟨rfl, rfl⟩))) | (go_at_call 26; apply Calls.mono; (with_reducible apply cmp_v _ _ _ _ _ _ _ _ zu); (repeat (first | assumption | exact Rd.nil _ | exact rd_zero _ _ | exact rd_true _ | (apply Nw.rd; assumption) | (apply Rd.at_later; assumption) | apply Rd.alloc | omega)); (first | rintro e wn ⟨rfl, rfl⟩ | (exact hu'.out; rintro e wn ⟨rfl, rfl⟩))))
            go_ret
            refine ⟨rfl, ?_⟩
            repeat (first | exact Below.refl _ _ | assumption | (apply below_last; assumption) | apply below_new | apply below_drew | apply below_drewN)
      · have hN1 : (N == 0) = false := by simpa using hN0
        have hy : fi N W ≠ 0 := words_nz sN hN0
        replace hN0 := Lib.hid hN0
        go_wp2_with (first | (go_at_call 32; apply Calls.mono; (with_reducible apply divmod_any); (repeat (first | assumption | exact Rd.nil _ | exact rd_zero _ _ | exact rd_true _ | (apply Nw.rd; assumption) | (apply Rd.at_later; assumption) | apply Rd.alloc | omega)); rintro e wn ⟨A, c, A2, c2, rfl, hv, hv2, hb⟩) | (go_at_call 33; apply Calls.mono; (with_reducible apply sdivmod_any); (repeat (first | assumption | exact Rd.nil _ | exact rd_zero _ _ | exact rd_true _ | (apply Nw.rd; assumption) | (apply Rd.at_later; assumption) | apply Rd.alloc | omega)); rintro e wn ⟨A, c, A2, c2, rfl, hv, hv2, hb⟩) | (go_at_call 48; apply Calls.mono; (with_reducible apply of_any); omega; rintro e wn ⟨A, c, rfl, hv, hb⟩) | (go_at_call 20; apply Calls.mono; (with_reducible apply same_t); (repeat (first | assumption | exact Rd.nil _ | exact rd_zero _ _ | exact rd_true _ | (apply Nw.rd; assumption) | (apply Rd.at_later; assumption) | apply Rd.alloc | omega)); (first | (rintro e wn ⟨rfl, hb⟩) | ((first | (with_reducible exact words_q sM sN) | (with_reducible exact words_r sM sN) | (with_reducible exact words_uq hW2 M N) | (with_reducible exact words_ur hW2 M N)); (rintro e wn ⟨rfl, hb⟩)) | (rfl; rintro e wn ⟨rfl, hb⟩) | (rfl; (first | (with_reducible exact words_q sM sN) | (with_reducible exact words_r sM sN) | (with_reducible exact words_uq hW2 M N) | (with_reducible exact words_ur hW2 M N)); rintro e wn ⟨rfl, hb⟩))))
        have hsM := sval_fi sM
        have hsN := sval_fi sN
        rcases Int.lt_trichotomy M N with hlt | heq | hgt
        · have hv := Lib.hid (show cmpI (sval W (fi M W)) (sval W (fi N W)) = -1 by rw [hsM, hsN]; unfold cmpI; rw [if_pos hlt])
          have t1 : decide (M < N) = true := by simpa using hlt
          have t2 : (M == N) = false := by simp; omega
          clear hsM hsN
          by_cases hu : fi M W < fi N W
          · have hu' := Lib.hid (show cmpI (fi M W : Int) (fi N W : Int) = -1 by unfold cmpI; rw [if_pos (by omega)])
            have t3 : decide (fi M W < fi N W) = true := by simpa using hu
            have z3 : (-1 : Int) < 0 := by decide
            go_wp2_with (first | (go_at_call 28; apply Calls.mono; (with_reducible apply scmp_v _ _ _ _ _ _ _ _ (-1)); (repeat (first | assumption | exact Rd.nil _ | exact rd_zero _ _ | exact rd_true _ | (apply Nw.rd; assumption) | (apply Rd.at_later; assumption) | apply Rd.alloc | omega)); (first | rintro e wn ⟨rfl, rfl⟩ | (exact hv.out; rintro e wn ⟨rfl, rfl⟩))) | (go_at_call 26; apply Calls.mono; (with_reducible apply cmp_v _ _ _ _ _ _ _ _ (-1)); (repeat (first | assumption | exact Rd.nil _ | exact rd_zero _ _ | exact rd_true _ | (apply Nw.rd; assumption) | (apply Rd.at_later; assumption) | apply Rd.alloc | omega)); (first | rintro e wn ⟨rfl, rfl⟩ | (exact hu'.out; rintro e wn ⟨rfl, rfl⟩))))
            go_ret
            refine ⟨rfl, ?_⟩
            repeat (first | exact Below.refl _ _ | assumption | (apply below_last; assumption) | apply below_new | apply below_drew | apply below_drewN)
          · obtain ⟨zu, hzu, hz0⟩ : ∃ zu : Int, cmpI (fi M W : Int) (fi N W : Int) = zu ∧ 0 ≤ zu := ⟨_, rfl, by unfold cmpI; rw [if_neg (by omega)]; split <;> decide⟩
            have hu' := Lib.hid hzu
            clear hzu
            have t3 : decide (fi M W < fi N W) = false := by simpa using hu
            have t4 : decide (zu < 0) = false := by simp; omega
            go_wp2_with (first | (go_at_call 28; apply Calls.mono; (with_reducible apply scmp_v _ _ _ _ _ _ _ _ (-1)); (repeat (first | assumption | exact Rd.nil _ | exact rd_zero _ _ | exact rd_true _ | (apply Nw.rd; assumption) | (apply Rd.at_later; assumption) | apply Rd.alloc | omega)); (first | rintro e wn ⟨rfl, rfl⟩ | (exact hv.out; rintro e wn ⟨rfl, rfl⟩))) | (go_at_call 26; apply Calls.mono; (with_reducible apply cmp_v _ _ _ _ _ _ _ _ zu); (repeat (first | assumption | exact Rd.nil _ | exact rd_zero _ _ | exact rd_true _ | (apply Nw.rd; assumption) | (apply Rd.at_later; assumption) | apply Rd.alloc | omega)); (first | rintro e wn ⟨rfl, rfl⟩ | (exact hu'.out; rintro e wn ⟨rfl, rfl⟩))))
            go_ret
            refine ⟨rfl, ?_⟩
            repeat (first | exact Below.refl _ _ | assumption | (apply below_last; assumption) | apply below_new | apply below_drew | apply below_drewN)
        · have hv := Lib.hid (show cmpI (sval W (fi M W)) (sval W (fi N W)) = 0 by rw [hsM, hsN]; unfold cmpI; rw [if_neg (by omega), if_pos heq])
          have t1 : decide (M < N) = false := by simp; omega
          have t2 : (M == N) = true := by simpa using heq
          have hu : ¬ fi M W < fi N W := by rw [heq]; omega
          clear hsM hsN heq
          obtain ⟨zu, hzu, hz0⟩ : ∃ zu : Int, cmpI (fi M W : Int) (fi N W : Int) = zu ∧ 0 ≤ zu := ⟨_, rfl, by unfold cmpI; rw [if_neg (by omega)]; split <;> decide⟩
          have hu' := Lib.hid hzu
          clear hzu
          have t3 : decide (fi M W < fi N W) = false := by simpa using hu
          have t4 : decide (zu < 0) = false := by simp; omega
          go_wp2_with (first | (go_at_call 28; apply Calls.mono; (with_reducible apply scmp_v _ _ _ _ _ _ _ _ (0)); (repeat (first | assumption | exact Rd.nil _ | exact rd_zero _ _ | exact rd_true _ | (apply Nw.rd; assumption) | (apply Rd.at_later; assumption) | apply Rd.alloc | omega)); (first | rintro e wn ⟨rfl, rfl⟩ | (exact hv.out; rintro e wn ⟨rfl, rfl⟩))) | (go_at_call 26; apply Calls.mono; (with_reducible apply cmp_v _ _ _ _ _ _ _ _ zu); (repeat (first | assumption | exact Rd.nil _ | exact rd_zero _ _ | exact rd_true _ | (apply Nw.rd; assumption) | (apply Rd.at_later; assumption) | apply Rd.alloc | omega)); (first | rintro e wn ⟨rfl, rfl⟩ | (exact hu'.out; rintro e wn ⟨rfl, rfl⟩))))
          go_ret
          refine ⟨rfl, ?_⟩
          repeat (first | exact Below.refl _ _ | assumption | (apply below_last; assumption) | apply below_new | apply below_drew | apply below_drewN)
        · have hv := Lib.hid (show cmpI (sval W (fi M W)) (sval W (fi N W)) = 1 by rw [hsM, hsN]; unfold cmpI; rw [if_neg (by omega), if_neg (by omega)])
          have t1 : decide (M < N) = false := by simp; omega
          have t2 : (M == N) = false := by simp; omega
          clear hsM hsN
          by_cases hu : fi M W < fi N W
          · have hu' := Lib.hid (show cmpI (fi M W : Int) (fi N W : Int) = -1 by unfold cmpI; rw [if_pos (by omega)])
            have t3 : decide (fi M W < fi N W) = true := by simpa using hu
            have z3 : (-1 : Int) < 0 := by decide
            go_wp2_with (first | (go_at_call 28; apply Calls.mono; (with_reducible apply scmp_v _ _ _ _ _ _ _ _ (1)); (repeat (first | assumption | exact Rd.nil _ | exact rd_zero _ _ | exact rd_true _ | (apply Nw.rd; assumption) | (apply Rd.at_later; assumption) | apply Rd.alloc | omega)); (first | rintro e wn ⟨rfl, rfl⟩ | (exact hv.out; rintro e wn ⟨rfl, rfl⟩))) | (go_at_call 26; apply Calls.mono; (with_reducible apply cmp_v _ _ _ _ _ _ _ _ (-1)); (repeat (first | assumption | exact Rd.nil _ | exact rd_zero _ _ | exact rd_true _ | (apply Nw.rd; assumption) | (apply Rd.at_later; assumption) | apply Rd.alloc | omega)); (first | rintro e wn ⟨rfl, rfl⟩ | (exact hu'.out; rintro e wn ⟨rfl, rfl⟩))))
            go_ret
            refine ⟨rfl, ?_⟩
            repeat (first | exact Below.refl _ _ | assumption | (apply below_last; assumption) | apply below_new | apply below_drew | apply below_drewN)
          · obtain ⟨zu, hzu, hz0⟩ : ∃ zu : Int, cmpI (fi M W : Int) (fi N W : Int) = zu ∧ 0 ≤ zu := ⟨_, rfl, by unfold cmpI; rw [if_neg (by omega)]; split <;> decide⟩
            have hu' := Lib.hid hzu
            clear hzu
            have t3 : decide (fi M W < fi N W) = false := by simpa using hu
            have t4 : decide (zu < 0) = false := by simp; omega
            go_wp2_with (first | (go_at_call 28; apply Calls.mono; (with_reducible apply scmp_v _ _ _ _ _ _ _ _ (1)); (repeat (first | assumption | exact Rd.nil _ | exact rd_zero _ _ | exact rd_true _ | (apply Nw.rd; assumption) | (apply Rd.at_later; assumption) | apply Rd.alloc | omega)); (first | rintro e wn ⟨rfl, rfl⟩ | (exact hv.out; rintro e wn ⟨rfl, rfl⟩))) | (go_at_call 26; apply Calls.mono; (with_reducible apply cmp_v _ _ _ _ _ _ _ _ zu); (repeat (first | assumption | exact Rd.nil _ | exact rd_zero _ _ | exact rd_true _ | (apply Nw.rd; assumption) | (apply Rd.at_later; assumption) | apply Rd.alloc | omega)); (first | rintro e wn ⟨rfl, rfl⟩ | (exact hu'.out; rintro e wn ⟨rfl, rfl⟩))))
            go_ret
            refine ⟨rfl, ?_⟩
            repeat (first | exact Below.refl _ _ | assumption | (apply below_last; assumption) | apply below_new | apply below_drew | apply below_drewN)
end Go.Proofs.Ytaedfoblniadfaa
