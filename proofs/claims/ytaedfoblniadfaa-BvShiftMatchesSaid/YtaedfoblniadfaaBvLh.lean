/-
  Walk of BvShiftMatches: the call returns true and changes no argument. No conditions.
-/
import Derived.Test.YtaedfoblniadfaaBvLd
import Derived.Test.YtaedfoblniadfaaBvF3
namespace Go.Proofs.Ytaedfoblniadfaa
open Go Go.RowKit

set_option maxRecDepth 100000 in
set_option maxHeartbeats 8000000 in
theorem walk_BvShiftMatches (A : Option Addr) (n c x : Nat) (s z v : Int) (w : World) (ha : Arg w A n c x) (hz : -9223372036854775808 ≤ z ∧ z ≤ 9223372036854775807) :
    Calls Try.prog 5 #[.slice A n c, .int .i64 s, .int .i64 z, .int .i64 v] w fun en w' => en = .returned (.bool true) ∧ Below w.heap.size w w' := by
  obtain ⟨hc, hcm, h⟩ := ha
  unfold maxLen at hcm
  by_cases g : 140 < n
  · have hlong := Lib.hid (fun W => long1 A n c W true ⟨fun _ => g, fun _ => rfl⟩)
    clear g
    go_enter Try.func5, Try.ntmps5
    go_wp2_with (first | (go_at_call 14; apply Calls.mono; (with_reducible apply awake_any); rintro e wn ⟨rfl, hb⟩) | (go_at_call 13; apply Calls.mono; (with_reducible exact hlong.out _); rintro e wn ⟨rfl, rfl⟩))
    go_ret
    refine ⟨rfl, ?_⟩
    repeat (first | exact Below.refl _ _ | assumption | (apply below_last; assumption) | apply below_new | apply below_drew)
  · have hlong := Lib.hid (fun W => long1 A n c W false ⟨fun h => absurd h (by decide), fun h => absurd h g⟩)
    have gn : n ≤ 140 := by omega
    clear g
    by_cases hv : 0 ≤ v ∧ v ≤ 128
    · obtain ⟨m, rfl⟩ : ∃ m : Nat, v = m := ⟨v.toNat, by omega⟩
      have gm : m ≤ 128 := by omega
      clear hv
      go_enter Try.func5, Try.ntmps5
      go_wp2_with (first | (go_at_call 13; apply Calls.mono; (with_reducible exact hlong.out _); rintro e wn ⟨rfl, rfl⟩) | (go_at_call 15; apply Calls.mono; (with_reducible apply own_any A n c x); (repeat (first | assumption | exact Rd.nil _ | exact rd_zero _ _ | exact rd_true _ | (apply Nw.rd; assumption) | (apply Rd.at_later; assumption) | apply Rd.alloc | omega)); rintro e wx ⟨X, cx, rfl, hX, hbx⟩) | (go_at_call 34; apply Calls.mono; (with_reducible apply rFromInt_any); (repeat (first | assumption | exact Rd.nil _ | exact rd_zero _ _ | exact rd_true _ | (apply Nw.rd; assumption) | (apply Rd.at_later; assumption) | apply Rd.alloc | omega)); rintro e wq ⟨V, cv, rfl, hV, hbq⟩; skip))
      have hb0 : Below w.heap.size w wq := by
        repeat (first | exact Below.refl _ _ | assumption | (apply below_last; assumption) | apply below_new | apply below_drew)
      have hX1 : Rd wq X n x := hX.rd.step hbq
      go_loopw [12] (fun i u => ∃ r : Nat, r ≤ 2 ∧ i = .int .i64 r ∧ Below w.heap.size w u ∧ Rd u X n x ∧ Rd u V m (fi z m)) (fun i _ => 2 - (intOf i).toNat)
      case atStart => exact ⟨0, by decide, rfl, hb0, hX1, hV.rd⟩
      case round =>
        obtain ⟨r, hr, rfl, hB, hXr, hVr⟩ := hrel
        have ha := h.step hB
        clear hb0 hX1 hX hbx h hV hbq
        by_cases g1 : r < 2
        · have d1 : decide ((r : Int) < 2) = true := by simp; omega
          go_wp2_with (first | (go_at_call 38; apply Calls.mono; (with_reducible apply fromInt_any _ _ _ hz); (repeat (first | assumption | exact Rd.nil _ | exact rd_zero _ _ | exact rd_true _ | (apply Nw.rd; assumption) | (apply Rd.at_later; assumption) | apply Rd.alloc | omega)); rintro e w4 ⟨A4, c4, rfl, hv4, hb4⟩; replace hv4 := hv4.mono z3; have z4 := Nat.le_trans z3 hb4.size) | (go_at_call 35; apply Calls.mono; (with_reducible apply shl_any); (repeat (first | assumption | exact Rd.nil _ | exact rd_zero _ _ | exact rd_true _ | (apply Nw.rd; assumption) | (apply Rd.at_later; assumption) | apply Rd.alloc | omega)); rintro e w1 ⟨A1, c1, rfl, hv1, hb1⟩; have z1 := hb1.size) | (go_at_call 36; apply Calls.mono; (with_reducible apply shr_any); (repeat (first | assumption | exact Rd.nil _ | exact rd_zero _ _ | exact rd_true _ | (apply Nw.rd; assumption) | (apply Rd.at_later; assumption) | apply Rd.alloc | omega)); rintro e w2 ⟨A2, c2, rfl, hv2, hb2⟩; replace hv2 := hv2.mono z1; have z2 := Nat.le_trans z1 hb2.size) | (go_at_call 37; apply Calls.mono; (with_reducible apply sar_any); (repeat (first | assumption | exact Rd.nil _ | exact rd_zero _ _ | exact rd_true _ | (apply Nw.rd; assumption) | (apply Rd.at_later; assumption) | apply Rd.alloc | omega)); rintro e w3 ⟨A3, c3, rfl, hv3, hb3⟩; replace hv3 := hv3.mono z2; have z3 := Nat.le_trans z2 hb3.size) | (go_at_call 39; apply Calls.mono; (with_reducible apply rShl_any); (repeat (first | assumption | exact Rd.nil _ | exact rd_zero _ _ | exact rd_true _ | (apply Nw.rd; assumption) | (apply Rd.at_later; assumption) | apply Rd.alloc | omega)); rintro e wn ⟨A, c, rfl, hv, hb⟩) | (go_at_call 40; apply Calls.mono; (with_reducible apply rShr_any); (repeat (first | assumption | exact Rd.nil _ | exact rd_zero _ _ | exact rd_true _ | (apply Nw.rd; assumption) | (apply Rd.at_later; assumption) | apply Rd.alloc | omega)); rintro e wn ⟨A, c, rfl, hv, hb⟩) | (go_at_call 41; apply Calls.mono; (with_reducible apply rSar_any); (repeat (first | assumption | exact Rd.nil _ | exact rd_zero _ _ | exact rd_true _ | (apply Nw.rd; assumption) | (apply Rd.at_later; assumption) | apply Rd.alloc | omega)); rintro e wn ⟨A, c, rfl, hv, hb⟩) | (go_at_call 20; apply Calls.mono; (with_reducible apply same_t); (repeat (first | assumption | exact Rd.nil _ | exact rd_zero _ _ | exact rd_true _ | (apply Nw.rd; assumption) | (apply Rd.at_later; assumption) | apply Rd.alloc | omega)); (first | (rintro e wn ⟨rfl, hb⟩) | ((rfl); (rintro e wn ⟨rfl, hb⟩)) | (rfl; rintro e wn ⟨rfl, hb⟩) | (rfl; (rfl); rintro e wn ⟨rfl, hb⟩))) | (go_at_call 25; apply Calls.mono; (with_reducible apply spoil_any wr); apply spo4; (repeat (first | assumption | exact Below.refl _ _ | exact Nw.nil _ _ | (apply Nw.at_later; assumption) | (apply below_last; assumption) | omega)); rintro e wn ⟨rfl, hb⟩))
          go_roundw
          case rel => exact ⟨r + 1, by omega, by go_num, below_step hB hb, hXr.step hb, hVr.step hb⟩
          case measure => simp [intOf]; omega
        · obtain rfl : r = 2 := by omega
          go_wp2_with (first | (go_at_call 14; apply Calls.mono; (with_reducible apply awake_any); rintro e wn ⟨rfl, hb⟩) | (go_at_call 20; apply Calls.mono; (with_reducible apply same_t); (repeat (first | assumption | exact Rd.nil _ | exact rd_zero _ _ | exact rd_true _ | (apply Nw.rd; assumption) | (apply Rd.at_later; assumption) | apply Rd.alloc | omega)); (first | (rintro e wn ⟨rfl, hb⟩) | ((rfl); (rintro e wn ⟨rfl, hb⟩)) | (rfl; rintro e wn ⟨rfl, hb⟩) | (rfl; (rfl); rintro e wn ⟨rfl, hb⟩))) | (go_at_call 42; apply Calls.mono; (with_reducible apply uint_any); (repeat (first | assumption | exact Rd.nil _ | exact rd_zero _ _ | exact rd_true _ | (apply Nw.rd; assumption) | (apply Rd.at_later; assumption) | apply Rd.alloc | omega)); rintro e wn ⟨rfl, rfl⟩) | (go_at_call 44; apply Calls.mono; (with_reducible apply int_any); (repeat (first | assumption | exact Rd.nil _ | exact rd_zero _ _ | exact rd_true _ | (apply Nw.rd; assumption) | (apply Rd.at_later; assumption) | apply Rd.alloc | omega)); rintro e wn ⟨rfl, rfl⟩) | (go_at_call 43; apply Calls.mono; (with_reducible apply rUint_any); (repeat (first | assumption | exact Rd.nil _ | exact rd_zero _ _ | exact rd_true _ | (apply Nw.rd; assumption) | (apply Rd.at_later; assumption) | apply Rd.alloc | omega)); rintro e wn ⟨rfl, hb⟩) | (go_at_call 45; apply Calls.mono; (with_reducible apply rInt_any); (repeat (first | assumption | exact Rd.nil _ | exact rd_zero _ _ | exact rd_true _ | (apply Nw.rd; assumption) | (apply Rd.at_later; assumption) | apply Rd.alloc | omega)); rintro e wn ⟨rfl, hb⟩))
          go_ret
          refine ⟨rfl, ?_⟩
          repeat (first | exact Below.refl _ _ | assumption | (apply below_last; assumption) | apply below_new | apply below_drew)
    · have hno : v < 0 ∨ 128 < v := by omega
      clear hv
      go_enter Try.func5, Try.ntmps5
      go_wp2_with (first | (go_at_call 13; apply Calls.mono; (with_reducible exact hlong.out _); rintro e wn ⟨rfl, rfl⟩) | (go_at_call 15; apply Calls.mono; (with_reducible apply own_any A n c x); (repeat (first | assumption | exact Rd.nil _ | exact rd_zero _ _ | exact rd_true _ | (apply Nw.rd; assumption) | (apply Rd.at_later; assumption) | apply Rd.alloc | omega)); rintro e wx ⟨X, cx, rfl, hX, hbx⟩) | (go_at_call 34; apply Calls.mono; (with_reducible apply rFromInt_no _ _ _ hno); rintro e wq ⟨rfl, rfl⟩))
      have hb0 : Below w.heap.size w wx := by
        repeat (first | exact Below.refl _ _ | assumption | (apply below_last; assumption) | apply below_new | apply below_drew)
      have hX1 : Rd wx X n x := hX.rd
      go_loopw [12] (fun i u => ∃ r : Nat, r ≤ 2 ∧ i = .int .i64 r ∧ Below w.heap.size w u ∧ Rd u X n x) (fun i _ => 2 - (intOf i).toNat)
      case atStart => exact ⟨0, by decide, rfl, hb0, hX1⟩
      case round =>
        obtain ⟨r, hr, rfl, hB, hXr⟩ := hrel
        have ha := h.step hB
        clear hb0 hX1 hX hbx h
        by_cases g1 : r < 2
        · have d1 : decide ((r : Int) < 2) = true := by simp; omega
          go_wp2_with (first | (go_at_call 38; apply Calls.mono; (with_reducible apply fromInt_no _ _ _ hno); rintro e w4 ⟨rfl, rfl⟩) | (go_at_call 35; apply Calls.mono; (with_reducible apply shl_any); (repeat (first | assumption | exact Rd.nil _ | exact rd_zero _ _ | exact rd_true _ | (apply Nw.rd; assumption) | (apply Rd.at_later; assumption) | apply Rd.alloc | omega)); rintro e w1 ⟨A1, c1, rfl, hv1, hb1⟩; have z1 := hb1.size) | (go_at_call 36; apply Calls.mono; (with_reducible apply shr_any); (repeat (first | assumption | exact Rd.nil _ | exact rd_zero _ _ | exact rd_true _ | (apply Nw.rd; assumption) | (apply Rd.at_later; assumption) | apply Rd.alloc | omega)); rintro e w2 ⟨A2, c2, rfl, hv2, hb2⟩; replace hv2 := hv2.mono z1; have z2 := Nat.le_trans z1 hb2.size) | (go_at_call 37; apply Calls.mono; (with_reducible apply sar_any); (repeat (first | assumption | exact Rd.nil _ | exact rd_zero _ _ | exact rd_true _ | (apply Nw.rd; assumption) | (apply Rd.at_later; assumption) | apply Rd.alloc | omega)); rintro e w3 ⟨A3, c3, rfl, hv3, hb3⟩; replace hv3 := hv3.mono z2; have z3 := Nat.le_trans z2 hb3.size) | (go_at_call 39; apply Calls.mono; (with_reducible apply rShl_any); (repeat (first | assumption | exact Rd.nil _ | exact rd_zero _ _ | exact rd_true _ | (apply Nw.rd; assumption) | (apply Rd.at_later; assumption) | apply Rd.alloc | omega)); rintro e wn ⟨A, c, rfl, hv, hb⟩) | (go_at_call 40; apply Calls.mono; (with_reducible apply rShr_any); (repeat (first | assumption | exact Rd.nil _ | exact rd_zero _ _ | exact rd_true _ | (apply Nw.rd; assumption) | (apply Rd.at_later; assumption) | apply Rd.alloc | omega)); rintro e wn ⟨A, c, rfl, hv, hb⟩) | (go_at_call 41; apply Calls.mono; (with_reducible apply rSar_any); (repeat (first | assumption | exact Rd.nil _ | exact rd_zero _ _ | exact rd_true _ | (apply Nw.rd; assumption) | (apply Rd.at_later; assumption) | apply Rd.alloc | omega)); rintro e wn ⟨A, c, rfl, hv, hb⟩) | (go_at_call 20; apply Calls.mono; (with_reducible apply same_t); (repeat (first | assumption | exact Rd.nil _ | exact rd_zero _ _ | exact rd_true _ | (apply Nw.rd; assumption) | (apply Rd.at_later; assumption) | apply Rd.alloc | omega)); (first | (rintro e wn ⟨rfl, hb⟩) | ((rfl); (rintro e wn ⟨rfl, hb⟩)) | (rfl; rintro e wn ⟨rfl, hb⟩) | (rfl; (rfl); rintro e wn ⟨rfl, hb⟩))) | (go_at_call 25; apply Calls.mono; (with_reducible apply spoil_any wr); apply spo4; (repeat (first | assumption | exact Below.refl _ _ | exact Nw.nil _ _ | (apply Nw.at_later; assumption) | (apply below_last; assumption) | omega)); rintro e wn ⟨rfl, hb⟩))
          go_roundw
          case rel => exact ⟨r + 1, by omega, by go_num, below_step hB hb, hXr.step hb⟩
          case measure => simp [intOf]; omega
        · obtain rfl : r = 2 := by omega
          go_wp2_with (first | (go_at_call 14; apply Calls.mono; (with_reducible apply awake_any); rintro e wn ⟨rfl, hb⟩) | (go_at_call 20; apply Calls.mono; (with_reducible apply same_t); (repeat (first | assumption | exact Rd.nil _ | exact rd_zero _ _ | exact rd_true _ | (apply Nw.rd; assumption) | (apply Rd.at_later; assumption) | apply Rd.alloc | omega)); (first | (rintro e wn ⟨rfl, hb⟩) | ((rfl); (rintro e wn ⟨rfl, hb⟩)) | (rfl; rintro e wn ⟨rfl, hb⟩) | (rfl; (rfl); rintro e wn ⟨rfl, hb⟩))) | (go_at_call 42; apply Calls.mono; (with_reducible apply uint_any); (repeat (first | assumption | exact Rd.nil _ | exact rd_zero _ _ | exact rd_true _ | (apply Nw.rd; assumption) | (apply Rd.at_later; assumption) | apply Rd.alloc | omega)); rintro e wn ⟨rfl, rfl⟩) | (go_at_call 44; apply Calls.mono; (with_reducible apply int_any); (repeat (first | assumption | exact Rd.nil _ | exact rd_zero _ _ | exact rd_true _ | (apply Nw.rd; assumption) | (apply Rd.at_later; assumption) | apply Rd.alloc | omega)); rintro e wn ⟨rfl, rfl⟩) | (go_at_call 43; apply Calls.mono; (with_reducible apply rUint_any); (repeat (first | assumption | exact Rd.nil _ | exact rd_zero _ _ | exact rd_true _ | (apply Nw.rd; assumption) | (apply Rd.at_later; assumption) | apply Rd.alloc | omega)); rintro e wn ⟨rfl, hb⟩) | (go_at_call 45; apply Calls.mono; (with_reducible apply rInt_any); (repeat (first | assumption | exact Rd.nil _ | exact rd_zero _ _ | exact rd_true _ | (apply Nw.rd; assumption) | (apply Rd.at_later; assumption) | apply Rd.alloc | omega)); rintro e wn ⟨rfl, hb⟩))
          go_ret
          refine ⟨rfl, ?_⟩
          repeat (first | exact Below.refl _ _ | assumption | (apply below_last; assumption) | apply below_new | apply below_drew)
end Go.Proofs.Ytaedfoblniadfaa
