/-
  Walk of BvDivisionMatches: the call returns true and changes no argument. No conditions.
-/
import Derived.Test.YtaedfoblniadfaaBvLd
namespace Go.Proofs.Ytaedfoblniadfaa
open Go Go.RowKit

set_option maxRecDepth 100000 in
set_option maxHeartbeats 8000000 in
theorem walk_BvDivisionMatches (A : Option Addr) (n c x : Nat) (B : Option Addr) (m d y : Nat) (w : World) (ha : Arg w A n c x) (hb' : Arg w B m d y) :
    Calls Try.prog 4 #[.slice A n c, .slice B m d] w fun en w' => en = .returned (.bool true) ∧ Below w.heap.size w w' := by
  obtain ⟨hc, hcm, h⟩ := ha
  obtain ⟨hd, hdm, h'⟩ := hb'
  unfold maxLen at hcm hdm
  by_cases g : 140 < n ∨ 140 < m
  · have hlong := Lib.hid (fun W => long2 A B n c m d W true ⟨fun _ => g, fun _ => rfl⟩)
    clear g
    go_enter Try.func4, Try.ntmps4
    go_wp2_with (first | (go_at_call 14; apply Calls.mono; (with_reducible apply awake_any); rintro e wn ⟨rfl, hb⟩) | (go_at_call 13; apply Calls.mono; (with_reducible exact hlong.out _); rintro e wn ⟨rfl, rfl⟩))
    go_ret
    refine ⟨rfl, ?_⟩
    repeat (first | exact Below.refl _ _ | assumption | (apply below_last; assumption) | apply below_new | apply below_drew)
  · have hlong := Lib.hid (fun W => long2 A B n c m d W false ⟨fun h => absurd h (by decide), fun h => absurd h g⟩)
    have gn : n ≤ 140 := by omega
    have gm : m ≤ 140 := by omega
    clear g
    by_cases hy : y = 0
    · subst hy
      go_enter Try.func4, Try.ntmps4
      go_wp2_with (first | (go_at_call 13; apply Calls.mono; (with_reducible exact hlong.out _); rintro e wn ⟨rfl, rfl⟩) | (go_at_call 15; (first | (apply Calls.mono; (with_reducible apply own_any A n c x); (repeat (first | assumption | exact Rd.nil _ | exact rd_zero _ _ | exact rd_true _ | (apply Nw.rd; assumption) | (apply Rd.at_later; assumption) | apply Rd.alloc | omega)); rintro e wx ⟨X, cx, rfl, hX, hbx⟩) | (apply Calls.mono; (with_reducible apply own_any B m d 0); (repeat (first | assumption | exact Rd.nil _ | exact rd_zero _ _ | exact rd_true _ | (apply Nw.rd; assumption) | (apply Rd.at_later; assumption) | apply Rd.alloc | omega)); rintro e wy ⟨Y, cy, rfl, hY, hby⟩))) | (go_at_call 30; apply Calls.mono; (with_reducible apply rDivMod_zero); (repeat (first | assumption | exact Rd.nil _ | exact rd_zero _ _ | exact rd_true _ | (apply Nw.rd; assumption) | (apply Rd.at_later; assumption) | apply Rd.alloc | omega)); rintro e wq ⟨rfl, hbq⟩; skip) | (go_at_call 31; apply Calls.mono; (with_reducible apply rSDivMod_zero); (repeat (first | assumption | exact Rd.nil _ | exact rd_zero _ _ | exact rd_true _ | (apply Nw.rd; assumption) | (apply Rd.at_later; assumption) | apply Rd.alloc | omega)); rintro e ws ⟨rfl, hbs⟩; skip))
      have hb0 : Below w.heap.size w ws := by
        repeat (first | exact Below.refl _ _ | assumption | (apply below_last; assumption) | apply below_new | apply below_drew)
      have hX1 : Rd ws X n x := ((hX.rd.step hby).step hbq).step hbs
      have hY1 : Rd ws Y m 0 := (hY.rd.step hbq).step hbs
      go_loopw [13] (fun i u => ∃ r : Nat, r ≤ 2 ∧ i = .int .i64 r ∧ Below w.heap.size w u ∧ Rd u X n x ∧ Rd u Y m 0) (fun i _ => 2 - (intOf i).toNat)
      case atStart => exact ⟨0, by decide, rfl, hb0, hX1, hY1⟩
      case round =>
        obtain ⟨r, hr, rfl, hB, hXr, hYr⟩ := hrel
        have ha := h.step hB
        have hb := h'.step hB
        clear hb0 hX1 hY1 hX hY hbx hby hbq hbs h h'
        by_cases g1 : r < 2
        · have d1 : decide ((r : Int) < 2) = true := by simp; omega
          go_wp2_with (first | (go_at_call 32; apply Calls.mono; (with_reducible apply divmod_zero); (repeat (first | assumption | exact Rd.nil _ | exact rd_zero _ _ | exact rd_true _ | (apply Nw.rd; assumption) | (apply Rd.at_later; assumption) | apply Rd.alloc | omega)); rintro e w1 ⟨rfl, rfl⟩; skip) | (go_at_call 33; apply Calls.mono; (with_reducible apply sdivmod_zero); (repeat (first | assumption | exact Rd.nil _ | exact rd_zero _ _ | exact rd_true _ | (apply Nw.rd; assumption) | (apply Rd.at_later; assumption) | apply Rd.alloc | omega)); rintro e w2 ⟨rfl, hb2⟩; skip) | (go_at_call 20; apply Calls.mono; (with_reducible apply same_t); (repeat (first | assumption | exact Rd.nil _ | exact rd_zero _ _ | exact rd_true _ | (apply Nw.rd; assumption) | (apply Rd.at_later; assumption) | apply Rd.alloc | omega)); (first | (rintro e wn ⟨rfl, hb⟩) | ((rfl); (rintro e wn ⟨rfl, hb⟩)) | (rfl; rintro e wn ⟨rfl, hb⟩) | (rfl; (rfl); rintro e wn ⟨rfl, hb⟩))) | (go_at_call 25; apply Calls.mono; (with_reducible apply spoil_any wr); apply spo4; (repeat (first | assumption | exact Below.refl _ _ | exact Nw.nil _ _ | (apply Nw.at_later; assumption) | (apply below_last; assumption) | omega)); rintro e wn ⟨rfl, hb⟩))
          go_roundw
          case rel => exact ⟨r + 1, by omega, by go_num, below_step hB hb, hXr.step hb, hYr.step hb⟩
          case measure => simp [intOf]; omega
        · obtain rfl : r = 2 := by omega
          go_wp2_with (first | (go_at_call 14; apply Calls.mono; (with_reducible apply awake_any); rintro e wn ⟨rfl, hb⟩) | (go_at_call 20; apply Calls.mono; (with_reducible apply same_t); (repeat (first | assumption | exact Rd.nil _ | exact rd_zero _ _ | exact rd_true _ | (apply Nw.rd; assumption) | (apply Rd.at_later; assumption) | apply Rd.alloc | omega)); (first | (rintro e wn ⟨rfl, hb⟩) | ((rfl); (rintro e wn ⟨rfl, hb⟩)) | (rfl; rintro e wn ⟨rfl, hb⟩) | (rfl; (rfl); rintro e wn ⟨rfl, hb⟩))))
          go_ret
          refine ⟨rfl, ?_⟩
          repeat (first | exact Below.refl _ _ | assumption | (apply below_last; assumption) | apply below_new | apply below_drew)
    · have hy' : y ≠ 0 := hy
      clear hy
      go_enter Try.func4, Try.ntmps4
      go_wp2_with (first | (go_at_call 13; apply Calls.mono; (with_reducible exact hlong.out _); rintro e wn ⟨rfl, rfl⟩) | (go_at_call 15; (first | (apply Calls.mono; (with_reducible apply own_any A n c x); (repeat (first | assumption | exact Rd.nil _ | exact rd_zero _ _ | exact rd_true _ | (apply Nw.rd; assumption) | (apply Rd.at_later; assumption) | apply Rd.alloc | omega)); rintro e wx ⟨X, cx, rfl, hX, hbx⟩) | (apply Calls.mono; (with_reducible apply own_any B m d y); (repeat (first | assumption | exact Rd.nil _ | exact rd_zero _ _ | exact rd_true _ | (apply Nw.rd; assumption) | (apply Rd.at_later; assumption) | apply Rd.alloc | omega)); rintro e wy ⟨Y, cy, rfl, hY, hby⟩))) | (go_at_call 30; apply Calls.mono; (with_reducible apply rDivMod_any); (repeat (first | assumption | exact Rd.nil _ | exact rd_zero _ _ | exact rd_true _ | (apply Nw.rd; assumption) | (apply Rd.at_later; assumption) | apply Rd.alloc | omega)); rintro e wq ⟨Q, cq, R, cr, rfl, hQ, hR, hbq⟩; skip) | (go_at_call 31; apply Calls.mono; (with_reducible apply rSDivMod_any); (repeat (first | assumption | exact Rd.nil _ | exact rd_zero _ _ | exact rd_true _ | (apply Nw.rd; assumption) | (apply Rd.at_later; assumption) | apply Rd.alloc | omega)); rintro e ws ⟨S, cs, T, ct, rfl, hS, hT, hbs⟩; skip))
      have hb0 : Below w.heap.size w ws := by
        repeat (first | exact Below.refl _ _ | assumption | (apply below_last; assumption) | apply below_new | apply below_drew)
      have hX1 : Rd ws X n x := ((hX.rd.step hby).step hbq).step hbs
      have hY1 : Rd ws Y m y := (hY.rd.step hbq).step hbs
      go_loopw [13] (fun i u => ∃ r : Nat, r ≤ 2 ∧ i = .int .i64 r ∧ Below w.heap.size w u ∧ Rd u X n x ∧ Rd u Y m y ∧ Rd u Q n (x / y) ∧ Rd u R n (x % y) ∧ Rd u S n (sq n x m y) ∧ Rd u T n (sr n x m y)) (fun i _ => 2 - (intOf i).toNat)
      case atStart => exact ⟨0, by decide, rfl, hb0, hX1, hY1, (hQ.step hbs).rd, (hR.step hbs).rd, hS.rd, hT.rd⟩
      case round =>
        obtain ⟨r, hr, rfl, hB, hXr, hYr, hQr, hRr, hSr, hTr⟩ := hrel
        have ha := h.step hB
        have hb := h'.step hB
        clear hb0 hX1 hY1 hX hY hbx hby hbq hbs h h' hQ hR hS hT
        by_cases g1 : r < 2
        · have d1 : decide ((r : Int) < 2) = true := by simp; omega
          go_wp2_with (first | (go_at_call 32; apply Calls.mono; (with_reducible apply divmod_any); (repeat (first | assumption | exact Rd.nil _ | exact rd_zero _ _ | exact rd_true _ | (apply Nw.rd; assumption) | (apply Rd.at_later; assumption) | apply Rd.alloc | omega)); rintro e w1 ⟨A1, c1, A2, c2, rfl, hv1, hv2, hb1⟩; have z1 := hb1.size) | (go_at_call 33; apply Calls.mono; (with_reducible apply sdivmod_any); (repeat (first | assumption | exact Rd.nil _ | exact rd_zero _ _ | exact rd_true _ | (apply Nw.rd; assumption) | (apply Rd.at_later; assumption) | apply Rd.alloc | omega)); rintro e w2 ⟨A3, c3, A4, c4, rfl, hv3, hv4, hb2⟩; replace hv3 := hv3.mono z1; replace hv4 := hv4.mono z1) | (go_at_call 20; apply Calls.mono; (with_reducible apply same_t); (repeat (first | assumption | exact Rd.nil _ | exact rd_zero _ _ | exact rd_true _ | (apply Nw.rd; assumption) | (apply Rd.at_later; assumption) | apply Rd.alloc | omega)); (first | (rintro e wn ⟨rfl, hb⟩) | ((rfl); (rintro e wn ⟨rfl, hb⟩)) | (rfl; rintro e wn ⟨rfl, hb⟩) | (rfl; (rfl); rintro e wn ⟨rfl, hb⟩))) | (go_at_call 25; apply Calls.mono; (with_reducible apply spoil_any wr); apply spo4; (repeat (first | assumption | exact Below.refl _ _ | exact Nw.nil _ _ | (apply Nw.at_later; assumption) | (apply below_last; assumption) | omega)); rintro e wn ⟨rfl, hb⟩))
          go_roundw
          case rel => exact ⟨r + 1, by omega, by go_num, below_step hB hb, hXr.step hb, hYr.step hb, hQr.step hb, hRr.step hb, hSr.step hb, hTr.step hb⟩
          case measure => simp [intOf]; omega
        · obtain rfl : r = 2 := by omega
          go_wp2_with (first | (go_at_call 14; apply Calls.mono; (with_reducible apply awake_any); rintro e wn ⟨rfl, hb⟩) | (go_at_call 20; apply Calls.mono; (with_reducible apply same_t); (repeat (first | assumption | exact Rd.nil _ | exact rd_zero _ _ | exact rd_true _ | (apply Nw.rd; assumption) | (apply Rd.at_later; assumption) | apply Rd.alloc | omega)); (first | (rintro e wn ⟨rfl, hb⟩) | ((rfl); (rintro e wn ⟨rfl, hb⟩)) | (rfl; rintro e wn ⟨rfl, hb⟩) | (rfl; (rfl); rintro e wn ⟨rfl, hb⟩))))
          go_ret
          refine ⟨rfl, ?_⟩
          repeat (first | exact Below.refl _ _ | assumption | (apply below_last; assumption) | apply below_new | apply below_drew)
end Go.Proofs.Ytaedfoblniadfaa
