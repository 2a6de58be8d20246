/-
  Walk of BvMatches: the call returns true and changes no argument. No conditions.
-/
import Derived.Test.YtaedfoblniadfaaBvZ
namespace Go.Proofs.Ytaedfoblniadfaa
open Go Go.RowKit

theorem spo4 {W w : World} {A1 A2 A3 A4 : Option Addr} {n1 n2 n3 n4 c1 c2 c3 c4 x1 x2 x3 x4 : Nat} (hb : Below W.heap.size W w) (h1 : Nw w W.heap.size A1 n1 c1 x1) (h2 : Nw w W.heap.size A2 n2 c2 x2) (h3 : Nw w W.heap.size A3 n3 c3 x3) (h4 : Nw w W.heap.size A4 n4 c4 x4)
    (l1 : n1 ≤ 10000) (l2 : n2 ≤ 10000) (l3 : n3 ≤ 10000) (l4 : n4 ≤ 10000) :
    Spo W (w.alloc (.cells #[.slice A1 n1 c1, .slice A2 n2 c2, .slice A3 n3 c3, .slice A4 n4 c4] 22)) w.heap.size #[.slice A1 n1 c1, .slice A2 n2 c2, .slice A3 n3 c3, .slice A4 n4 c4] 4 :=
  ⟨below_new hb _, Own.new _ _ _, fun i hi => by
    rcases (show i = 0 ∨ i = 1 ∨ i = 2 ∨ i = 3 by omega) with rfl | rfl | rfl | rfl
    · exact ⟨_, _, _, _, rfl, l1, h1.alloc _⟩
    · exact ⟨_, _, _, _, rfl, l2, h2.alloc _⟩
    · exact ⟨_, _, _, _, rfl, l3, h3.alloc _⟩
    · exact ⟨_, _, _, _, rfl, l4, h4.alloc _⟩⟩
set_option maxRecDepth 100000 in
set_option maxHeartbeats 8000000 in
theorem walk_BvMatches (A : Option Addr) (n c x : Nat) (B : Option Addr) (m d y : Nat) (w : World) (ha : Arg w A n c x) (hb' : Arg w B m d y) :
    Calls Try.prog 3 #[.slice A n c, .slice B m d] w fun en w' => en = .returned (.bool true) ∧ Below w.heap.size w w' := by
  obtain ⟨hc, hcm, h⟩ := ha
  obtain ⟨hd, hdm, h'⟩ := hb'
  unfold maxLen at hcm hdm
  by_cases g : 140 < n ∨ 140 < m
  · have hlong := Lib.hid (fun W => long2 A B n c m d W true ⟨fun _ => g, fun _ => rfl⟩)
    clear g
    go_enter Try.func3, Try.ntmps3
    go_wp2_with (first | (go_at_call 14; apply Calls.mono; (with_reducible apply awake_any); rintro e wn ⟨rfl, hb⟩) | (go_at_call 13; apply Calls.mono; (with_reducible exact hlong.out _); rintro e wn ⟨rfl, rfl⟩))
    go_ret
    refine ⟨rfl, ?_⟩
    repeat (first | exact Below.refl _ _ | assumption | (apply below_last; assumption) | apply below_new | apply below_drew)
  · have hlong := Lib.hid (fun W => long2 A B n c m d W false ⟨fun h => absurd h (by decide), fun h => absurd h g⟩)
    have gn : n ≤ 140 := by omega
    have gm : m ≤ 140 := by omega
    clear g
    go_enter Try.func3, Try.ntmps3
    go_wp2_with (first | (go_at_call 13; apply Calls.mono; (with_reducible exact hlong.out _); rintro e wn ⟨rfl, rfl⟩) | (go_at_call 15; (first | (apply Calls.mono; (with_reducible apply own_any A n c x); (repeat (first | assumption | exact Rd.nil _ | exact rd_zero _ _ | exact rd_true _ | (apply Nw.rd; assumption) | (apply Rd.at_later; assumption) | apply Rd.alloc | omega)); rintro e wx ⟨X, cx, rfl, hX, hbx⟩) | (apply Calls.mono; (with_reducible apply own_any B m d y); (repeat (first | assumption | exact Rd.nil _ | exact rd_zero _ _ | exact rd_true _ | (apply Nw.rd; assumption) | (apply Rd.at_later; assumption) | apply Rd.alloc | omega)); rintro e wy ⟨Y, cy, rfl, hY, hby⟩))))
    have hbs : Below w.heap.size w wy := by
      repeat (first | exact Below.refl _ _ | assumption | (apply below_last; assumption) | apply below_new | apply below_drew)
    have hX1 := (hX.mono (show w.heap.size ≤ _ from by simp)).step hby
    have hY1 := hY.mono hbx.size
    go_loopw [7] (fun i u => ∃ r : Nat, r ≤ 2 ∧ i = .int .i64 r ∧ Below w.heap.size w u ∧ (∃ B0, Nw u B0 X n cx x) ∧ ∃ B0, Nw u B0 Y m cy y) (fun i _ => 2 - (intOf i).toNat)
    case atStart => exact ⟨0, by decide, rfl, hbs, ⟨_, hX1⟩, _, hY1⟩
    case round =>
      obtain ⟨r, hr, rfl, hB, ⟨B1, hXr⟩, B2, hYr⟩ := hrel
      have ha := h.step hB
      have hb := h'.step hB
      clear hbs hX1 hY1 hX hY hbx hby h h'
      by_cases g1 : r < 2
      · have d1 : decide ((r : Int) < 2) = true := by simp; omega
        go_wp2_with (first | (go_at_call 16; apply Calls.mono; (with_reducible apply add_any); (repeat (first | assumption | exact Rd.nil _ | exact rd_zero _ _ | exact rd_true _ | (apply Nw.rd; assumption) | (apply Rd.at_later; assumption) | apply Rd.alloc | omega)); rintro e w1 ⟨A1, c1, rfl, hv1, hb1⟩; have z1 := hb1.size) | (go_at_call 17; apply Calls.mono; (with_reducible apply sub_any); (repeat (first | assumption | exact Rd.nil _ | exact rd_zero _ _ | exact rd_true _ | (apply Nw.rd; assumption) | (apply Rd.at_later; assumption) | apply Rd.alloc | omega)); rintro e w2 ⟨A2, c2, rfl, hv2, hb2⟩; replace hv2 := hv2.mono z1; have z2 := Nat.le_trans z1 hb2.size) | (go_at_call 18; apply Calls.mono; (with_reducible apply neg_any); (repeat (first | assumption | exact Rd.nil _ | exact rd_zero _ _ | exact rd_true _ | (apply Nw.rd; assumption) | (apply Rd.at_later; assumption) | apply Rd.alloc | omega)); rintro e w3 ⟨A3, c3, rfl, hv3, hb3⟩; replace hv3 := hv3.mono z2; have z3 := Nat.le_trans z2 hb3.size) | (go_at_call 19; apply Calls.mono; (with_reducible apply mul_any); (repeat (first | assumption | exact Rd.nil _ | exact rd_zero _ _ | exact rd_true _ | (apply Nw.rd; assumption) | (apply Rd.at_later; assumption) | apply Rd.alloc | omega)); rintro e w4 ⟨A4, c4, rfl, hv4, hb4⟩; replace hv4 := hv4.mono z3; have z4 := Nat.le_trans z3 hb4.size) | (go_at_call 21; apply Calls.mono; (with_reducible apply rAdd_any); (repeat (first | assumption | exact Rd.nil _ | exact rd_zero _ _ | exact rd_true _ | (apply Nw.rd; assumption) | (apply Rd.at_later; assumption) | apply Rd.alloc | omega)); rintro e wn ⟨A, c, rfl, hv, hb⟩) | (go_at_call 22; apply Calls.mono; (with_reducible apply rSub_any); (repeat (first | assumption | exact Rd.nil _ | exact rd_zero _ _ | exact rd_true _ | (apply Nw.rd; assumption) | (apply Rd.at_later; assumption) | apply Rd.alloc | omega)); rintro e wn ⟨A, c, rfl, hv, hb⟩) | (go_at_call 23; apply Calls.mono; (with_reducible apply rNeg_any); (repeat (first | assumption | exact Rd.nil _ | exact rd_zero _ _ | exact rd_true _ | (apply Nw.rd; assumption) | (apply Rd.at_later; assumption) | apply Rd.alloc | omega)); rintro e wn ⟨A, c, rfl, hv, hb⟩) | (go_at_call 24; apply Calls.mono; (with_reducible apply rMul_any); (repeat (first | assumption | exact Rd.nil _ | exact rd_zero _ _ | exact rd_true _ | (apply Nw.rd; assumption) | (apply Rd.at_later; assumption) | apply Rd.alloc | omega)); rintro e wn ⟨A, c, rfl, hv, hb⟩) | (go_at_call 20; apply Calls.mono; (with_reducible apply same_t); (repeat (first | assumption | exact Rd.nil _ | exact rd_zero _ _ | exact rd_true _ | (apply Nw.rd; assumption) | (apply Rd.at_later; assumption) | apply Rd.alloc | omega)); (first | (rintro e wn ⟨rfl, hb⟩) | ((rfl); (rintro e wn ⟨rfl, hb⟩)) | (rfl; rintro e wn ⟨rfl, hb⟩) | (rfl; (rfl); rintro e wn ⟨rfl, hb⟩))) | (go_at_call 25; apply Calls.mono; (with_reducible apply spoil_any wr); apply spo4; (repeat (first | assumption | exact Below.refl _ _ | exact Nw.nil _ _ | (apply Nw.at_later; assumption) | (apply below_last; assumption) | omega)); rintro e wn ⟨rfl, hb⟩))
        go_roundw
        case rel => exact ⟨r + 1, by omega, by go_num, below_step hB hb, ⟨_, hXr.step hb⟩, _, hYr.step hb⟩
        case measure => simp [intOf]; omega
      · obtain rfl : r = 2 := by omega
        go_wp2_with (first | (go_at_call 14; apply Calls.mono; (with_reducible apply awake_any); rintro e wn ⟨rfl, hb⟩) | (go_at_call 26; apply Calls.mono; (with_reducible apply cmp_any); (repeat (first | assumption | exact Rd.nil _ | exact rd_zero _ _ | exact rd_true _ | (apply Nw.rd; assumption) | (apply Rd.at_later; assumption) | apply Rd.alloc | omega)); rintro e wn ⟨rfl, rfl⟩) | (go_at_call 27; apply Calls.mono; (with_reducible apply rCmp_any); (repeat (first | assumption | exact Rd.nil _ | exact rd_zero _ _ | exact rd_true _ | (apply Nw.rd; assumption) | (apply Rd.at_later; assumption) | apply Rd.alloc | omega)); rintro e wn ⟨rfl, hb⟩) | (go_at_call 28; apply Calls.mono; (with_reducible apply scmp_any); (repeat (first | assumption | exact Rd.nil _ | exact rd_zero _ _ | exact rd_true _ | (apply Nw.rd; assumption) | (apply Rd.at_later; assumption) | apply Rd.alloc | omega)); rintro e wn ⟨rfl, rfl⟩) | (go_at_call 29; apply Calls.mono; (with_reducible apply rSCmp_any); (repeat (first | assumption | exact Rd.nil _ | exact rd_zero _ _ | exact rd_true _ | (apply Nw.rd; assumption) | (apply Rd.at_later; assumption) | apply Rd.alloc | omega)); rintro e wn ⟨rfl, hb⟩) | (go_at_call 20; apply Calls.mono; (with_reducible apply same_t); (repeat (first | assumption | exact Rd.nil _ | exact rd_zero _ _ | exact rd_true _ | (apply Nw.rd; assumption) | (apply Rd.at_later; assumption) | apply Rd.alloc | omega)); (first | (rintro e wn ⟨rfl, hb⟩) | ((rfl); (rintro e wn ⟨rfl, hb⟩)) | (rfl; rintro e wn ⟨rfl, hb⟩) | (rfl; (rfl); rintro e wn ⟨rfl, hb⟩))))
        go_ret
        refine ⟨rfl, ?_⟩
        repeat (first | exact Below.refl _ _ | assumption | (apply below_last; assumption) | apply below_new | apply below_drew)
end Go.Proofs.Ytaedfoblniadfaa
