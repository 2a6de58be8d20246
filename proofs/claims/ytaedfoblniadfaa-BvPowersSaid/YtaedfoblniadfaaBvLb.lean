/-
  Walks of BvPowMatches and BvPowers: the call returns true and changes no argument. No conditions.
-/
import Derived.Test.YtaedfoblniadfaaBvU
namespace Go.Proofs.Ytaedfoblniadfaa
open Go Go.RowKit

set_option maxRecDepth 100000 in
set_option maxHeartbeats 4000000 in
theorem walk_BvPowers (A : Option Addr) (n c x : Nat) (a b : Int) (w : World) (ha : Arg w A n c x) (w1 : 0 ≤ a ∧ a ≤ 255) (w2 : 0 ≤ b ∧ b ≤ 255) :
    Calls Try.prog 12 #[.slice A n c, .int .u8 a, .int .u8 b] w fun e w' => e = .returned (.bool true) ∧ Below w.heap.size w w' := by
  obtain ⟨hc, hcm, h⟩ := ha
  obtain ⟨a0, a1⟩ := w1
  obtain ⟨b0, b1⟩ := w2
  unfold maxLen at hcm
  by_cases g1 : n ≤ 40
  · have d1 : decide ((40 : Int) < n) = false := by simp; omega
    have e1 := Lib.hid (pow_sum x n a b ⟨a0, a1⟩ ⟨b0, b1⟩)
    have e2 := Lib.hid (pow_one' h.1)
    go_enter Try.func12, Try.ntmps12
    go_wp2_with (first | (go_at_call 14; apply Calls.mono; (with_reducible apply awake_any); rintro e wn ⟨rfl, hb⟩) | (go_at_call 48; apply Calls.mono; (with_reducible apply of8); rintro e wn ⟨A, c, rfl, hv, hb⟩) | (go_at_call 48; apply Calls.mono; (with_reducible apply of9); rintro e wn ⟨A, c, rfl, hv, hb⟩) | (go_at_call 48; apply Calls.mono; (with_reducible apply of3); rintro e wn ⟨A, c, rfl, hv, hb⟩) | (go_at_call 50; apply Calls.mono; (with_reducible apply rFit_any); exact rd_true _; omega; omega; rintro e wn ⟨A, c, rfl, hv, hb⟩) | (go_at_call 46; apply Calls.mono; (with_reducible apply pow_any); (repeat (first | assumption | exact Rd.nil _ | (apply Nw.rd; assumption) | (apply Rd.at_later; assumption) | apply Rd.alloc | omega)); rintro e wn ⟨A, c, rfl, hv, hb⟩) | (go_at_call 19; apply Calls.mono; (with_reducible apply mul_any); (repeat (first | assumption | exact Rd.nil _ | (apply Nw.rd; assumption) | (apply Rd.at_later; assumption) | apply Rd.alloc | omega)); rintro e wn ⟨A, c, rfl, hv, hb⟩) | (go_at_call 20; apply Calls.mono; (with_reducible apply same_t); (repeat (first | assumption | exact Rd.nil _ | (apply Nw.rd; assumption) | (apply Rd.at_later; assumption) | apply Rd.alloc | omega)); (first | (rintro e wn ⟨rfl, hb⟩) | ((first | rfl | exact e1.out | exact e2.out); (rintro e wn ⟨rfl, hb⟩)) | (rfl; rintro e wn ⟨rfl, hb⟩) | (rfl; (first | rfl | exact e1.out | exact e2.out); rintro e wn ⟨rfl, hb⟩))))
    go_ret
    refine ⟨rfl, ?_⟩
    repeat (first | exact Below.refl _ _ | assumption | (apply below_last; assumption) | apply below_new | apply below_drew)
  · have d1 : decide ((40 : Int) < n) = true := by simp; omega
    go_enter Try.func12, Try.ntmps12
    go_wp2_with (go_at_call 14; apply Calls.mono; (with_reducible apply awake_any); rintro e wn ⟨rfl, hb⟩)
    go_ret
    exact ⟨rfl, hb⟩
end Go.Proofs.Ytaedfoblniadfaa
