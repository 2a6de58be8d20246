/-
  'awake': the chapter's examples hold. No conditions.
-/
import Derived.Test.YtaedfoblniadfaaBvP
namespace Go.Proofs.Ytaedfoblniadfaa
open Go Go.RowKit

theorem of4 (z : Int) (w : World) : Calls Try.prog 48 #[.int .i64 z, .int .i64 4] w (RetN w 4 (fi z 4)) := of_any z 4 w (by decide)
set_option maxRecDepth 100000 in
set_option maxHeartbeats 4000000 in
theorem awake_any (w : World) : Calls Try.prog 14 #[] w fun e w' => e = .returned (.bool true) ∧ Below w.heap.size w w' := by
  go_enter Try.func14, Try.ntmps14
  have hb := Below.refl w.heap.size w
  clear hb
  go_wp2_with (first | (go_at_call 48; apply Calls.mono; (with_reducible apply of4); rintro e wn ⟨A, c, rfl, hv, hb⟩) | (go_at_call 16; apply Calls.mono; (with_reducible apply add_any); (repeat (first | assumption | exact Rd.nil _ | (apply Nw.rd; assumption) | (apply Rd.at_later; assumption) | apply Rd.alloc | omega)); rintro e wn ⟨A, c, rfl, hv, hb⟩) | (go_at_call 17; apply Calls.mono; (with_reducible apply sub_any); (repeat (first | assumption | exact Rd.nil _ | (apply Nw.rd; assumption) | (apply Rd.at_later; assumption) | apply Rd.alloc | omega)); rintro e wn ⟨A, c, rfl, hv, hb⟩) | (go_at_call 19; apply Calls.mono; (with_reducible apply mul_any); (repeat (first | assumption | exact Rd.nil _ | (apply Nw.rd; assumption) | (apply Rd.at_later; assumption) | apply Rd.alloc | omega)); rintro e wn ⟨A, c, rfl, hv, hb⟩) | (go_at_call 46; apply Calls.mono; (with_reducible apply pow_any); (repeat (first | assumption | exact Rd.nil _ | (apply Nw.rd; assumption) | (apply Rd.at_later; assumption) | apply Rd.alloc | omega)); rintro e wn ⟨A, c, rfl, hv, hb⟩) | (go_at_call 32; apply Calls.mono; (with_reducible apply divmod_any); (repeat (first | assumption | exact Rd.nil _ | (apply Nw.rd; assumption) | (apply Rd.at_later; assumption) | apply Rd.alloc | omega)); (first | rintro e wn ⟨A, c, A2, c2, rfl, hv, hv2, hb⟩ | ((decide +kernel); rintro e wn ⟨A, c, A2, c2, rfl, hv, hv2, hb⟩))) | (go_at_call 33; apply Calls.mono; (with_reducible apply sdivmod_any); (repeat (first | assumption | exact Rd.nil _ | (apply Nw.rd; assumption) | (apply Rd.at_later; assumption) | apply Rd.alloc | omega)); (first | rintro e wn ⟨A, c, A2, c2, rfl, hv, hv2, hb⟩ | ((decide +kernel); rintro e wn ⟨A, c, A2, c2, rfl, hv, hv2, hb⟩))) | (go_at_call 37; apply Calls.mono; (with_reducible apply sar_any); (repeat (first | assumption | exact Rd.nil _ | (apply Nw.rd; assumption) | (apply Rd.at_later; assumption) | apply Rd.alloc | omega)); rintro e wn ⟨A, c, rfl, hv, hb⟩) | (go_at_call 20; apply Calls.mono; (with_reducible apply same_t); (repeat (first | assumption | exact Rd.nil _ | (apply Nw.rd; assumption) | (apply Rd.at_later; assumption) | apply Rd.alloc | omega)); (first | (rintro e wn ⟨rfl, hb⟩) | ((decide +kernel); (rintro e wn ⟨rfl, hb⟩)) | (rfl; rintro e wn ⟨rfl, hb⟩) | (rfl; (decide +kernel); rintro e wn ⟨rfl, hb⟩))))
  go_ret
  refine ⟨rfl, ?_⟩
  repeat (first | exact Below.refl _ _ | assumption | (apply below_last; assumption))
end Go.Proofs.Ytaedfoblniadfaa
