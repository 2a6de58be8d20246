/-
  Walks of BvPowMatches and BvPowers: the call returns true and changes no argument. No conditions.
-/
import Derived.Test.YtaedfoblniadfaaBvU
namespace Go.Proofs.Ytaedfoblniadfaa
open Go Go.RowKit

set_option maxRecDepth 100000 in
set_option maxHeartbeats 4000000 in
theorem walk_BvPowMatches (A : Option Addr) (n c x : Nat) (B : Option Addr) (m d y : Nat) (w : World) (ha : Arg w A n c x) (hb' : Arg w B m d y) :
    Calls Try.prog 6 #[.slice A n c, .slice B m d] w fun e w' => e = .returned (.bool true) ∧ Below w.heap.size w w' := by
  obtain ⟨hc, hcm, h⟩ := ha
  obtain ⟨hd, hdm, h'⟩ := hb'
  unfold maxLen at hcm hdm
  by_cases g1 : n ≤ 40
  · have d1 : decide ((40 : Int) < n) = false := by simp; omega
    by_cases g2 : m ≤ 40
    · have d2 : decide ((40 : Int) < m) = false := by simp; omega
      go_enter Try.func6, Try.ntmps6
      go_wp2_with (first | (go_at_call 46; apply Calls.mono; (with_reducible apply pow_any); (repeat (first | assumption | exact Rd.nil _ | (apply Nw.rd; assumption) | (apply Rd.at_later; assumption) | apply Rd.alloc | omega)); rintro e wn ⟨A, c, rfl, hv, hb⟩) | (go_at_call 47; apply Calls.mono; (with_reducible apply rPow_any); (repeat (first | assumption | exact Rd.nil _ | (apply Nw.rd; assumption) | (apply Rd.at_later; assumption) | apply Rd.alloc | omega)); rintro e wn ⟨A, c, rfl, hv, hb⟩) | (go_at_call 14; apply Calls.mono; (with_reducible apply awake_any); rintro e wn ⟨rfl, hb⟩) | (go_at_call 20; apply Calls.mono; (with_reducible apply same_t); (repeat (first | assumption | exact Rd.nil _ | (apply Nw.rd; assumption) | (apply Rd.at_later; assumption) | apply Rd.alloc | omega)); (first | (rintro e wn ⟨rfl, hb⟩) | ((rfl); (rintro e wn ⟨rfl, hb⟩)) | (rfl; rintro e wn ⟨rfl, hb⟩) | (rfl; (rfl); rintro e wn ⟨rfl, hb⟩))))
      go_ret
      refine ⟨rfl, ?_⟩
      repeat (first | exact Below.refl _ _ | assumption | (apply below_last; assumption) | apply below_new | apply below_drew)
    · have d2 : decide ((40 : Int) < m) = true := by simp; omega
      go_enter Try.func6, Try.ntmps6
      go_wp2_with (go_at_call 14; apply Calls.mono; (with_reducible apply awake_any); rintro e wn ⟨rfl, hb⟩)
      go_ret
      exact ⟨rfl, hb⟩
  · have d1 : decide ((40 : Int) < n) = true := by simp; omega
    go_enter Try.func6, Try.ntmps6
    go_wp2_with (go_at_call 14; apply Calls.mono; (with_reducible apply awake_any); rintro e wn ⟨rfl, hb⟩)
    go_ret
    exact ⟨rfl, hb⟩
end Go.Proofs.Ytaedfoblniadfaa
