/-
  Walk of BvRing: the call returns true and changes no argument. No conditions.
-/
import Derived.Test.YtaedfoblniadfaaBvY
namespace Go.Proofs.Ytaedfoblniadfaa
open Go Go.RowKit

set_option maxRecDepth 100000 in
set_option maxHeartbeats 8000000 in
theorem walk_BvRing (A : Option Addr) (n c x : Nat) (B : Option Addr) (m d y : Nat) (C : Option Addr) (l e z : Nat) (w : World) (ha : Arg w A n c x) (hb' : Arg w B m d y) (hc' : Arg w C l e z) :
    Calls Try.prog 8 #[.slice A n c, .slice B m d, .slice C l e] w fun en w' => en = .returned (.bool true) ∧ Below w.heap.size w w' := by
  obtain ⟨hc, hcm, h⟩ := ha
  obtain ⟨hd, hdm, h'⟩ := hb'
  obtain ⟨he, hem, h''⟩ := hc'
  unfold maxLen at hcm hdm hem
  by_cases g : 140 < n ∨ 140 < m ∨ 140 < l
  · have hlong := Lib.hid (fun W => long3 A B C n c m d l e W true ⟨fun _ => g, fun _ => rfl⟩)
    clear g
    go_enter Try.func8, Try.ntmps8
    go_wp2_with (first | (go_at_call 14; apply Calls.mono; (with_reducible apply awake_any); rintro e wn ⟨rfl, hb⟩) | (go_at_call 13; apply Calls.mono; (with_reducible exact hlong.out _); rintro e wn ⟨rfl, rfl⟩))
    go_ret
    refine ⟨rfl, ?_⟩
    repeat (first | exact Below.refl _ _ | assumption | (apply below_last; assumption) | apply below_new | apply below_drew)
  · have hlong := Lib.hid (fun W => long3 A B C n c m d l e W false ⟨fun h => absurd h (by decide), fun h => absurd h g⟩)
    have hx := h.1
    have hmk := fun W => run_makeB n (by omega) W
    by_cases g1 : n ≤ 70
    · have d1 : decide ((70 : Int) < n) = false := by simp; omega
      have gm : m ≤ 140 := by omega
      have gl : l ≤ 140 := by omega
      clear g
      go_enter Try.func8, Try.ntmps8
      go_wp2_with (first | (go_at_call 14; apply Calls.mono; (with_reducible apply awake_any); rintro e wn ⟨rfl, hb⟩) | (go_at_call 13; apply Calls.mono; (with_reducible exact hlong.out _); rintro e wn ⟨rfl, rfl⟩) | (go_at_call 49; apply Calls.mono; (with_reducible apply equal_any); (repeat (first | assumption | exact Rd.nil _ | exact rd_zero _ _ | exact rd_true _ | (apply Nw.rd; assumption) | (apply Rd.at_later; assumption) | apply Rd.alloc | omega)); rintro e wn ⟨A1, c1, A2, c2, rfl, hv1, hv2, hb⟩) | (go_at_call 16; apply Calls.mono; (with_reducible apply add_any); (repeat (first | assumption | exact Rd.nil _ | exact rd_zero _ _ | exact rd_true _ | (apply Nw.rd; assumption) | (apply Rd.at_later; assumption) | apply Rd.alloc | omega)); rintro e wn ⟨A, c, rfl, hv, hb⟩) | (go_at_call 17; apply Calls.mono; (with_reducible apply sub_any); (repeat (first | assumption | exact Rd.nil _ | exact rd_zero _ _ | exact rd_true _ | (apply Nw.rd; assumption) | (apply Rd.at_later; assumption) | apply Rd.alloc | omega)); rintro e wn ⟨A, c, rfl, hv, hb⟩) | (go_at_call 19; apply Calls.mono; (with_reducible apply mul_any); (repeat (first | assumption | exact Rd.nil _ | exact rd_zero _ _ | exact rd_true _ | (apply Nw.rd; assumption) | (apply Rd.at_later; assumption) | apply Rd.alloc | omega)); rintro e wn ⟨A, c, rfl, hv, hb⟩) | (go_at_call 18; apply Calls.mono; (with_reducible apply neg_any); (repeat (first | assumption | exact Rd.nil _ | exact rd_zero _ _ | exact rd_true _ | (apply Nw.rd; assumption) | (apply Rd.at_later; assumption) | apply Rd.alloc | omega)); rintro e wn ⟨A, c, rfl, hv, hb⟩) | (go_at_call 48; apply Calls.mono; (with_reducible apply of1); rintro e wn ⟨A, c, rfl, hv, hb⟩) | (go_at_call 48; apply Calls.mono; (with_reducible apply of_any); omega; rintro e wn ⟨A, c, rfl, hv, hb⟩) | (go_at_call 20; apply Calls.mono; (with_reducible apply same_t); (repeat (first | assumption | exact Rd.nil _ | exact rd_zero _ _ | exact rd_true _ | (apply Nw.rd; assumption) | (apply Rd.at_later; assumption) | apply Rd.alloc | omega)); (first | (rintro e wn ⟨rfl, hb⟩) | ((first | rfl | (with_reducible exact ring1) | (with_reducible exact ring2) | (with_reducible exact ring3) | (with_reducible exact ring4) | (with_reducible exact ring5) | (with_reducible exact ring6) | (with_reducible exact ring7 hx) | (with_reducible exact ring8 hx) | (with_reducible exact ring9 hx) | (exact ring9' hx (by omega))); (rintro e wn ⟨rfl, hb⟩)) | (rfl; rintro e wn ⟨rfl, hb⟩) | (rfl; (first | rfl | (with_reducible exact ring1) | (with_reducible exact ring2) | (with_reducible exact ring3) | (with_reducible exact ring4) | (with_reducible exact ring5) | (with_reducible exact ring6) | (with_reducible exact ring7 hx) | (with_reducible exact ring8 hx) | (with_reducible exact ring9 hx) | (exact ring9' hx (by omega))); rintro e wn ⟨rfl, hb⟩))))
      all_goals
        go_ret
        refine ⟨rfl, ?_⟩
        repeat (first | exact Below.refl _ _ | assumption | (apply below_last; assumption) | apply below_new | apply below_drew)
    · have d1 : decide ((70 : Int) < n) = true := by simp; omega
      clear g
      go_enter Try.func8, Try.ntmps8
      go_wp2_with (first | (go_at_call 14; apply Calls.mono; (with_reducible apply awake_any); rintro e wn ⟨rfl, hb⟩) | (go_at_call 13; apply Calls.mono; (with_reducible exact hlong.out _); rintro e wn ⟨rfl, rfl⟩))
      go_ret
      refine ⟨rfl, ?_⟩
      repeat (first | exact Below.refl _ _ | assumption | (apply below_last; assumption) | apply below_new | apply below_drew)
end Go.Proofs.Ytaedfoblniadfaa
