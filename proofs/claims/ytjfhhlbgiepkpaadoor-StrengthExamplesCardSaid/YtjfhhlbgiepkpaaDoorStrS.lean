/-
  The walk of the statement 'StrengthExamples' over the seat's translation. Conditions: the two tables read as the program lays them ('Tb').
-/
import Derived.Test.YtjfhhlbgiepkpaaDoorStrQ
import Derived.Test.YtjfhhlbgiepkpaaDoorStrJ
namespace Go.Proofs.YtjfhhlbgiepkpaaDoor
open Go Go.RowKit
attribute [local go_sem ↓] eql_p eql_r neq_p neq_r

theorem enter_valid (args : Array Value) (u : World) : (callFunc 20 args).run Tryd.prog u = .ok (.enter 20 args) u := by
  simp [callFunc, Tryd.func20, run_program]
  rfl
theorem enter_read (args : Array Value) (u : World) : (callFunc 21 args).run Tryd.prog u = .ok (.enter 21 args) u := by
  simp [callFunc, Tryd.func21, run_program]
  rfl
theorem enter_contains (args : Array Value) (u : World) : (callFunc 23 args).run Tryd.prog u = .ok (.enter 23 args) u := by
  simp [callFunc, Tryd.func23, run_program]
  rfl
theorem enter_drive (args : Array Value) (u : World) : (callFunc 25 args).run Tryd.prog u = .ok (.enter 25 args) u := by
  simp [callFunc, Tryd.func25, run_program]
  rfl
/-- The names as the loop joins them. -/
def acc : Nat → ByteArray
  | 0 => ⟨#[]⟩
  | k + 1 => acc k ++ nameB k false ++ ⟨#[32]⟩ ++ nameB k true ++ ⟨#[32]⟩
theorem stem_size (n : Nat) : (stemB n).size ≤ 6 := by
  unfold stemB
  split <;> decide
theorem name_size (s : Int) (b : Bool) : (nameB s b).size ≤ 7 := by
  have h := stem_size s.toNat
  unfold nameB
  rw [ByteArray.size_append']
  cases b
  all_goals
    show _ + 1 ≤ 7
    omega
theorem acc_size (k : Nat) : (acc k).size ≤ 16 * k := by
  induction k with
  | zero => decide
  | succ k ih =>
    unfold acc
    rw [ByteArray.size_append', ByteArray.size_append', ByteArray.size_append', ByteArray.size_append']
    have h0 := name_size k false
    have h1 := name_size k true
    have h2 : (ByteArray.mk #[32]).size = 1 := rfl
    omega
def exAll : ByteArray := ⟨#[104, 105, 103, 104, 122, 48, 32, 104, 105, 103, 104, 122, 49, 32, 115, 109, 97, 108, 108, 48, 32, 115, 109, 97, 108, 108, 49, 32, 109, 101, 100, 105, 117, 109, 48, 32, 109, 101, 100, 105, 117, 109, 49, 32, 119, 101, 97, 107, 48, 32, 119, 101, 97, 107, 49, 32, 108, 97, 114, 103, 101, 48, 32, 108, 97, 114, 103, 101, 49, 32, 112, 117, 108, 108, 48, 32, 112, 117, 108, 108, 49, 32, 115, 116, 114, 111, 110, 103, 48, 32, 115, 116, 114, 111, 110, 103, 49, 32, 115, 117, 112, 112, 108, 121, 48, 32, 115, 117, 112, 112, 108, 121, 49, 32, 115, 117, 112, 112, 108, 121, 48, 32, 115, 117, 112, 112, 108, 121, 49, 32]⟩
theorem acc9 : acc 9 = exAll := by kernel_rfl
theorem parse_pull (w : World) [T : Tb w] : Calls Tryd.prog 29 #[.string ⟨#[112, 117, 108, 108]⟩] w fun e w' => e = .returned (.tuple #[.int .u8 0, .bool false, .bool false]) ∧ Below w.heap.size w w' :=
  (parse_any _ w).mono fun _ _ ⟨he, m, hm⟩ => ⟨he.trans (congrArg Ending.returned (show tup (pf _ 8) = _ by kernel_rfl)), hm ▸ below_drewN (Below.refl _ _) m⟩
theorem parse_Pull1 (w : World) [T : Tb w] : Calls Tryd.prog 29 #[.string ⟨#[80, 117, 108, 108, 49]⟩] w fun e w' => e = .returned (.tuple #[.int .u8 0, .bool false, .bool false]) ∧ Below w.heap.size w w' :=
  (parse_any _ w).mono fun _ _ ⟨he, m, hm⟩ => ⟨he.trans (congrArg Ending.returned (show tup (pf _ 8) = _ by kernel_rfl)), hm ▸ below_drewN (Below.refl _ _) m⟩
theorem parse_pull2 (w : World) [T : Tb w] : Calls Tryd.prog 29 #[.string ⟨#[112, 117, 108, 108, 50]⟩] w fun e w' => e = .returned (.tuple #[.int .u8 0, .bool false, .bool false]) ∧ Below w.heap.size w w' :=
  (parse_any _ w).mono fun _ _ ⟨he, m, hm⟩ => ⟨he.trans (congrArg Ending.returned (show tup (pf _ 8) = _ by kernel_rfl)), hm ▸ below_drewN (Below.refl _ _) m⟩
theorem parse_supply1 (w : World) [T : Tb w] : Calls Tryd.prog 29 #[.string ⟨#[115, 117, 112, 112, 108, 121, 49]⟩] w fun e w' => e = .returned (.tuple #[.int .u8 7, .bool true, .bool true]) ∧ Below w.heap.size w w' :=
  (parse_any _ w).mono fun _ _ ⟨he, m, hm⟩ => ⟨he.trans (congrArg Ending.returned (show tup (pf _ 8) = _ by kernel_rfl)), hm ▸ below_drewN (Below.refl _ _) m⟩
theorem re {P : Program} {F : FuncId} {args : Array Value} {w : World} {v v' : Value} (h : Calls P F args w fun e w' => e = .returned v ∧ Below w.heap.size w w') (e : v = v') : Calls P F args w fun e w' => e = .returned v' ∧ Below w.heap.size w w' := e ▸ h
theorem c0 (w : World) : Calls Tryd.prog 18 #[.agg #[.int .i8 100, .int .i8 (-128)]] w fun e w' => e = .returned (.agg #[.int .i8 (-7), .int .i8 7]) ∧ Below w.heap.size w w' := re (norm_any _ _ w) (by kernel_rfl)
theorem c1 (w : World) : Calls Tryd.prog 18 #[.agg #[.int .i8 3, .int .i8 1]] w fun e w' => e = .returned (.agg #[.int .i8 1, .int .i8 3]) ∧ Below w.heap.size w w' := re (norm_any _ _ w) (by kernel_rfl)
theorem c2 (w : World) : Calls Tryd.prog 20 #[.agg #[.int .i8 3, .int .i8 1]] w fun e w' => e = .returned (.bool false) ∧ Below w.heap.size w w' := re (valid_any _ _ w) (by kernel_rfl)
theorem c3 (w : World) : Calls Tryd.prog 20 #[.agg #[.int .i8 (-8), .int .i8 0]] w fun e w' => e = .returned (.bool false) ∧ Below w.heap.size w w' := re (valid_any _ _ w) (by kernel_rfl)
theorem c4 (w : World) : Calls Tryd.prog 20 #[.agg #[.int .i8 0, .int .i8 8]] w fun e w' => e = .returned (.bool false) ∧ Below w.heap.size w w' := re (valid_any _ _ w) (by kernel_rfl)
theorem c5 (w : World) : Calls Tryd.prog 20 #[.agg #[.int .i8 (-7), .int .i8 7]] w fun e w' => e = .returned (.bool true) ∧ Below w.heap.size w w' := re (valid_any _ _ w) (by kernel_rfl)
theorem c6 (w : World) : Calls Tryd.prog 25 #[.int .u8 7, .int .u8 9, .int .u8 200] w fun e w' => e = .returned (.agg #[.int .i8 (-7), .int .i8 7]) ∧ Below w.heap.size w w' := re (drive_any _ _ _ w (by decide) (by decide)) (by kernel_rfl)
theorem c7 (w : World) : Calls Tryd.prog 25 #[.int .u8 0, .int .u8 0, .int .u8 6] w fun e w' => e = .returned (.agg #[.int .i8 0, .int .i8 0]) ∧ Below w.heap.size w w' := re (drive_any _ _ _ w (by decide) (by decide)) (by kernel_rfl)
theorem c8 (w : World) : Calls Tryd.prog 21 #[.agg #[.int .i8 5, .int .i8 (-5)]] w fun e w' => e = .returned (.int .u8 2) ∧ Below w.heap.size w w' := re (read_any _ _ w) (by kernel_rfl)
theorem c9 (w : World) : Calls Tryd.prog 21 #[.agg #[.int .i8 (-7), .int .i8 (-1)]] w fun e w' => e = .returned (.int .u8 0) ∧ Below w.heap.size w w' := re (read_any _ _ w) (by kernel_rfl)
theorem c10 (w : World) : Calls Tryd.prog 21 #[.agg #[.int .i8 (-7), .int .i8 0]] w fun e w' => e = .returned (.int .u8 2) ∧ Below w.heap.size w w' := re (read_any _ _ w) (by kernel_rfl)
theorem c11 (w : World) : Calls Tryd.prog 23 #[.agg #[.int .i8 1, .int .i8 3], .int .i64 4] w fun e w' => e = .returned (.bool false) ∧ Below w.heap.size w w' := re (contains_any _ _ _ w) (by kernel_rfl)
theorem c12 (w : World) : Calls Tryd.prog 23 #[.agg #[.int .i8 3, .int .i8 1], .int .i64 2] w fun e w' => e = .returned (.bool true) ∧ Below w.heap.size w w' := re (contains_any _ _ _ w) (by kernel_rfl)
theorem c13 (w : World) : Calls Tryd.prog 23 #[.agg #[.int .i8 (-7), .int .i8 7], .int .i64 1099511627776] w fun e w' => e = .returned (.bool false) ∧ Below w.heap.size w w' := re (contains_any _ _ _ w) (by kernel_rfl)
theorem c14 (w : World) : Calls Tryd.prog 15 #[.slice none 0 0] w fun e w' => e = .returned (.agg #[.int .i8 0, .int .i8 0]) ∧ Below w.heap.size w w' := re (Combine_any none 0 0 (f1 0 0) w (by decide) (fun h => absurd h (by decide))) (by kernel_rfl)
theorem c15 (u : World) (t : TypeId) {g : Nat} (h : g = u.heap.size) : Calls Tryd.prog 15 #[.slice (some ⟨g, 0, none⟩) 1 1] (u.alloc (.cells #[.int .i8 9, .int .i8 9] t)) fun e w' => e = .returned (.agg #[.int .i8 7, .int .i8 7]) ∧ Below (u.alloc (.cells #[.int .i8 9, .int .i8 9] t)).heap.size (u.alloc (.cells #[.int .i8 9, .int .i8 9] t)) w' := re (Combine_any _ _ _ _ _ (by decide) (Rd1 u t 9 9 h)) (by kernel_rfl)
theorem c16 (u : World) (t : TypeId) {g : Nat} (h : g = u.heap.size) : Calls Tryd.prog 15 #[.slice (some ⟨g, 0, none⟩) 2 2] (u.alloc (.cells #[.int .i8 (-2), .int .i8 6, .int .i8 4, .int .i8 4] t)) fun e w' => e = .returned (.agg #[.int .i8 4, .int .i8 6]) ∧ Below (u.alloc (.cells #[.int .i8 (-2), .int .i8 6, .int .i8 4, .int .i8 4] t)).heap.size (u.alloc (.cells #[.int .i8 (-2), .int .i8 6, .int .i8 4, .int .i8 4] t)) w' := re (Combine_any _ _ _ _ _ (by decide) (Rd2 u t (-2) 6 4 4 h)) (by kernel_rfl)
theorem c17 (u : World) (t : TypeId) {g : Nat} (h : g = u.heap.size) : Calls Tryd.prog 15 #[.slice (some ⟨g, 0, none⟩) 2 2] (u.alloc (.cells #[.int .i8 (-6), .int .i8 2, .int .i8 4, .int .i8 4] t)) fun e w' => e = .returned (.agg #[.int .i8 (-6), .int .i8 4]) ∧ Below (u.alloc (.cells #[.int .i8 (-6), .int .i8 2, .int .i8 4, .int .i8 4] t)).heap.size (u.alloc (.cells #[.int .i8 (-6), .int .i8 2, .int .i8 4, .int .i8 4] t)) w' := re (Combine_any _ _ _ _ _ (by decide) (Rd2 u t (-6) 2 4 4 h)) (by kernel_rfl)

set_option maxRecDepth 100000 in
set_option maxHeartbeats 8000000 in
theorem walk_StrengthExamples (w : World) [T : Tb w] : Calls Tryd.prog 6 #[] w fun e w' => e = .returned (.bool true) ∧ Below w.heap.size w w' := by
  have B := Lib.hid (Below.refl w.heap.size w)
  go_enter Tryd.func6, Tryd.ntmps6
  go_wp2_with (go_at_call 13; refine (awake_any _).mono ?_; rintro e w1 ⟨rfl, hb⟩; haveI := Tb.step (by infer_instance) hb; replace B := Lib.hid (below_step B.out hb); clear hb)
  go_loopw [1, 2] (fun s1 s2 wr => ∃ k : Nat, s1 = .string (acc k) ∧ s2 = .int .u8 k ∧ k ≤ 9 ∧ Tb wr ∧ Below w.heap.size w wr) (fun _ s2 _ => 9 - (intOf s2).toNat)
  case atStart => exact ⟨0, rfl, rfl, by omega, by infer_instance, B.out⟩
  case round =>
    obtain ⟨k, rfl, rfl, hk, T1, B1⟩ := hrel
    clear B
    have B := Lib.hid B1
    clear B1
    by_cases hlt : k < 9
    · have z := acc_size k
      have z0 := name_size k false
      have z1 := name_size k true
      have ek : acc (k + 1) = acc k ++ nameB k false ++ ⟨#[32]⟩ ++ nameB k true ++ ⟨#[32]⟩ := rfl
      replace ek := Lib.hid ek
      go_wp2_with (go_at_call 27; refine (name_b _ _ _ (by omega)).mono ?_; rintro e w1 ⟨rfl, hb⟩; haveI := Tb.step (by infer_instance) hb; replace B := Lib.hid (below_step B.out hb); clear hb)
      go_roundw
      case rel => exact ⟨k + 1, congrArg Value.string ek.out.symm, by go_num, by omega, by infer_instance, B.out⟩
      case measure => simp [intOf]; omega
    · obtain rfl : k = 9 := by omega
      rw [acc9]
      go_wp2_with (first | (go_at_call 29; apply Calls.mono; (first | (with_reducible apply parse_pull) | (with_reducible apply parse_Pull1) | (with_reducible apply parse_pull2) | (with_reducible apply parse_supply1)); rintro e w1 ⟨rfl, hb⟩; haveI := Tb.step (by infer_instance) hb; replace B := Lib.hid (below_step (by first | exact B.out | exact below_new B.out _) hb); clear hb) | (go_at_call 31; refine (to_any _ _ _).mono ?_; rintro e w1 ⟨rfl, hb⟩; haveI := Tb.step (by infer_instance) hb; replace B := Lib.hid (below_step (by first | exact B.out | exact below_new B.out _) hb); clear hb) | (go_at_call 18; apply Calls.mono; (first | (with_reducible apply c0) | (with_reducible apply c1)); rintro e w1 ⟨rfl, hb⟩; haveI := Tb.step (by infer_instance) hb; replace B := Lib.hid (below_step (by first | exact B.out | exact below_new B.out _) hb); clear hb) | (go_at_call 20; apply Calls.mono; (first | (with_reducible apply c2) | (with_reducible apply c3) | (with_reducible apply c4) | (with_reducible apply c5)); rintro e w1 ⟨rfl, hb⟩; haveI := Tb.step (by infer_instance) hb; replace B := Lib.hid (below_step (by first | exact B.out | exact below_new B.out _) hb); clear hb) | (go_at_call 25; apply Calls.mono; (first | (with_reducible apply c6) | (with_reducible apply c7)); rintro e w1 ⟨rfl, hb⟩; haveI := Tb.step (by infer_instance) hb; replace B := Lib.hid (below_step (by first | exact B.out | exact below_new B.out _) hb); clear hb) | (go_at_call 21; apply Calls.mono; (first | (with_reducible apply c8) | (with_reducible apply c9) | (with_reducible apply c10)); rintro e w1 ⟨rfl, hb⟩; haveI := Tb.step (by infer_instance) hb; replace B := Lib.hid (below_step (by first | exact B.out | exact below_new B.out _) hb); clear hb) | (go_at_call 23; apply Calls.mono; (first | (with_reducible apply c11) | (with_reducible apply c12) | (with_reducible apply c13)); rintro e w1 ⟨rfl, hb⟩; haveI := Tb.step (by infer_instance) hb; replace B := Lib.hid (below_step (by first | exact B.out | exact below_new B.out _) hb); clear hb) | (go_at_call 15; apply Calls.mono; (first | (with_reducible apply c14) | (with_reducible apply c15; first | rfl | (simp; done)) | (with_reducible apply c16; first | rfl | (simp; done)) | (with_reducible apply c17; first | rfl | (simp; done))); rintro e w1 ⟨rfl, hb⟩; haveI := Tb.step (by infer_instance) hb; replace B := Lib.hid (below_step (by first | exact B.out | exact below_new B.out _) hb); clear hb))
      all_goals first
        | (go_ret; exact ⟨rfl, B.out⟩)
        | (exfalso; refine absurd ?_ ‹¬ exAll.toList = _›; rw [ByteArray.toList_eq]; kernel_rfl)
end Go.Proofs.YtjfhhlbgiepkpaaDoor
