/-
  Statements of layer 2 over the seat's translation, the walks: drives, names, parsing. Conditions: the two tables read as the program lays them ('Tb'); bits and strengths are not negative.
-/
import Derived.Test.YtjfhhlbgiepkpaaDoorStrI
namespace Go.Proofs.YtjfhhlbgiepkpaaDoor
open Go Go.RowKit
attribute [local go_sem ↓] eql_p eql_r neq_p neq_r

theorem parse_tup (x : ByteArray) (w : World) [T : Tb w] : Calls Tryd.prog 29 #[.string x] w fun e w' => e = .returned (.tuple #[.int .u8 (pf x 8).1, .bool (pf x 8).2.1, .bool (pf x 8).2.2]) ∧ Below w.heap.size w w' :=
  (parse_any x w).mono fun _ _ ⟨he, m, hm⟩ => ⟨he, hm ▸ below_drewN (Below.refl _ _) m⟩
theorem rparse_tup (x : ByteArray) (w : World) : Calls Tryd.prog 30 #[.string x] w fun e w' => e = .returned (.tuple #[.int .u8 (pf x 8).1, .bool (pf x 8).2.1, .bool (pf x 8).2.2]) ∧ Below w.heap.size w w' :=
  rparse_any x w
/-- What a search finds has the name that was sought. -/
theorem pf_spec (x : ByteArray) : ∀ n : Nat, n ≤ 8 → ((pf x n).2.2 = true ∧ 0 ≤ (pf x n).1 ∧ (pf x n).1 ≤ 7 ∧ nameB (pf x n).1 (pf x n).2.1 = x) ∨ pf x n = (0, false, false)
  | 0, _ => .inr rfl
  | n + 1, h => by
    unfold pf
    by_cases h1 : x = nameB ((7 - n : Nat) : Int) false
    · rw [if_pos h1]; exact .inl ⟨rfl, by show (0 : Int) ≤ ((7 - n : Nat) : Int); omega, by show ((7 - n : Nat) : Int) ≤ 7; omega, h1.symm⟩
    · rw [if_neg h1]
      by_cases h2 : x = nameB ((7 - n : Nat) : Int) true
      · rw [if_pos h2]; exact .inl ⟨rfl, by show (0 : Int) ≤ ((7 - n : Nat) : Int); omega, by show ((7 - n : Nat) : Int) ≤ 7; omega, h2.symm⟩
      · rw [if_neg h2]; exact pf_spec x n (by omega)
theorem name_min (s : Int) (b : Bool) (h : 0 ≤ s) : nameB s b = nameB (min s 7) b := by
  unfold nameB
  by_cases h7 : s ≤ 7
  · rw [show min s 7 = s by omega]
  · rw [show min s 7 = 7 by omega, stem_big s.toNat (by omega)]
    rfl
theorem pf_k0f : pf (nameB 0 false) 8 = (0, false, true) := by kernel_rfl
theorem pf_k0t : pf (nameB 0 true) 8 = (0, true, true) := by kernel_rfl
theorem pf_k1f : pf (nameB 1 false) 8 = (1, false, true) := by kernel_rfl
theorem pf_k1t : pf (nameB 1 true) 8 = (1, true, true) := by kernel_rfl
theorem pf_k2f : pf (nameB 2 false) 8 = (2, false, true) := by kernel_rfl
theorem pf_k2t : pf (nameB 2 true) 8 = (2, true, true) := by kernel_rfl
theorem pf_k3f : pf (nameB 3 false) 8 = (3, false, true) := by kernel_rfl
theorem pf_k3t : pf (nameB 3 true) 8 = (3, true, true) := by kernel_rfl
theorem pf_k4f : pf (nameB 4 false) 8 = (4, false, true) := by kernel_rfl
theorem pf_k4t : pf (nameB 4 true) 8 = (4, true, true) := by kernel_rfl
theorem pf_k5f : pf (nameB 5 false) 8 = (5, false, true) := by kernel_rfl
theorem pf_k5t : pf (nameB 5 true) 8 = (5, true, true) := by kernel_rfl
theorem pf_k6f : pf (nameB 6 false) 8 = (6, false, true) := by kernel_rfl
theorem pf_k6t : pf (nameB 6 true) 8 = (6, true, true) := by kernel_rfl
theorem pf_k7f : pf (nameB 7 false) 8 = (7, false, true) := by kernel_rfl
theorem pf_k7t : pf (nameB 7 true) 8 = (7, true, true) := by kernel_rfl
theorem pf_name (s : Int) (b : Bool) (h : 0 ≤ s) : pf (nameB s b) 8 = (min s 7, b, true) := by
  rw [name_min s b h]
  have hs : min s 7 = 0 ∨ min s 7 = 1 ∨ min s 7 = 2 ∨ min s 7 = 3 ∨ min s 7 = 4 ∨ min s 7 = 5 ∨ min s 7 = 6 ∨ min s 7 = 7 := by omega
  generalize min s 7 = k at *
  rcases hs with rfl | rfl | rfl | rfl | rfl | rfl | rfl | rfl
  all_goals cases b
  all_goals first | exact pf_k0f | exact pf_k0t | exact pf_k1f | exact pf_k1t | exact pf_k2f | exact pf_k2t | exact pf_k3f | exact pf_k3t | exact pf_k4f | exact pf_k4t | exact pf_k5f | exact pf_k5t | exact pf_k6f | exact pf_k6t | exact pf_k7f | exact pf_k7t
set_option maxRecDepth 100000 in
set_option maxHeartbeats 4000000 in
theorem walk_StrengthDriveMatches (b s0 s1 : Int) (w : World) (h0 : 0 ≤ s0) (h1 : 0 ≤ s1) [T : Tb w] : Calls Tryd.prog 4 #[.int .u8 b, .int .u8 s0, .int .u8 s1] w fun e w' => e = .returned (.bool true) ∧ Below w.heap.size w w' := by
  have B := Lib.hid (Below.refl w.heap.size w)
  go_enter Tryd.func4, Tryd.ntmps4
  go_wp2_with (first | (go_at_call 25; refine (drive_any _ _ _ _ (by first | assumption | decide) (by first | assumption | decide)).mono ?_; rintro e w1 ⟨rfl, hb⟩; haveI := Tb.step (by infer_instance) hb; replace B := Lib.hid (below_step B.out hb); clear hb) | (go_at_call 26; refine (rdrive_any _ _ _ _ (by first | assumption | decide) (by first | assumption | decide)).mono ?_; rintro e w1 ⟨rfl, hb⟩; haveI := Tb.step (by infer_instance) hb; replace B := Lib.hid (below_step B.out hb); clear hb) | (go_at_call 27; refine (name_b _ _ _ (by first | assumption | decide)).mono ?_; rintro e w1 ⟨rfl, hb⟩; haveI := Tb.step (by infer_instance) hb; replace B := Lib.hid (below_step B.out hb); clear hb) | (go_at_call 28; refine (rname_any _ _ _ (by first | assumption | decide)).mono ?_; rintro e w1 ⟨rfl, hb⟩; haveI := Tb.step (by infer_instance) hb; replace B := Lib.hid (below_step B.out hb); clear hb) | (go_at_call 13; refine (awake_any _).mono ?_; rintro e w1 ⟨rfl, hb⟩; haveI := Tb.step (by infer_instance) hb; replace B := Lib.hid (below_step B.out hb); clear hb))
  all_goals
    go_ret
    exact ⟨rfl, B.out⟩
set_option maxRecDepth 100000 in
set_option maxHeartbeats 4000000 in
theorem walk_StrengthParseMatches (x : ByteArray) (w : World)  [T : Tb w] : Calls Tryd.prog 5 #[.string x] w fun e w' => e = .returned (.bool true) ∧ Below w.heap.size w w' := by
  have B := Lib.hid (Below.refl w.heap.size w)
  go_enter Tryd.func5, Tryd.ntmps5
  go_wp2_with (first | (go_at_call 29; refine (parse_tup _ _).mono ?_; rintro e w1 ⟨rfl, hb⟩; haveI := Tb.step (by infer_instance) hb; replace B := Lib.hid (below_step B.out hb); clear hb) | (go_at_call 30; refine (rparse_tup _ _).mono ?_; rintro e w1 ⟨rfl, hb⟩; haveI := Tb.step (by infer_instance) hb; replace B := Lib.hid (below_step B.out hb); clear hb) | (go_at_call 13; refine (awake_any _).mono ?_; rintro e w1 ⟨rfl, hb⟩; haveI := Tb.step (by infer_instance) hb; replace B := Lib.hid (below_step B.out hb); clear hb))
  all_goals
    go_ret
    exact ⟨rfl, B.out⟩
set_option maxRecDepth 100000 in
set_option maxHeartbeats 4000000 in
theorem walk_StrengthNames (s : Int) (one : Bool) (x : ByteArray) (w : World) (h0 : 0 ≤ s) [T : Tb w] : Calls Tryd.prog 12 #[.int .u8 s, .bool one, .string x] w fun e w' => e = .returned (.bool true) ∧ Below w.heap.size w w' := by
  have B := Lib.hid (Below.refl w.heap.size w)
  have k0 : pf (nameB s one) 8 = (min s 7, one, true) := pf_name s one h0
  rcases pf_spec x 8 (by omega) with ⟨h1, h2, h3, h4⟩ | h
  · generalize hr : pf x 8 = r at *
    obtain ⟨a, b, c⟩ := r
    simp only at h1 h2 h3 h4
    subst h1 h4
    go_enter Tryd.func12, Tryd.ntmps12
    go_wp2_with (first | (go_at_call 27; refine (name_b _ _ _ (by first | assumption | decide)).mono ?_; rintro e w1 ⟨rfl, hb⟩; haveI := Tb.step (by infer_instance) hb; replace B := Lib.hid (below_step B.out hb); clear hb) | (go_at_call 29; refine (parse_tup _ _).mono ?_; rintro e w1 ⟨rfl, hb⟩; haveI := Tb.step (by infer_instance) hb; replace B := Lib.hid (below_step B.out hb); clear hb) | (go_at_call 13; refine (awake_any _).mono ?_; rintro e w1 ⟨rfl, hb⟩; haveI := Tb.step (by infer_instance) hb; replace B := Lib.hid (below_step B.out hb); clear hb))
    all_goals
      go_ret
      exact ⟨rfl, B.out⟩
  · go_enter Tryd.func12, Tryd.ntmps12
    go_wp2_with (first | (go_at_call 27; refine (name_b _ _ _ (by first | assumption | decide)).mono ?_; rintro e w1 ⟨rfl, hb⟩; haveI := Tb.step (by infer_instance) hb; replace B := Lib.hid (below_step B.out hb); clear hb) | (go_at_call 29; refine (parse_tup _ _).mono ?_; rintro e w1 ⟨rfl, hb⟩; haveI := Tb.step (by infer_instance) hb; replace B := Lib.hid (below_step B.out hb); clear hb) | (go_at_call 13; refine (awake_any _).mono ?_; rintro e w1 ⟨rfl, hb⟩; haveI := Tb.step (by infer_instance) hb; replace B := Lib.hid (below_step B.out hb); clear hb))
    all_goals
      go_ret
      exact ⟨rfl, B.out⟩

def sameB (a b : Int) : Bool := (if a > 3 then 2 else a) == (if b > 3 then 2 else b)
theorem same_any (a b : Int) (w : World) : Calls Tryd.prog 35 #[.int .u8 a, .int .u8 b] w fun e w' => e = .returned (.bool (sameB a b)) ∧ w' = w := by
  unfold sameB
  by_cases h : a > 3 <;> by_cases h' : b > 3
  · rw [if_pos h, if_pos h']
    go_enter Tryd.func35, Tryd.ntmps35
    go_wp2
    go_ret
    exact ⟨rfl, rfl⟩
  · rw [if_pos h, if_neg h']
    go_enter Tryd.func35, Tryd.ntmps35
    go_wp2
    go_ret
    exact ⟨rfl, rfl⟩
  · rw [if_neg h, if_pos h']
    go_enter Tryd.func35, Tryd.ntmps35
    go_wp2
    go_ret
    exact ⟨rfl, rfl⟩
  · rw [if_neg h, if_neg h']
    go_enter Tryd.func35, Tryd.ntmps35
    go_wp2
    go_ret
    exact ⟨rfl, rfl⟩
theorem dr_valid (b s0 s1 : Int) (h0 : 0 ≤ s0) (h1 : 0 ≤ s1) : Nm (drLo b s0 s1) (drHi b s0 s1) := by
  have l0 : 0 ≤ levI s0 ∧ levI s0 ≤ 7 := by unfold levI; omega
  have l1 : 0 ≤ levI s1 ∧ levI s1 ≤ 7 := by unfold levI; omega
  constructor <;> (try unfold drLo) <;> (try unfold drHi) <;> (try (repeat' split)) <;> omega
theorem dr_read (b s0 s1 : Int) (hb : 0 ≤ b) (h0 : 0 < s0) (h1 : 0 < s1) : sameB (readI (drLo b s0 s1) (drHi b s0 s1)) b = true := by
  have hn := norm_of (dr_valid b s0 s1 (by omega) (by omega))
  have l0 : 0 < levI s0 ∧ levI s0 ≤ 7 := by unfold levI; omega
  have l1 : 0 < levI s1 ∧ levI s1 ≤ 7 := by unfold levI; omega
  unfold readI
  rw [hn.1, hn.2]
  unfold drLo drHi
  by_cases b0 : b = 0
  · subst b0; rw [if_pos rfl, if_pos rfl, if_pos (by omega)]; rfl
  · rw [if_neg b0, if_neg b0]
    by_cases b1 : b = 1
    · subst b1; rw [if_pos rfl, if_pos rfl, if_neg (by omega), if_pos (by omega)]; rfl
    · rw [if_neg b1, if_neg b1]
      by_cases b3 : b = 3
      · subst b3; rfl
      · rw [if_neg b3, if_neg b3, if_neg (by omega), if_neg (by omega), if_neg (by omega)]
        unfold sameB
        simp
        omega
set_option maxRecDepth 100000 in
set_option maxHeartbeats 4000000 in
theorem walk_StrengthDrivers (b s0 s1 : Int) (w : World) (hb : 0 ≤ b) (h0 : 0 ≤ s0) (h1 : 0 ≤ s1) [T : Tb w] : Calls Tryd.prog 11 #[.int .u8 b, .int .u8 s0, .int .u8 s1] w fun e w' => e = .returned (.bool true) ∧ Below w.heap.size w w' := by
  have B := Lib.hid (Below.refl w.heap.size w)
  have n1 := norm_of (dr_valid b s0 s1 h0 h1)
  have v1 : (drLo b s0 s1 == nLo (drLo b s0 s1) (drHi b s0 s1)) = true := by rw [n1.1]; simp
  have v2 : (drHi b s0 s1 == nHi (drLo b s0 s1) (drHi b s0 s1)) = true := by rw [n1.2]; simp
  have z1 : drLo 3 s0 s1 = 0 := rfl
  have z2 : drHi 3 s0 s1 = 0 := rfl
  have l0 : 0 ≤ levI s0 := by unfold levI; omega
  have l1 : 0 ≤ levI s1 := by unfold levI; omega
  have x0 : decide (drLo 2 s0 s1 ≤ drLo 0 s0 s1 ∧ drHi 0 s0 s1 ≤ drHi 2 s0 s1) = true := decide_eq_true ⟨Int.le_refl _, by show -levI s0 ≤ levI s1; omega⟩
  have x1 : decide (drLo 2 s0 s1 ≤ drLo 1 s0 s1 ∧ drHi 1 s0 s1 ≤ drHi 2 s0 s1) = true := decide_eq_true ⟨by show -levI s0 ≤ levI s1; omega, Int.le_refl _⟩
  have hr : (s0 == 0) = true ∨ (s1 == 0) = true ∨ sameB (readI (drLo b s0 s1) (drHi b s0 s1)) b = true := by
    by_cases a0 : s0 = 0
    · left; simpa using a0
    · by_cases a1 : s1 = 0
      · right; left; simpa using a1
      · right; right; exact dr_read b s0 s1 hb (by omega) (by omega)
  clear n1
  rcases hr with hr | hr | hr
  all_goals
    go_enter Tryd.func11, Tryd.ntmps11
    go_wp2_with fail
    refine (drive_any _ _ _ _ h0 h1).mono ?_
    rintro e w1 ⟨rfl, hb⟩
    haveI := Tb.step (by infer_instance) hb
    replace B := Lib.hid (below_step B.out hb)
    clear hb
    go_wp2_with fail
    refine (valid_any _ _ _).mono ?_
    rintro e w2 ⟨rfl, hb⟩
    haveI := Tb.step (by infer_instance) hb
    replace B := Lib.hid (below_step (below_new B.out _) hb)
    have O := Lib.hid ((Own.new _ _ _).step hb)
    have q0 := O.out.cell 0
    have q1 := O.out.cell 1
    clear hb
    go_wp2_with (first | (go_at_call 25; refine (drive_any _ _ _ _ h0 h1).mono ?_; rintro e w1 ⟨rfl, hb⟩; haveI := Tb.step (by infer_instance) hb; replace B := Lib.hid (below_step B.out hb); replace O := Lib.hid (O.out.step hb); have q0 := O.out.cell 0; have q1 := O.out.cell 1; clear hb) | (go_at_call 31; refine (to_any _ _ _).mono ?_; rintro e w1 ⟨rfl, hb⟩; haveI := Tb.step (by infer_instance) hb; replace B := Lib.hid (below_step B.out hb); replace O := Lib.hid (O.out.step hb); have q0 := O.out.cell 0; have q1 := O.out.cell 1; clear hb) | (go_at_call 33; refine (within_any _ _ _ _ _).mono ?_; rintro e w1 ⟨rfl, hb⟩; haveI := Tb.step (by infer_instance) hb; replace B := Lib.hid (below_step B.out hb); replace O := Lib.hid (O.out.step hb); have q0 := O.out.cell 0; have q1 := O.out.cell 1; clear hb) | (go_at_call 21; refine (read_any _ _ _).mono ?_; rintro e w1 ⟨rfl, hb⟩; haveI := Tb.step (by infer_instance) hb; replace B := Lib.hid (below_step B.out hb); replace O := Lib.hid (O.out.step hb); have q0 := O.out.cell 0; have q1 := O.out.cell 1; clear hb) | (go_at_call 35; refine (same_any _ _ _).mono ?_; rintro e w1 ⟨rfl, rfl⟩) | (go_at_call 13; refine (awake_any _).mono ?_; rintro e w1 ⟨rfl, hb⟩; haveI := Tb.step (by infer_instance) hb; replace B := Lib.hid (below_step B.out hb); replace O := Lib.hid (O.out.step hb); have q0 := O.out.cell 0; have q1 := O.out.cell 1; clear hb))
    all_goals
      go_ret
      exact ⟨rfl, B.out⟩
end Go.Proofs.YtjfhhlbgiepkpaaDoor
