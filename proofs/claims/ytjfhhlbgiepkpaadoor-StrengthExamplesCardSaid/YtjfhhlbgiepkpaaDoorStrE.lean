/-
  Parse and its reference over the seat's translation. Conditions: the two tables read as the program lays them ('Tb').
-/
import Derived.Test.YtjfhhlbgiepkpaaDoorStrD
namespace Go.Proofs.YtjfhhlbgiepkpaaDoor
open Go Go.RowKit

/-- The search for a name among those from strength 8 - n on. -/
def pf (x : ByteArray) : Nat → Int × Bool × Bool
  | 0 => (0, false, false)
  | n + 1 => if x = nameB ((7 - n : Nat) : Int) false then (((7 - n : Nat) : Int), false, true) else if x = nameB ((7 - n : Nat) : Int) true then (((7 - n : Nat) : Int), true, true) else pf x n
theorem list_eq {a b : ByteArray} : a.toList = b.toList ↔ a = b := by
  rw [ByteArray.toList_eq, ByteArray.toList_eq]
  exact ⟨fun h => ByteArray.ext (Array.toList_inj.mp h), fun h => by rw [h]⟩
def tup (r : Int × Bool × Bool) : Value := .tuple #[.int .u8 r.1, .bool r.2.1, .bool r.2.2]
theorem tup_mk {r : Int × Bool × Bool} {a : Int} {b c : Bool} (h : (a, b, c) = r) : Ending.returned (.tuple #[.int .u8 a, .bool b, .bool c]) = .returned (tup r) := by rw [← h]; rfl
theorem pf_succ (x : ByteArray) (k : Nat) (h : k < 8) : pf x (8 - k) = if x = nameB (k : Int) false then ((k : Int), false, true) else if x = nameB (k : Int) true then ((k : Int), true, true) else pf x (8 - (k + 1)) := by
  obtain ⟨n, hn⟩ : ∃ n, 8 - k = n + 1 := ⟨7 - k, by omega⟩
  rw [hn, show 8 - (k + 1) = n by omega]
  conv => lhs; unfold pf
  rw [show 7 - n = k by omega]

set_option maxHeartbeats 4000000 in
theorem rparse_any (x : ByteArray) (w : World) : Calls Tryd.prog 30 #[.string x] w fun e w' => e = .returned (tup (pf x 8)) ∧ Below w.heap.size w w' := by
  go_enter Tryd.func30, Tryd.ntmps30
  go_wp2
  go_loopw [5] (fun v wr => ∃ k : Nat, k ≤ 8 ∧ v = .int .u8 k ∧ pf x (8 - k) = pf x 8 ∧ Below w.heap.size w wr) (fun v _ => 8 - (intOf v).toNat)
  case atStart => exact ⟨0, by omega, rfl, rfl, Below.refl _ _⟩
  case round =>
    obtain ⟨k, hk, rfl, hp, hB⟩ := hrel
    by_cases hlt : k < 8
    · rw [pf_succ x k hlt] at hp
      by_cases h1 : x = nameB (k : Int) false
      · rw [if_pos h1] at hp
        have t1 : (x.toList == (nameB (k : Int) false).toList) = true := by rw [beq_iff_eq]; exact list_eq.2 h1
        have H := Lib.hid (And.intro hp hB)
        clear hp hB h1
        go_wp2_with (go_at_call 28; refine (rname_any _ _ _ (by omega)).mono ?_; rintro e w1 ⟨rfl, hb⟩)
        go_ret3
        exact ⟨tup_mk H.out.1, below_step H.out.2 hb⟩
      · rw [if_neg h1] at hp
        have t1 : (x.toList == (nameB (k : Int) false).toList) = false := by rw [beq_eq_false_iff_ne]; exact fun e => h1 (list_eq.1 e)
        by_cases h2 : x = nameB (k : Int) true
        · rw [if_pos h2] at hp
          have t2 : (x.toList == (nameB (k : Int) true).toList) = true := by rw [beq_iff_eq]; exact list_eq.2 h2
          have H := Lib.hid (And.intro hp hB)
          clear hp hB h1 h2
          go_wp2_with (go_at_call 28; refine (rname_any _ _ _ (by omega)).mono ?_; rintro e w1 ⟨rfl, hb⟩)
          go_ret3
          exact ⟨tup_mk H.out.1, below_step (below_step H.out.2 (by assumption)) hb⟩
        · rw [if_neg h2] at hp
          have t2 : (x.toList == (nameB (k : Int) true).toList) = false := by rw [beq_eq_false_iff_ne]; exact fun e => h2 (list_eq.1 e)
          have H := Lib.hid (And.intro hp hB)
          clear hp hB h1 h2
          go_wp2_with (go_at_call 28; refine (rname_any _ _ _ (by omega)).mono ?_; rintro e w1 ⟨rfl, hb⟩)
          go_roundw
          case rel => exact ⟨k + 1, by omega, by go_num, H.out.1, below_step (below_step H.out.2 (by assumption)) hb⟩
          case measure => simp [intOf]; omega
    · obtain rfl : k = 8 := by omega
      go_wp2
      go_ret3
      exact ⟨tup_mk hp, hB⟩

set_option maxHeartbeats 4000000 in
theorem parse_any (x : ByteArray) (w : World) [T : Tb w] : Calls Tryd.prog 29 #[.string x] w fun e w' => e = .returned (tup (pf x 8)) ∧ ∃ m, w' = w.drewN m := by
  go_enter Tryd.func29, Tryd.ntmps29
  have i0 : ∀ u, (Instr.index 69 (.agg #[.bool false, .bool true]) (.int .i64 0)).run Tryd.prog u = .ok (.bool false) u := fun _ => by kernel_rfl
  have i1 : ∀ u, (Instr.index 69 (.agg #[.bool false, .bool true]) (.int .i64 1)).run Tryd.prog u = .ok (.bool true) u := fun _ => by kernel_rfl
  go_wp2
  go_loopw [8] (fun v wr => ∃ k : Nat, k ≤ 8 ∧ v = .int .u8 k ∧ pf x (8 - k) = pf x 8 ∧ ∃ m, wr = w.drewN m) (fun v _ => 8 - (intOf v).toNat)
  case atStart => exact ⟨0, by omega, rfl, rfl, 0, rfl⟩
  case round =>
    obtain ⟨k, hk, rfl, hp, m, rfl⟩ := hrel
    by_cases hlt : k < 8
    · rw [pf_succ x k hlt] at hp
      have hp := Lib.hid hp
      have d8 : decide ((k : Int) < 8) = true := by simp; omega
      go_wp2
      go_loopw [12] (fun v wr => (∃ m, wr = w.drewN m) ∧ (v = .int .i64 0 ∨ (v = .int .i64 1 ∧ ¬ x = nameB (k : Int) false) ∨ (v = .int .i64 2 ∧ ¬ x = nameB (k : Int) false ∧ ¬ x = nameB (k : Int) true))) (fun v _ => 2 - (intOf v).toNat)
      case atStart => exact ⟨⟨_, rfl⟩, .inl rfl⟩
      case round =>
        obtain ⟨⟨m, rfl⟩, hv⟩ := hrel
        rcases hv with rfl | ⟨rfl, h1⟩ | ⟨rfl, h1, h2⟩
        · by_cases h1 : x = nameB (k : Int) false
          · have hp := hp.out
            rw [if_pos h1] at hp
            have t1 : (x.toList == (nameB (k : Int) false).toList) = true := by rw [beq_iff_eq]; exact list_eq.2 h1
            have hp := Lib.hid hp
            clear h1
            go_wp2_with (go_at_call 27; refine (name_any _ _ _ (by omega)).mono ?_; rintro e w1 ⟨rfl, m1, rfl⟩)
            go_ret3
            exact ⟨tup_mk hp.out, _, rfl⟩
          · have t1 : (x.toList == (nameB (k : Int) false).toList) = false := by rw [beq_eq_false_iff_ne]; exact fun e => h1 (list_eq.1 e)
            have h1 := Lib.hid h1
            go_wp2_with (go_at_call 27; refine (name_any _ _ _ (by omega)).mono ?_; rintro e w1 ⟨rfl, m1, rfl⟩)
            go_roundw
            case rel => exact ⟨⟨_, rfl⟩, .inr (.inl ⟨rfl, h1.out⟩)⟩
            case measure => simp [intOf]
        · by_cases h2 : x = nameB (k : Int) true
          · have hp := hp.out
            rw [if_neg h1, if_pos h2] at hp
            have t1 : (x.toList == (nameB (k : Int) true).toList) = true := by rw [beq_iff_eq]; exact list_eq.2 h2
            have hp := Lib.hid hp
            clear h1 h2
            go_wp2_with (go_at_call 27; refine (name_any _ _ _ (by omega)).mono ?_; rintro e w1 ⟨rfl, m1, rfl⟩)
            go_ret3
            exact ⟨tup_mk hp.out, _, rfl⟩
          · have t1 : (x.toList == (nameB (k : Int) true).toList) = false := by rw [beq_eq_false_iff_ne]; exact fun e => h2 (list_eq.1 e)
            have h1 := Lib.hid h1
            have h2 := Lib.hid h2
            go_wp2_with (go_at_call 27; refine (name_any _ _ _ (by omega)).mono ?_; rintro e w1 ⟨rfl, m1, rfl⟩)
            go_roundw
            case rel => exact ⟨⟨_, rfl⟩, .inr (.inr ⟨rfl, h1.out, h2.out⟩)⟩
            case measure => simp [intOf]
        · have hp := hp.out
          rw [if_neg h1, if_neg h2] at hp
          have hp := Lib.hid hp
          clear h1 h2
          go_wp2
          go_roundw
          case rel => exact ⟨k + 1, by omega, by go_num, hp.out, _, rfl⟩
          case measure => simp [intOf]; omega
    · obtain rfl : k = 8 := by omega
      go_wp2
      go_ret3
      exact ⟨tup_mk hp, _, rfl⟩
end Go.Proofs.YtjfhhlbgiepkpaaDoor
