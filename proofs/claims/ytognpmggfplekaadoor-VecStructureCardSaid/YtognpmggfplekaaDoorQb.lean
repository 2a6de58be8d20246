/-
  The functions of package bit and of its reference over the seat's translation: one contract a function. Conditions: arguments are not negative ('NN'), and the tables read as the program lays them.
  The tables of package bit as one condition on the world, and the bits' functions in the words of the vectors: what a function value does to bits. No conditions beyond those.
-/
import Derived.Test.YtognpmggfplekaaDoorProg
import Derived.Test.YtognpmggfplekaaDoorQa
import Derived.WalkKit
import Derived.Deep.QuietTactic
import Derived.BigQuiet
import Derived.Shelf.Abstract
import Derived.Lib.Hide

namespace Go.Proofs.YtognpmggfplekaaDoor
open Go Go.RowKit

/-- A bit is not negative. -/
class NN (a : Int) : Prop where
  nn : 0 ≤ a
instance : NN 0 := ⟨by decide⟩
instance : NN 1 := ⟨by decide⟩
instance : NN 2 := ⟨by decide⟩
instance : NN 3 := ⟨by decide⟩
instance : NN 4 := ⟨by decide⟩
instance : NN 9 := ⟨by decide⟩
instance : NN 255 := ⟨by decide⟩
theorem tabI_nn (l : List Int) (h : ∀ x ∈ l, 0 ≤ x) (k : Int) : 0 ≤ tabI l k := by
  unfold tabI
  rw [List.getD_eq_getElem?_getD]
  by_cases hk : k.toNat < l.length
  · rw [List.getElem?_eq_getElem hk]
    exact h _ (List.getElem_mem _)
  · rw [List.getElem?_eq_none (by omega)]
    decide
theorem nn_of_wf {a : Int} (h : (Lit.int .u8 a).wf = true) : NN a := ⟨by simp [Lit.wf, IntKind.min, IntKind.max, IntKind.signed, IntKind.bits] at h; omega⟩
instance (a b : Int) : NN (andI a b) := ⟨tabI_nn _ (by decide) _⟩
instance (a b : Int) : NN (orI a b) := ⟨tabI_nn _ (by decide) _⟩
instance (a b : Int) : NN (xorI a b) := ⟨tabI_nn _ (by decide) _⟩
instance (a : Int) : NN (notI a) := ⟨tabI_nn _ (by decide) _⟩
instance (a : Int) : NN (bufI a) := ⟨tabI_nn _ (by decide) _⟩
instance (v : Bool) : NN (fromI v) := ⟨by cases v <;> decide⟩
/-! What the walks need of memory: the seven tables' cells. -/
class TNot (w : World) : Prop where
  not : ∀ k < 4, w.cell? ⟨4, k, none⟩ = some (.int .u8 (tabI [1, 0, 2, 2] k))
instance {w : World} [T : TNot w] (n : Nat) : TNot (w.drewN n) := ⟨fun k h => by simpa using T.not k h⟩
class TBuf (w : World) : Prop where
  buf : ∀ k < 4, w.cell? ⟨3, k, none⟩ = some (.int .u8 (tabI [0, 1, 2, 2] k))
instance {w : World} [T : TBuf w] (n : Nat) : TBuf (w.drewN n) := ⟨fun k h => by simpa using T.buf k h⟩
class TAnd (w : World) : Prop where
  and : ∀ k < 16, w.cell? ⟨1, k, none⟩ = some (.int .u8 (tabI [0, 0, 0, 0, 0, 1, 2, 2, 0, 2, 2, 2, 0, 2, 2, 2] k))
instance {w : World} [T : TAnd w] (n : Nat) : TAnd (w.drewN n) := ⟨fun k h => by simpa using T.and k h⟩
class TOr (w : World) : Prop where
  or : ∀ k < 16, w.cell? ⟨2, k, none⟩ = some (.int .u8 (tabI [0, 1, 2, 2, 1, 1, 1, 1, 2, 1, 2, 2, 2, 1, 2, 2] k))
instance {w : World} [T : TOr w] (n : Nat) : TOr (w.drewN n) := ⟨fun k h => by simpa using T.or k h⟩
class TXor (w : World) : Prop where
  xor : ∀ k < 16, w.cell? ⟨5, k, none⟩ = some (.int .u8 (tabI [0, 1, 2, 2, 1, 0, 2, 2, 2, 2, 2, 2, 2, 2, 2, 2] k))
instance {w : World} [T : TXor w] (n : Nat) : TXor (w.drewN n) := ⟨fun k h => by simpa using T.xor k h⟩
class TCom (w : World) : Prop where
  com : ∀ k < 16, w.cell? ⟨0, k, none⟩ = some (.int .u8 (tabI [0, 2, 2, 2, 2, 1, 2, 2, 2, 2, 2, 2, 2, 2, 2, 2] k))
instance {w : World} [T : TCom w] (n : Nat) : TCom (w.drewN n) := ⟨fun k h => by simpa using T.com k h⟩

theorem stI_cases (a : Int) [h : NN a] : stI a = 0 ∨ stI a = 1 ∨ stI a = 2 ∨ stI a = 3 := by have := h.nn; unfold stI; split <;> omega
theorem stI_fix (a : Int) (h : stI a = 0 ∨ stI a = 1 ∨ stI a = 3) : stI a = a := by
  unfold stI at h ⊢; split <;> simp_all
theorem ret_u8 {k : IntKind} {a b : Int} (h : a = b) : Ending.returned (.int k a) = .returned (.int k b) := by rw [h]
theorem ret_bool {a b : Bool} (h : a = b) : Ending.returned (.bool a) = .returned (.bool b) := by rw [h]

theorem state_any (a : Int) (w : World) : Calls Tryd.prog 82 #[.int .u8 a] w fun e w' => e = .returned (.int .u8 (stI a)) ∧ w' = w := by
  unfold stI
  by_cases h : a > 3
  · rw [if_pos h]
    go_enter Tryd.func82, Tryd.ntmps82
    go_wp2
    go_ret
    exact ⟨rfl, rfl⟩
  · rw [if_neg h]
    go_enter Tryd.func82, Tryd.ntmps82
    go_wp2
    go_ret
    exact ⟨rfl, rfl⟩
theorem not_any (a : Int) (w : World) [NN a] [T : TNot w] : Calls Tryd.prog 85 #[.int .u8 a] w fun e w' => e = .returned (.int .u8 (notI a)) ∧ ∃ m, w' = w.drewN m := by
  have hs := stI_cases a
  have c0 := T.not 0 (by decide)
  have c1 := T.not 1 (by decide)
  have c2 := T.not 2 (by decide)
  have c3 := T.not 3 (by decide)
  have S := state_any a
  unfold notI
  clear T
  generalize stI a = s at *
  rcases hs with rfl | rfl | rfl | rfl
  all_goals
    go_enter Tryd.func85, Tryd.ntmps85
    go_wp2_with (go_at_call 82; refine (S _).mono ?_; rintro e w' ⟨rfl, rfl⟩)
    go_ret
    exact ⟨rfl, 0, rfl⟩

theorem buf_any (a : Int) (w : World) [NN a] [T : TBuf w] : Calls Tryd.prog 81 #[.int .u8 a] w fun e w' => e = .returned (.int .u8 (bufI a)) ∧ ∃ m, w' = w.drewN m := by
  have hs := stI_cases a
  have c0 := T.buf 0 (by decide)
  have c1 := T.buf 1 (by decide)
  have c2 := T.buf 2 (by decide)
  have c3 := T.buf 3 (by decide)
  have S := state_any a
  unfold bufI
  clear T
  generalize stI a = s at *
  rcases hs with rfl | rfl | rfl | rfl
  all_goals
    go_enter Tryd.func81, Tryd.ntmps81
    go_wp2_with (go_at_call 82; refine (S _).mono ?_; rintro e w' ⟨rfl, rfl⟩)
    go_ret
    exact ⟨rfl, 0, rfl⟩

set_option maxHeartbeats 4000000 in
theorem and_any (a b : Int) (w : World) [NN a] [NN b] [T : TAnd w] : Calls Tryd.prog 68 #[.int .u8 a, .int .u8 b] w fun e w' => e = .returned (.int .u8 (andI a b)) ∧ ∃ m, w' = w.drewN m := by
  have hs := stI_cases a
  have ht := stI_cases b
  have S := fun w => state_any a w
  have R := fun w => state_any b w
  unfold andI
  have c0 := T.and 0 (by decide)
  have c1 := T.and 1 (by decide)
  have c2 := T.and 2 (by decide)
  have c3 := T.and 3 (by decide)
  have c4 := T.and 4 (by decide)
  have c5 := T.and 5 (by decide)
  have c6 := T.and 6 (by decide)
  have c7 := T.and 7 (by decide)
  have c8 := T.and 8 (by decide)
  have c9 := T.and 9 (by decide)
  have c10 := T.and 10 (by decide)
  have c11 := T.and 11 (by decide)
  have c12 := T.and 12 (by decide)
  have c13 := T.and 13 (by decide)
  have c14 := T.and 14 (by decide)
  have c15 := T.and 15 (by decide)
  clear T
  generalize stI a = s at *
  generalize stI b = t at *
  have S := Lib.hid S
  have R := Lib.hid R
  rcases hs with rfl | rfl | rfl | rfl <;> rcases ht with rfl | rfl | rfl | rfl
  all_goals
    go_enter Tryd.func68, Tryd.ntmps68
    go_wp2
    go_quiet ((go_at_call 82; first | (with_reducible exact Calls.quiet_of_same (S.out _)) | (with_reducible exact Calls.quiet_of_same (R.out _))))
    go_wp2
    go_ret
    exact ⟨rfl, _, rfl⟩

set_option maxHeartbeats 4000000 in
theorem or_any (a b : Int) (w : World) [NN a] [NN b] [T : TOr w] : Calls Tryd.prog 78 #[.int .u8 a, .int .u8 b] w fun e w' => e = .returned (.int .u8 (orI a b)) ∧ ∃ m, w' = w.drewN m := by
  have hs := stI_cases a
  have ht := stI_cases b
  have S := fun w => state_any a w
  have R := fun w => state_any b w
  unfold orI
  have c0 := T.or 0 (by decide)
  have c1 := T.or 1 (by decide)
  have c2 := T.or 2 (by decide)
  have c3 := T.or 3 (by decide)
  have c4 := T.or 4 (by decide)
  have c5 := T.or 5 (by decide)
  have c6 := T.or 6 (by decide)
  have c7 := T.or 7 (by decide)
  have c8 := T.or 8 (by decide)
  have c9 := T.or 9 (by decide)
  have c10 := T.or 10 (by decide)
  have c11 := T.or 11 (by decide)
  have c12 := T.or 12 (by decide)
  have c13 := T.or 13 (by decide)
  have c14 := T.or 14 (by decide)
  have c15 := T.or 15 (by decide)
  clear T
  generalize stI a = s at *
  generalize stI b = t at *
  have S := Lib.hid S
  have R := Lib.hid R
  rcases hs with rfl | rfl | rfl | rfl <;> rcases ht with rfl | rfl | rfl | rfl
  all_goals
    go_enter Tryd.func78, Tryd.ntmps78
    go_wp2
    go_quiet ((go_at_call 82; first | (with_reducible exact Calls.quiet_of_same (S.out _)) | (with_reducible exact Calls.quiet_of_same (R.out _))))
    go_wp2
    go_ret
    exact ⟨rfl, _, rfl⟩

set_option maxHeartbeats 4000000 in
theorem xor_any (a b : Int) (w : World) [NN a] [NN b] [T : TXor w] : Calls Tryd.prog 87 #[.int .u8 a, .int .u8 b] w fun e w' => e = .returned (.int .u8 (xorI a b)) ∧ ∃ m, w' = w.drewN m := by
  have hs := stI_cases a
  have ht := stI_cases b
  have S := fun w => state_any a w
  have R := fun w => state_any b w
  unfold xorI
  have c0 := T.xor 0 (by decide)
  have c1 := T.xor 1 (by decide)
  have c2 := T.xor 2 (by decide)
  have c3 := T.xor 3 (by decide)
  have c4 := T.xor 4 (by decide)
  have c5 := T.xor 5 (by decide)
  have c6 := T.xor 6 (by decide)
  have c7 := T.xor 7 (by decide)
  have c8 := T.xor 8 (by decide)
  have c9 := T.xor 9 (by decide)
  have c10 := T.xor 10 (by decide)
  have c11 := T.xor 11 (by decide)
  have c12 := T.xor 12 (by decide)
  have c13 := T.xor 13 (by decide)
  have c14 := T.xor 14 (by decide)
  have c15 := T.xor 15 (by decide)
  clear T
  generalize stI a = s at *
  generalize stI b = t at *
  have S := Lib.hid S
  have R := Lib.hid R
  rcases hs with rfl | rfl | rfl | rfl <;> rcases ht with rfl | rfl | rfl | rfl
  all_goals
    go_enter Tryd.func87, Tryd.ntmps87
    go_wp2
    go_quiet ((go_at_call 82; first | (with_reducible exact Calls.quiet_of_same (S.out _)) | (with_reducible exact Calls.quiet_of_same (R.out _))))
    go_wp2
    go_ret
    exact ⟨rfl, _, rfl⟩

set_option maxHeartbeats 4000000 in
theorem mux_com (x a b : Int) (w : World) [NN a] [NN b] [T : TCom w] (hx0 : (x == 0) = false) (hx1 : (x == 1) = false) : Calls Tryd.prog 47 #[.int .u8 x, .int .u8 a, .int .u8 b] w fun e w' => e = .returned (.int .u8 (comI a b)) ∧ ∃ m, w' = w.drewN m := by
  have hs := stI_cases a
  have ht := stI_cases b
  have S := fun w => state_any a w
  have R := fun w => state_any b w
  unfold comI
  have c0 := T.com 0 (by decide)
  have c1 := T.com 1 (by decide)
  have c2 := T.com 2 (by decide)
  have c3 := T.com 3 (by decide)
  have c4 := T.com 4 (by decide)
  have c5 := T.com 5 (by decide)
  have c6 := T.com 6 (by decide)
  have c7 := T.com 7 (by decide)
  have c8 := T.com 8 (by decide)
  have c9 := T.com 9 (by decide)
  have c10 := T.com 10 (by decide)
  have c11 := T.com 11 (by decide)
  have c12 := T.com 12 (by decide)
  have c13 := T.com 13 (by decide)
  have c14 := T.com 14 (by decide)
  have c15 := T.com 15 (by decide)
  clear T
  generalize stI a = s at *
  generalize stI b = t at *
  have S := Lib.hid S
  have R := Lib.hid R
  rcases hs with rfl | rfl | rfl | rfl <;> rcases ht with rfl | rfl | rfl | rfl
  all_goals
    go_enter Tryd.func47, Tryd.ntmps47
    go_wp2
    go_quiet ((go_at_call 82; first | (with_reducible exact Calls.quiet_of_same (S.out _)) | (with_reducible exact Calls.quiet_of_same (R.out _))))
    go_wp2
    go_ret
    exact ⟨rfl, _, rfl⟩
theorem mux_any (x a b : Int) (w : World) [NN a] [NN b] [TBuf w] [TCom w] : Calls Tryd.prog 47 #[.int .u8 x, .int .u8 a, .int .u8 b] w fun e w' => e = .returned (.int .u8 (muxI x a b)) ∧ ∃ m, w' = w.drewN m := by
  unfold muxI
  by_cases h0 : x = 0
  · subst h0
    rw [if_pos rfl]
    go_enter Tryd.func47, Tryd.ntmps47
    go_wp2_with (go_at_call 81; refine (buf_any _ _).mono ?_; rintro e w' ⟨rfl, m, rfl⟩)
    go_ret
    exact ⟨rfl, _, rfl⟩
  · rw [if_neg h0]
    by_cases h1 : x = 1
    · subst h1
      rw [if_pos rfl]
      go_enter Tryd.func47, Tryd.ntmps47
      go_wp2_with (go_at_call 81; refine (buf_any _ _).mono ?_; rintro e w' ⟨rfl, m, rfl⟩)
      go_ret
      exact ⟨rfl, _, rfl⟩
    · rw [if_neg h1]
      exact mux_com x a b w (by simpa using h0) (by simpa using h1)

theorem valid_any (a : Int) (w : World) : Calls Tryd.prog 99 #[.int .u8 a] w fun e w' => e = .returned (.bool (validB a)) ∧ ∃ m, w' = w.drewN m := by
  go_enter Tryd.func99, Tryd.ntmps99
  go_wp2
  all_goals go_ret
  all_goals exact ⟨rfl, 0, rfl⟩

theorem known_any (a : Int) (w : World) : Calls Tryd.prog 55 #[.int .u8 a] w fun e w' => e = .returned (.bool (knownB a)) ∧ ∃ m, w' = w.drewN m := by
  by_cases h : a = 0
  · subst h
    go_enter Tryd.func55, Tryd.ntmps55
    go_wp2
    go_ret
    exact ⟨rfl, 0, rfl⟩
  · go_enter Tryd.func55, Tryd.ntmps55
    go_wp2
    go_ret
    exact ⟨rfl, 0, rfl⟩
theorem same_any (a b : Int) (w : World) : Calls Tryd.prog 83 #[.int .u8 a, .int .u8 b] w fun e w' => e = .returned (.bool (sameB a b)) ∧ ∃ m, w' = w.drewN m := by
  go_enter Tryd.func83, Tryd.ntmps83
  go_wp2_with (go_at_call 82; refine (state_any _ _).mono ?_; rintro e w' ⟨rfl, rfl⟩)
  all_goals go_ret
  all_goals exact ⟨rfl, 0, rfl⟩
theorem from_any (v : Bool) (w : World) : Calls Tryd.prog 49 #[.bool v] w fun e w' => e = .returned (.int .u8 (fromI v)) ∧ ∃ m, w' = w.drewN m := by
  cases v
  all_goals
    go_enter Tryd.func49, Tryd.ntmps49
    go_wp2
    go_ret
    exact ⟨rfl, 0, rfl⟩

theorem andI_eq (a b : Int) [ha : NN a] [hb : NN b] : andI a b = if a = 0 ∨ b = 0 then 0 else if a = 1 ∧ b = 1 then 1 else 2 := by
  have ha := ha.nn
  have hb := hb.nn
  have hA : a = 0 ∨ a = 1 ∨ a = 2 ∨ a = 3 ∨ a > 3 := by omega
  have hB : b = 0 ∨ b = 1 ∨ b = 2 ∨ b = 3 ∨ b > 3 := by omega
  have sA : a > 3 → stI a = 2 := fun h => if_pos h
  have sB : b > 3 → stI b = 2 := fun h => if_pos h
  unfold andI
  rcases hA with rfl | rfl | rfl | rfl | h0 <;> rcases hB with rfl | rfl | rfl | rfl | h1
  all_goals first
    | decide
    | (rw [sA h0, sB h1]; refine Eq.trans (b := 2) (by decide) ?_; simp; omega)
    | (rw [sA h0, sB h1]; refine Eq.trans (b := 2) (by decide) ?_; rw [if_neg (by omega), if_neg (by omega)])
    | (simp only [sA h0]; simp [stI, tabI]; try omega)
    | (simp only [sB h1]; simp [stI, tabI]; try omega)

theorem orI_eq (a b : Int) [ha : NN a] [hb : NN b] : orI a b = if a = 1 ∨ b = 1 then 1 else if a = 0 ∧ b = 0 then 0 else 2 := by
  have ha := ha.nn
  have hb := hb.nn
  have hA : a = 0 ∨ a = 1 ∨ a = 2 ∨ a = 3 ∨ a > 3 := by omega
  have hB : b = 0 ∨ b = 1 ∨ b = 2 ∨ b = 3 ∨ b > 3 := by omega
  have sA : a > 3 → stI a = 2 := fun h => if_pos h
  have sB : b > 3 → stI b = 2 := fun h => if_pos h
  unfold orI
  rcases hA with rfl | rfl | rfl | rfl | h0 <;> rcases hB with rfl | rfl | rfl | rfl | h1
  all_goals first
    | decide
    | (rw [sA h0, sB h1]; refine Eq.trans (b := 2) (by decide) ?_; simp; omega)
    | (rw [sA h0, sB h1]; refine Eq.trans (b := 2) (by decide) ?_; rw [if_neg (by omega), if_neg (by omega)])
    | (simp only [sA h0]; simp [stI, tabI]; try omega)
    | (simp only [sB h1]; simp [stI, tabI]; try omega)

theorem xorI_eq (a b : Int) [ha : NN a] [hb : NN b] : xorI a b = if knownB a = false ∨ knownB b = false then 2 else if a = b then 0 else 1 := by
  have ha := ha.nn
  have hb := hb.nn
  have hA : a = 0 ∨ a = 1 ∨ a = 2 ∨ a = 3 ∨ a > 3 := by omega
  have hB : b = 0 ∨ b = 1 ∨ b = 2 ∨ b = 3 ∨ b > 3 := by omega
  have sA : a > 3 → stI a = 2 := fun h => if_pos h
  have sB : b > 3 → stI b = 2 := fun h => if_pos h
  unfold xorI
  rcases hA with rfl | rfl | rfl | rfl | h0 <;> rcases hB with rfl | rfl | rfl | rfl | h1
  all_goals first
    | decide
    | (rw [sA h0, sB h1]; refine Eq.trans (b := 2) (by decide) ?_; simp [knownB]; omega)
    | (rw [sA h0, sB h1]; refine Eq.trans (b := 2) (by decide) ?_; rw [if_neg (by omega), if_neg (by omega)])
    | (simp only [sA h0]; simp [stI, tabI, knownB]; try omega)
    | (simp only [sB h1]; simp [stI, tabI, knownB]; try omega)

theorem comI_eq (a b : Int) [ha : NN a] [hb : NN b] : comI a b = if knownB a = true ∧ a = b then a else 2 := by
  have ha := ha.nn
  have hb := hb.nn
  have hA : a = 0 ∨ a = 1 ∨ a = 2 ∨ a = 3 ∨ a > 3 := by omega
  have hB : b = 0 ∨ b = 1 ∨ b = 2 ∨ b = 3 ∨ b > 3 := by omega
  have sA : a > 3 → stI a = 2 := fun h => if_pos h
  have sB : b > 3 → stI b = 2 := fun h => if_pos h
  unfold comI
  rcases hA with rfl | rfl | rfl | rfl | h0 <;> rcases hB with rfl | rfl | rfl | rfl | h1
  all_goals first
    | decide
    | (rw [sA h0, sB h1]; refine Eq.trans (b := 2) (by decide) ?_; simp [knownB]; omega)
    | (rw [sA h0, sB h1]; refine Eq.trans (b := 2) (by decide) ?_; rw [if_neg (by omega), if_neg (by omega)])
    | (simp only [sA h0]; simp [stI, tabI, knownB]; try omega)
    | (simp only [sB h1]; simp [stI, tabI, knownB]; try omega)

theorem bufI_eq (a : Int) [ha : NN a] : bufI a = if knownB a = true then a else 2 := by
  have ha := ha.nn
  obtain rfl | rfl | rfl | rfl | h : a = 0 ∨ a = 1 ∨ a = 2 ∨ a = 3 ∨ a > 3 := by omega
  all_goals first
    | decide
    | (unfold bufI; rw [show stI a = 2 from if_pos h]; simp [tabI, knownB]; omega)
theorem notI_eq (a : Int) [ha : NN a] : notI a = if a = 0 then 1 else if a = 1 then 0 else 2 := by
  have ha := ha.nn
  obtain rfl | rfl | rfl | rfl | h : a = 0 ∨ a = 1 ∨ a = 2 ∨ a = 3 ∨ a > 3 := by omega
  all_goals first
    | decide
    | (unfold notI; rw [show stI a = 2 from if_pos h, if_neg (by omega), if_neg (by omega)]; rfl)

theorem eq_any (a b : Int) (w : World) [NN a] [NN b] [TXor w] [TNot w] : Calls Tryd.prog 59 #[.int .u8 a, .int .u8 b] w fun e w' => e = .returned (.int .u8 (eqI a b)) ∧ ∃ m, w' = w.drewN m := by
  go_enter Tryd.func59, Tryd.ntmps59
  go_wp2_with (first | (go_at_call 87; refine (xor_any _ _ _).mono ?_; rintro e w' ⟨rfl, m, rfl⟩) | (go_at_call 85; refine (not_any _ _).mono ?_; rintro e w' ⟨rfl, m, rfl⟩))
  go_ret
  exact ⟨rfl, _, rfl⟩
end Go.Proofs.YtognpmggfplekaaDoor

namespace Go.Proofs.YtognpmggfplekaaDoor
open Go Go.RowKit

/-- The six tables read as the program lays them. -/
class Tabs (w : World) : Prop where
  tn : TNot w
  tb : TBuf w
  ta : TAnd w
  to : TOr w
  tx : TXor w
  tc : TCom w
theorem cell_lt {w : World} {b o : Nat} {v : Value} (h : w.cell? ⟨b, o, none⟩ = some v) : b < w.heap.size := by
  rcases Nat.lt_or_ge b w.heap.size with h1 | h1
  · exact h1
  · have h2 : w.heap[b]? = none := Array.getElem?_eq_none h1
    unfold World.cell? at h
    rw [show w.heap[(⟨b, o, none⟩ : Addr).block]? = none from h2] at h
    simp at h
theorem cell_step {w u : World} (hb : Below w.heap.size w u) {b o : Nat} {v : Value} (h : w.cell? ⟨b, o, none⟩ = some v) : u.cell? ⟨b, o, none⟩ = some v := (hb.cell (p := ⟨b, o, none⟩) (cell_lt h)).trans h
theorem Tabs.step {w u : World} (T : Tabs w) (hb : Below w.heap.size w u) : Tabs u :=
  ⟨⟨fun k h => cell_step hb (T.tn.not k h)⟩, ⟨fun k h => cell_step hb (T.tb.buf k h)⟩, ⟨fun k h => cell_step hb (T.ta.and k h)⟩, ⟨fun k h => cell_step hb (T.to.or k h)⟩, ⟨fun k h => cell_step hb (T.tx.xor k h)⟩, ⟨fun k h => cell_step hb (T.tc.com k h)⟩⟩
theorem Tabs.at_later {w u : World} (hb : Below w.heap.size w u) (T : Tabs w) : Tabs u := T.step hb
theorem Tabs.alloc {w : World} (T : Tabs w) (o : Obj) : Tabs (w.alloc o) := T.step (below_new (Below.refl _ _) o)
theorem Tabs.drewN {w : World} (T : Tabs w) (n : Nat) : Tabs (w.drewN n) := T.step (below_drewN (Below.refl _ _) n)
theorem below_drew {B : Nat} {a w : World} (h : Below B a w) : Below B a w.drew := ⟨h.os, h.tape, h.output, h.size, h.block⟩
theorem below_of_drew {w b : World} (h : Below w.drew.heap.size w.drew b) : Below w.heap.size w b := ⟨h.os, h.tape, h.output, h.size, h.block⟩
theorem Tabs.drew {w : World} (T : Tabs w) : Tabs w.drew := T.step (below_drew (Below.refl _ _))
theorem below_last {W w u : World} (h : Below w.heap.size w u) (k : Below W.heap.size W w) : Below W.heap.size W u := below_step k h

/-- A call of function g enters it. -/
def Ent (g : Nat) : Prop := ∀ (args : Array Value) (w : World), (callFunc g args).run Tryd.prog w = .ok (.enter g args) w
/-- The function value computes f on two bits, in every world in which all that lay in w lies. -/
def Fn2 (w : World) (g : Nat) (lb : Array Value) (f : Int → Int → Int) : Prop := ∀ W a b, Below w.heap.size w W → 0 ≤ a → 0 ≤ b →
  Calls Tryd.prog g (#[.int .u8 a, .int .u8 b] ++ lb) W fun e w' => e = .returned (.int .u8 (f a b)) ∧ Below W.heap.size W w'
/-- .. and f i, for every index below n. -/
def Gt (w : World) (n : Nat) (g : Nat) (lb : Array Value) (f : Nat → Int) : Prop := ∀ W (i : Nat), i < n → Below w.heap.size w W →
  Calls Tryd.prog g (#[.int .i64 i] ++ lb) W fun e w' => e = .returned (.int .u8 (f i)) ∧ Below W.heap.size W w'
theorem Fn2.step {w u : World} {g : Nat} {lb : Array Value} {f : Int → Int → Int} (h : Fn2 w g lb f) (hb : Below w.heap.size w u) : Fn2 u g lb f := fun W a b hW => h W a b (below_step hb hW)
theorem Gt.step {w u : World} {n g : Nat} {lb : Array Value} {f : Nat → Int} (h : Gt w n g lb f) (hb : Below w.heap.size w u) : Gt u n g lb f := fun W i hi hW => h W i hi (below_step hb hW)
theorem quietB {g : Nat} {args : Array Value} {w : World} {v : Value} (h : Calls Tryd.prog g args w fun e w' => e = .returned v ∧ ∃ m, w' = w.drewN m) : Calls Tryd.prog g args w fun e w' => e = .returned v ∧ Below w.heap.size w w' :=
  h.mono fun _ _ ⟨he, m, hw⟩ => ⟨he, hw ▸ below_drewN (Below.refl _ _) m⟩

section
variable {a b s : Int} (w : World)
theorem b_and (ha : 0 ≤ a) (hb : 0 ≤ b) (T : Tabs w) : Calls Tryd.prog 68 #[.int .u8 a, .int .u8 b] w fun e w' => e = .returned (.int .u8 (andI a b)) ∧ Below w.heap.size w w' := by
  haveI : NN a := ⟨ha⟩; haveI : NN b := ⟨hb⟩; haveI := T.ta; exact quietB (and_any a b w)
theorem b_or (ha : 0 ≤ a) (hb : 0 ≤ b) (T : Tabs w) : Calls Tryd.prog 78 #[.int .u8 a, .int .u8 b] w fun e w' => e = .returned (.int .u8 (orI a b)) ∧ Below w.heap.size w w' := by
  haveI : NN a := ⟨ha⟩; haveI : NN b := ⟨hb⟩; haveI := T.to; exact quietB (or_any a b w)
theorem b_xor (ha : 0 ≤ a) (hb : 0 ≤ b) (T : Tabs w) : Calls Tryd.prog 87 #[.int .u8 a, .int .u8 b] w fun e w' => e = .returned (.int .u8 (xorI a b)) ∧ Below w.heap.size w w' := by
  haveI : NN a := ⟨ha⟩; haveI : NN b := ⟨hb⟩; haveI := T.tx; exact quietB (xor_any a b w)
theorem b_eq (ha : 0 ≤ a) (hb : 0 ≤ b) (T : Tabs w) : Calls Tryd.prog 59 #[.int .u8 a, .int .u8 b] w fun e w' => e = .returned (.int .u8 (eqI a b)) ∧ Below w.heap.size w w' := by
  haveI : NN a := ⟨ha⟩; haveI : NN b := ⟨hb⟩; haveI := T.tx; haveI := T.tn; exact quietB (eq_any a b w)
theorem b_mux (s : Int) (ha : 0 ≤ a) (hb : 0 ≤ b) (T : Tabs w) : Calls Tryd.prog 47 #[.int .u8 s, .int .u8 a, .int .u8 b] w fun e w' => e = .returned (.int .u8 (muxI s a b)) ∧ Below w.heap.size w w' := by
  haveI : NN a := ⟨ha⟩; haveI : NN b := ⟨hb⟩; haveI := T.tb; haveI := T.tc; exact quietB (mux_any s a b w)
theorem b_not (ha : 0 ≤ a) (T : Tabs w) : Calls Tryd.prog 85 #[.int .u8 a] w fun e w' => e = .returned (.int .u8 (notI a)) ∧ Below w.heap.size w w' := by
  haveI : NN a := ⟨ha⟩; haveI := T.tn; exact quietB (not_any a w)
theorem b_buf (ha : 0 ≤ a) (T : Tabs w) : Calls Tryd.prog 81 #[.int .u8 a] w fun e w' => e = .returned (.int .u8 (bufI a)) ∧ Below w.heap.size w w' := by
  haveI : NN a := ⟨ha⟩; haveI := T.tb; exact quietB (buf_any a w)
end
theorem fn_and {w : World} (T : Tabs w) : Fn2 w 68 #[] andI := fun W _ _ hb h0 h1 => b_and W h0 h1 (T.step hb)
theorem fn_or {w : World} (T : Tabs w) : Fn2 w 78 #[] orI := fun W _ _ hb h0 h1 => b_or W h0 h1 (T.step hb)
theorem fn_xor {w : World} (T : Tabs w) : Fn2 w 87 #[] xorI := fun W _ _ hb h0 h1 => b_xor W h0 h1 (T.step hb)
theorem fn_eq {w : World} (T : Tabs w) : Fn2 w 59 #[] eqI := fun W _ _ hb h0 h1 => b_eq W h0 h1 (T.step hb)
theorem ent_and : Ent 68 := enters_of Tryd.func68 (by kernel_rfl) rfl
theorem ent_or : Ent 78 := enters_of Tryd.func78 (by kernel_rfl) rfl
theorem ent_xor : Ent 87 := enters_of Tryd.func87 (by kernel_rfl) rfl
theorem ent_eq : Ent 59 := enters_of Tryd.func59 (by kernel_rfl) rfl
end Go.Proofs.YtognpmggfplekaaDoor
