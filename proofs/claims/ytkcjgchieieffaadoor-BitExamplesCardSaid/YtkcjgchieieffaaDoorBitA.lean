/-
  The functions of package bit and of its reference over the seat's translation: plain functions on integers and one contract a function. Conditions: arguments are not negative ('NN'), and the seven tables read as the program lays them ('Tabs').
-/
import Derived.Test.YtkcjgchieieffaaDoorProg
import Derived.WalkKit
import Derived.Deep.QuietTactic
import Derived.BigQuiet
import Derived.Lib.Hide
namespace Go.Proofs.YtkcjgchieieffaaDoor
open Go Go.RowKit

def stI (a : Int) : Int := if a > 3 then 2 else a
def tabI (l : List Int) (k : Int) : Int := l.getD k.toNat 2
def andI (a b : Int) : Int := tabI [0, 0, 0, 0, 0, 1, 2, 2, 0, 2, 2, 2, 0, 2, 2, 2] (4 * stI a + stI b)
def orI (a b : Int) : Int := tabI [0, 1, 2, 2, 1, 1, 1, 1, 2, 1, 2, 2, 2, 1, 2, 2] (4 * stI a + stI b)
def xorI (a b : Int) : Int := tabI [0, 1, 2, 2, 1, 0, 2, 2, 2, 2, 2, 2, 2, 2, 2, 2] (4 * stI a + stI b)
def comI (a b : Int) : Int := tabI [0, 2, 2, 2, 2, 1, 2, 2, 2, 2, 2, 2, 2, 2, 2, 2] (4 * stI a + stI b)
def notI (a : Int) : Int := tabI [1, 0, 2, 2] (stI a)
def bufI (a : Int) : Int := tabI [0, 1, 2, 2] (stI a)
def chrI (a : Int) : Int := tabI [48, 49, 120, 122] (stI a)
def muxI (s a b : Int) : Int := if s = 0 then bufI b else if s = 1 then bufI a else comI a b
def eqI (a b : Int) : Int := notI (xorI a b)
def knownB (a : Int) : Bool := a == 0 || a == 1
def validB (a : Int) : Bool := decide (a ≤ 3)
def sameB (a b : Int) : Bool := stI a == stI b
def leqB (a b : Int) : Bool := sameB a b || (!knownB a && knownB b)
def fromI (v : Bool) : Int := if v then 1 else 0
def parI (c : Int) : Int := if c = 48 then 0 else if c = 49 then 1 else if c = 120 ∨ c = 88 then 2 else if c = 122 ∨ c = 90 ∨ c = 63 then 3 else 0
def parB (c : Int) : Bool := decide (c = 48 ∨ c = 49 ∨ c = 120 ∨ c = 88 ∨ c = 122 ∨ c = 90 ∨ c = 63)

/-- A bit is not negative. -/
class NN (a : Int) : Prop where
  nn : 0 ≤ a
instance : NN 0 := ⟨by decide⟩
instance : NN 1 := ⟨by decide⟩
instance : NN 2 := ⟨by decide⟩
instance : NN 3 := ⟨by decide⟩
instance : NN 4 := ⟨by decide⟩
instance : NN 9 := ⟨by decide⟩
instance : NN 255 := ⟨by decide⟩
theorem tabI_nn (l : List Int) (h : ∀ x ∈ l, 0 ≤ x) (k : Int) : 0 ≤ tabI l k := by
  unfold tabI
  rw [List.getD_eq_getElem?_getD]
  by_cases hk : k.toNat < l.length
  · rw [List.getElem?_eq_getElem hk]
    exact h _ (List.getElem_mem _)
  · rw [List.getElem?_eq_none (by omega)]
    decide
theorem nn_of_wf {a : Int} (h : (Lit.int .u8 a).wf = true) : NN a := ⟨by simp [Lit.wf, IntKind.min, IntKind.max, IntKind.signed, IntKind.bits] at h; omega⟩
instance (a b : Int) : NN (andI a b) := ⟨tabI_nn _ (by decide) _⟩
instance (a b : Int) : NN (orI a b) := ⟨tabI_nn _ (by decide) _⟩
instance (a b : Int) : NN (xorI a b) := ⟨tabI_nn _ (by decide) _⟩
instance (a : Int) : NN (notI a) := ⟨tabI_nn _ (by decide) _⟩
instance (a : Int) : NN (bufI a) := ⟨tabI_nn _ (by decide) _⟩
instance (v : Bool) : NN (fromI v) := ⟨by cases v <;> decide⟩
instance (c : Int) : NN (parI c) := ⟨by unfold parI; (repeat' split) <;> decide⟩

/-! What the walks need of memory: the seven tables' cells. -/
class TNot (w : World) : Prop where
  not : ∀ k < 4, w.cell? ⟨0, k, none⟩ = some (.int .u8 (tabI [1, 0, 2, 2] k))
instance {w : World} [T : TNot w] (n : Nat) : TNot (w.drewN n) := ⟨fun k h => by simpa using T.not k h⟩
class TBuf (w : World) : Prop where
  buf : ∀ k < 4, w.cell? ⟨1, k, none⟩ = some (.int .u8 (tabI [0, 1, 2, 2] k))
instance {w : World} [T : TBuf w] (n : Nat) : TBuf (w.drewN n) := ⟨fun k h => by simpa using T.buf k h⟩
class TChr (w : World) : Prop where
  chr : ∀ k < 4, w.cell? ⟨2, k, none⟩ = some (.int .u8 (tabI [48, 49, 120, 122] k))
instance {w : World} [T : TChr w] (n : Nat) : TChr (w.drewN n) := ⟨fun k h => by simpa using T.chr k h⟩
class TAnd (w : World) : Prop where
  and : ∀ k < 16, w.cell? ⟨3, k, none⟩ = some (.int .u8 (tabI [0, 0, 0, 0, 0, 1, 2, 2, 0, 2, 2, 2, 0, 2, 2, 2] k))
instance {w : World} [T : TAnd w] (n : Nat) : TAnd (w.drewN n) := ⟨fun k h => by simpa using T.and k h⟩
class TOr (w : World) : Prop where
  or : ∀ k < 16, w.cell? ⟨4, k, none⟩ = some (.int .u8 (tabI [0, 1, 2, 2, 1, 1, 1, 1, 2, 1, 2, 2, 2, 1, 2, 2] k))
instance {w : World} [T : TOr w] (n : Nat) : TOr (w.drewN n) := ⟨fun k h => by simpa using T.or k h⟩
class TXor (w : World) : Prop where
  xor : ∀ k < 16, w.cell? ⟨5, k, none⟩ = some (.int .u8 (tabI [0, 1, 2, 2, 1, 0, 2, 2, 2, 2, 2, 2, 2, 2, 2, 2] k))
instance {w : World} [T : TXor w] (n : Nat) : TXor (w.drewN n) := ⟨fun k h => by simpa using T.xor k h⟩
class TCom (w : World) : Prop where
  com : ∀ k < 16, w.cell? ⟨6, k, none⟩ = some (.int .u8 (tabI [0, 2, 2, 2, 2, 1, 2, 2, 2, 2, 2, 2, 2, 2, 2, 2] k))
instance {w : World} [T : TCom w] (n : Nat) : TCom (w.drewN n) := ⟨fun k h => by simpa using T.com k h⟩

theorem stI_cases (a : Int) [h : NN a] : stI a = 0 ∨ stI a = 1 ∨ stI a = 2 ∨ stI a = 3 := by have := h.nn; unfold stI; split <;> omega
theorem stI_fix (a : Int) (h : stI a = 0 ∨ stI a = 1 ∨ stI a = 3) : stI a = a := by
  unfold stI at h ⊢; split <;> simp_all
theorem ret_u8 {k : IntKind} {a b : Int} (h : a = b) : Ending.returned (.int k a) = .returned (.int k b) := by rw [h]
theorem ret_bool {a b : Bool} (h : a = b) : Ending.returned (.bool a) = .returned (.bool b) := by rw [h]

theorem state_any (a : Int) (w : World) : Calls Tryd.prog 39 #[.int .u8 a] w fun e w' => e = .returned (.int .u8 (stI a)) ∧ w' = w := by
  unfold stI
  by_cases h : a > 3
  · rw [if_pos h]
    go_enter Tryd.func39, Tryd.ntmps39
    go_wp2
    go_ret
    exact ⟨rfl, rfl⟩
  · rw [if_neg h]
    go_enter Tryd.func39, Tryd.ntmps39
    go_wp2
    go_ret
    exact ⟨rfl, rfl⟩
theorem norm_any (a : Int) (w : World) : Calls Tryd.prog 40 #[.int .u8 a] w fun e w' => e = .returned (.int .u8 (stI a)) ∧ w' = w := by
  unfold stI
  by_cases h : a > 3
  · rw [if_pos h]
    go_enter Tryd.func40, Tryd.ntmps40
    go_wp2
    go_ret
    exact ⟨rfl, rfl⟩
  · rw [if_neg h]
    go_enter Tryd.func40, Tryd.ntmps40
    go_wp2
    go_ret
    exact ⟨rfl, rfl⟩

theorem not_any (a : Int) (w : World) [NN a] [T : TNot w] : Calls Tryd.prog 14 #[.int .u8 a] w fun e w' => e = .returned (.int .u8 (notI a)) ∧ ∃ m, w' = w.drewN m := by
  have hs := stI_cases a
  have c0 := T.not 0 (by decide)
  have c1 := T.not 1 (by decide)
  have c2 := T.not 2 (by decide)
  have c3 := T.not 3 (by decide)
  have S := state_any a
  unfold notI
  clear T
  generalize stI a = s at *
  rcases hs with rfl | rfl | rfl | rfl
  all_goals
    go_enter Tryd.func14, Tryd.ntmps14
    go_wp2_with (go_at_call 39; refine (S _).mono ?_; rintro e w' ⟨rfl, rfl⟩)
    go_ret
    exact ⟨rfl, 0, rfl⟩

theorem buf_any (a : Int) (w : World) [NN a] [T : TBuf w] : Calls Tryd.prog 16 #[.int .u8 a] w fun e w' => e = .returned (.int .u8 (bufI a)) ∧ ∃ m, w' = w.drewN m := by
  have hs := stI_cases a
  have c0 := T.buf 0 (by decide)
  have c1 := T.buf 1 (by decide)
  have c2 := T.buf 2 (by decide)
  have c3 := T.buf 3 (by decide)
  have S := state_any a
  unfold bufI
  clear T
  generalize stI a = s at *
  rcases hs with rfl | rfl | rfl | rfl
  all_goals
    go_enter Tryd.func16, Tryd.ntmps16
    go_wp2_with (go_at_call 39; refine (S _).mono ?_; rintro e w' ⟨rfl, rfl⟩)
    go_ret
    exact ⟨rfl, 0, rfl⟩

theorem chr_any (a : Int) (w : World) [NN a] [T : TChr w] : Calls Tryd.prog 18 #[.int .u8 a] w fun e w' => e = .returned (.int .u8 (chrI a)) ∧ ∃ m, w' = w.drewN m := by
  have hs := stI_cases a
  have c0 := T.chr 0 (by decide)
  have c1 := T.chr 1 (by decide)
  have c2 := T.chr 2 (by decide)
  have c3 := T.chr 3 (by decide)
  have S := state_any a
  unfold chrI
  clear T
  generalize stI a = s at *
  rcases hs with rfl | rfl | rfl | rfl
  all_goals
    go_enter Tryd.func18, Tryd.ntmps18
    go_wp2_with (go_at_call 39; refine (S _).mono ?_; rintro e w' ⟨rfl, rfl⟩)
    go_ret
    exact ⟨rfl, 0, rfl⟩

set_option maxHeartbeats 4000000 in
theorem and_any (a b : Int) (w : World) [NN a] [NN b] [T : TAnd w] : Calls Tryd.prog 20 #[.int .u8 a, .int .u8 b] w fun e w' => e = .returned (.int .u8 (andI a b)) ∧ ∃ m, w' = w.drewN m := by
  have hs := stI_cases a
  have ht := stI_cases b
  have S := fun w => state_any a w
  have R := fun w => state_any b w
  unfold andI
  have c0 := T.and 0 (by decide)
  have c1 := T.and 1 (by decide)
  have c2 := T.and 2 (by decide)
  have c3 := T.and 3 (by decide)
  have c4 := T.and 4 (by decide)
  have c5 := T.and 5 (by decide)
  have c6 := T.and 6 (by decide)
  have c7 := T.and 7 (by decide)
  have c8 := T.and 8 (by decide)
  have c9 := T.and 9 (by decide)
  have c10 := T.and 10 (by decide)
  have c11 := T.and 11 (by decide)
  have c12 := T.and 12 (by decide)
  have c13 := T.and 13 (by decide)
  have c14 := T.and 14 (by decide)
  have c15 := T.and 15 (by decide)
  clear T
  generalize stI a = s at *
  generalize stI b = t at *
  have S := Lib.hid S
  have R := Lib.hid R
  rcases hs with rfl | rfl | rfl | rfl <;> rcases ht with rfl | rfl | rfl | rfl
  all_goals
    go_enter Tryd.func20, Tryd.ntmps20
    go_wp2
    go_quiet ((go_at_call 39; first | (with_reducible exact Calls.quiet_of_same (S.out _)) | (with_reducible exact Calls.quiet_of_same (R.out _))))
    go_wp2
    go_ret
    exact ⟨rfl, _, rfl⟩

set_option maxHeartbeats 4000000 in
theorem or_any (a b : Int) (w : World) [NN a] [NN b] [T : TOr w] : Calls Tryd.prog 22 #[.int .u8 a, .int .u8 b] w fun e w' => e = .returned (.int .u8 (orI a b)) ∧ ∃ m, w' = w.drewN m := by
  have hs := stI_cases a
  have ht := stI_cases b
  have S := fun w => state_any a w
  have R := fun w => state_any b w
  unfold orI
  have c0 := T.or 0 (by decide)
  have c1 := T.or 1 (by decide)
  have c2 := T.or 2 (by decide)
  have c3 := T.or 3 (by decide)
  have c4 := T.or 4 (by decide)
  have c5 := T.or 5 (by decide)
  have c6 := T.or 6 (by decide)
  have c7 := T.or 7 (by decide)
  have c8 := T.or 8 (by decide)
  have c9 := T.or 9 (by decide)
  have c10 := T.or 10 (by decide)
  have c11 := T.or 11 (by decide)
  have c12 := T.or 12 (by decide)
  have c13 := T.or 13 (by decide)
  have c14 := T.or 14 (by decide)
  have c15 := T.or 15 (by decide)
  clear T
  generalize stI a = s at *
  generalize stI b = t at *
  have S := Lib.hid S
  have R := Lib.hid R
  rcases hs with rfl | rfl | rfl | rfl <;> rcases ht with rfl | rfl | rfl | rfl
  all_goals
    go_enter Tryd.func22, Tryd.ntmps22
    go_wp2
    go_quiet ((go_at_call 39; first | (with_reducible exact Calls.quiet_of_same (S.out _)) | (with_reducible exact Calls.quiet_of_same (R.out _))))
    go_wp2
    go_ret
    exact ⟨rfl, _, rfl⟩

set_option maxHeartbeats 4000000 in
theorem xor_any (a b : Int) (w : World) [NN a] [NN b] [T : TXor w] : Calls Tryd.prog 24 #[.int .u8 a, .int .u8 b] w fun e w' => e = .returned (.int .u8 (xorI a b)) ∧ ∃ m, w' = w.drewN m := by
  have hs := stI_cases a
  have ht := stI_cases b
  have S := fun w => state_any a w
  have R := fun w => state_any b w
  unfold xorI
  have c0 := T.xor 0 (by decide)
  have c1 := T.xor 1 (by decide)
  have c2 := T.xor 2 (by decide)
  have c3 := T.xor 3 (by decide)
  have c4 := T.xor 4 (by decide)
  have c5 := T.xor 5 (by decide)
  have c6 := T.xor 6 (by decide)
  have c7 := T.xor 7 (by decide)
  have c8 := T.xor 8 (by decide)
  have c9 := T.xor 9 (by decide)
  have c10 := T.xor 10 (by decide)
  have c11 := T.xor 11 (by decide)
  have c12 := T.xor 12 (by decide)
  have c13 := T.xor 13 (by decide)
  have c14 := T.xor 14 (by decide)
  have c15 := T.xor 15 (by decide)
  clear T
  generalize stI a = s at *
  generalize stI b = t at *
  have S := Lib.hid S
  have R := Lib.hid R
  rcases hs with rfl | rfl | rfl | rfl <;> rcases ht with rfl | rfl | rfl | rfl
  all_goals
    go_enter Tryd.func24, Tryd.ntmps24
    go_wp2
    go_quiet ((go_at_call 39; first | (with_reducible exact Calls.quiet_of_same (S.out _)) | (with_reducible exact Calls.quiet_of_same (R.out _))))
    go_wp2
    go_ret
    exact ⟨rfl, _, rfl⟩

set_option maxHeartbeats 4000000 in
theorem mux_com (x a b : Int) (w : World) [NN a] [NN b] [T : TCom w] (hx0 : (x == 0) = false) (hx1 : (x == 1) = false) : Calls Tryd.prog 32 #[.int .u8 x, .int .u8 a, .int .u8 b] w fun e w' => e = .returned (.int .u8 (comI a b)) ∧ ∃ m, w' = w.drewN m := by
  have hs := stI_cases a
  have ht := stI_cases b
  have S := fun w => state_any a w
  have R := fun w => state_any b w
  unfold comI
  have c0 := T.com 0 (by decide)
  have c1 := T.com 1 (by decide)
  have c2 := T.com 2 (by decide)
  have c3 := T.com 3 (by decide)
  have c4 := T.com 4 (by decide)
  have c5 := T.com 5 (by decide)
  have c6 := T.com 6 (by decide)
  have c7 := T.com 7 (by decide)
  have c8 := T.com 8 (by decide)
  have c9 := T.com 9 (by decide)
  have c10 := T.com 10 (by decide)
  have c11 := T.com 11 (by decide)
  have c12 := T.com 12 (by decide)
  have c13 := T.com 13 (by decide)
  have c14 := T.com 14 (by decide)
  have c15 := T.com 15 (by decide)
  clear T
  generalize stI a = s at *
  generalize stI b = t at *
  have S := Lib.hid S
  have R := Lib.hid R
  rcases hs with rfl | rfl | rfl | rfl <;> rcases ht with rfl | rfl | rfl | rfl
  all_goals
    go_enter Tryd.func32, Tryd.ntmps32
    go_wp2
    go_quiet ((go_at_call 39; first | (with_reducible exact Calls.quiet_of_same (S.out _)) | (with_reducible exact Calls.quiet_of_same (R.out _))))
    go_wp2
    go_ret
    exact ⟨rfl, _, rfl⟩
theorem mux_any (x a b : Int) (w : World) [NN a] [NN b] [TBuf w] [TCom w] : Calls Tryd.prog 32 #[.int .u8 x, .int .u8 a, .int .u8 b] w fun e w' => e = .returned (.int .u8 (muxI x a b)) ∧ ∃ m, w' = w.drewN m := by
  unfold muxI
  by_cases h0 : x = 0
  · subst h0
    rw [if_pos rfl]
    go_enter Tryd.func32, Tryd.ntmps32
    go_wp2_with (go_at_call 16; refine (buf_any _ _).mono ?_; rintro e w' ⟨rfl, m, rfl⟩)
    go_ret
    exact ⟨rfl, _, rfl⟩
  · rw [if_neg h0]
    by_cases h1 : x = 1
    · subst h1
      rw [if_pos rfl]
      go_enter Tryd.func32, Tryd.ntmps32
      go_wp2_with (go_at_call 16; refine (buf_any _ _).mono ?_; rintro e w' ⟨rfl, m, rfl⟩)
      go_ret
      exact ⟨rfl, _, rfl⟩
    · rw [if_neg h1]
      exact mux_com x a b w (by simpa using h0) (by simpa using h1)

theorem valid_any (a : Int) (w : World) : Calls Tryd.prog 11 #[.int .u8 a] w fun e w' => e = .returned (.bool (validB a)) ∧ ∃ m, w' = w.drewN m := by
  go_enter Tryd.func11, Tryd.ntmps11
  go_wp2
  all_goals go_ret
  all_goals exact ⟨rfl, 0, rfl⟩

theorem known_any (a : Int) (w : World) : Calls Tryd.prog 12 #[.int .u8 a] w fun e w' => e = .returned (.bool (knownB a)) ∧ ∃ m, w' = w.drewN m := by
  by_cases h : a = 0
  · subst h
    go_enter Tryd.func12, Tryd.ntmps12
    go_wp2
    go_ret
    exact ⟨rfl, 0, rfl⟩
  · go_enter Tryd.func12, Tryd.ntmps12
    go_wp2
    go_ret
    exact ⟨rfl, 0, rfl⟩
theorem same_any (a b : Int) (w : World) : Calls Tryd.prog 28 #[.int .u8 a, .int .u8 b] w fun e w' => e = .returned (.bool (sameB a b)) ∧ ∃ m, w' = w.drewN m := by
  go_enter Tryd.func28, Tryd.ntmps28
  go_wp2_with (go_at_call 39; refine (state_any _ _).mono ?_; rintro e w' ⟨rfl, rfl⟩)
  all_goals go_ret
  all_goals exact ⟨rfl, 0, rfl⟩
theorem leq_any (a b : Int) (w : World) : Calls Tryd.prog 30 #[.int .u8 a, .int .u8 b] w fun e w' => e = .returned (.bool (leqB a b)) ∧ ∃ m, w' = w.drewN m := by
  unfold leqB
  cases hs : sameB a b
  · cases hk : knownB a
    all_goals
      go_enter Tryd.func30, Tryd.ntmps30
      go_wp2_with (first | (go_at_call 28; refine (same_any _ _ _).mono ?_; rintro e w' ⟨rfl, m, rfl⟩) | (go_at_call 12; refine (known_any _ _).mono ?_; rintro e w' ⟨rfl, m, rfl⟩))
      all_goals go_ret
      all_goals exact ⟨rfl, _, rfl⟩
  · go_enter Tryd.func30, Tryd.ntmps30
    go_wp2_with (first | (go_at_call 28; refine (same_any _ _ _).mono ?_; rintro e w' ⟨rfl, m, rfl⟩) | (go_at_call 12; refine (known_any _ _).mono ?_; rintro e w' ⟨rfl, m, rfl⟩))
    all_goals go_ret
    all_goals exact ⟨rfl, _, rfl⟩
theorem from_any (v : Bool) (w : World) : Calls Tryd.prog 37 #[.bool v] w fun e w' => e = .returned (.int .u8 (fromI v)) ∧ ∃ m, w' = w.drewN m := by
  cases v
  all_goals
    go_enter Tryd.func37, Tryd.ntmps37
    go_wp2
    go_ret
    exact ⟨rfl, 0, rfl⟩

theorem rknown_any (a : Int) (w : World) : Calls Tryd.prog 13 #[.int .u8 a] w fun e w' => e = .returned (.bool (knownB a)) ∧ ∃ m, w' = w.drewN m := by
  by_cases h : a = 0
  · subst h
    go_enter Tryd.func13, Tryd.ntmps13
    go_wp2
    go_ret
    exact ⟨rfl, 0, rfl⟩
  · go_enter Tryd.func13, Tryd.ntmps13
    go_wp2
    go_ret
    exact ⟨rfl, 0, rfl⟩
theorem rsame_any (a b : Int) (w : World) : Calls Tryd.prog 29 #[.int .u8 a, .int .u8 b] w fun e w' => e = .returned (.bool (sameB a b)) ∧ ∃ m, w' = w.drewN m := by
  go_enter Tryd.func29, Tryd.ntmps29
  go_wp2_with (go_at_call 40; refine (norm_any _ _).mono ?_; rintro e w' ⟨rfl, rfl⟩)
  all_goals go_ret
  all_goals exact ⟨rfl, 0, rfl⟩
theorem rleq_any (a b : Int) (w : World) : Calls Tryd.prog 31 #[.int .u8 a, .int .u8 b] w fun e w' => e = .returned (.bool (leqB a b)) ∧ ∃ m, w' = w.drewN m := by
  unfold leqB
  cases hs : sameB a b
  · cases hk : knownB a
    all_goals
      go_enter Tryd.func31, Tryd.ntmps31
      go_wp2_with (first | (go_at_call 29; refine (rsame_any _ _ _).mono ?_; rintro e w' ⟨rfl, m, rfl⟩) | (go_at_call 13; refine (rknown_any _ _).mono ?_; rintro e w' ⟨rfl, m, rfl⟩))
      all_goals go_ret
      all_goals exact ⟨rfl, _, rfl⟩
  · go_enter Tryd.func31, Tryd.ntmps31
    go_wp2_with (first | (go_at_call 29; refine (rsame_any _ _ _).mono ?_; rintro e w' ⟨rfl, m, rfl⟩) | (go_at_call 13; refine (rknown_any _ _).mono ?_; rintro e w' ⟨rfl, m, rfl⟩))
    all_goals go_ret
    all_goals exact ⟨rfl, _, rfl⟩
theorem rfrom_any (v : Bool) (w : World) : Calls Tryd.prog 38 #[.bool v] w fun e w' => e = .returned (.int .u8 (fromI v)) ∧ ∃ m, w' = w.drewN m := by
  cases v
  all_goals
    go_enter Tryd.func38, Tryd.ntmps38
    go_wp2
    go_ret
    exact ⟨rfl, 0, rfl⟩

end Go.Proofs.YtkcjgchieieffaaDoor
