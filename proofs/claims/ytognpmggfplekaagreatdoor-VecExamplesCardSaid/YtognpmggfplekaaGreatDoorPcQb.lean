/-
  The functions of package bit and of its reference over the seat's translation: one contract a function. Conditions: arguments are not negative ('NN'), and the tables read as the program lays them.
  The tables of package bit as one condition on the world, and the bits' functions in the words of the vectors: what a function value does to bits. No conditions beyond those.
-/
import Derived.Test.YtognpmggfplekaaGreatDoorProg
import Derived.Test.YtognpmggfplekaaGreatDoorPcQa
import Derived.WalkKit
import Derived.Deep.QuietTactic
import Derived.BigQuiet
import Derived.Shelf.Abstract
import Derived.Lib.Hide

set_option maxRecDepth 100000
namespace Go.Proofs.YtognpmggfplekaaGreatDoor
open Go Go.RowKit

class NN (a : Int) : Prop where
  nn : 0 ≤ a
theorem tabI_nn (l : List Int) (h : ∀ x ∈ l, 0 ≤ x) (k : Int) : 0 ≤ tabI l k := by
  unfold tabI
  rw [List.getD_eq_getElem?_getD]
  by_cases hk : k.toNat < l.length
  · rw [List.getElem?_eq_getElem hk]
    exact h _ (List.getElem_mem _)
  · rw [List.getElem?_eq_none (by omega)]
    decide
instance (a b : Int) : NN (xorI a b) := ⟨tabI_nn _ (by decide) _⟩
/-! What the walks need of memory: the seven tables' cells. -/
class TNot (w : World) : Prop where
  not : ∀ k < 4, w.cell? ⟨2, k, none⟩ = some (.int .u8 (tabI [1, 0, 2, 2] k))
instance {w : World} [T : TNot w] (n : Nat) : TNot (w.drewN n) := ⟨fun k h => by simpa using T.not k h⟩
class TBuf (w : World) : Prop where
  buf : ∀ k < 4, w.cell? ⟨5, k, none⟩ = some (.int .u8 (tabI [0, 1, 2, 2] k))
class TAnd (w : World) : Prop where
  and : ∀ k < 16, w.cell? ⟨3, k, none⟩ = some (.int .u8 (tabI [0, 0, 0, 0, 0, 1, 2, 2, 0, 2, 2, 2, 0, 2, 2, 2] k))
class TOr (w : World) : Prop where
  or : ∀ k < 16, w.cell? ⟨0, k, none⟩ = some (.int .u8 (tabI [0, 1, 2, 2, 1, 1, 1, 1, 2, 1, 2, 2, 2, 1, 2, 2] k))
class TXor (w : World) : Prop where
  xor : ∀ k < 16, w.cell? ⟨4, k, none⟩ = some (.int .u8 (tabI [0, 1, 2, 2, 1, 0, 2, 2, 2, 2, 2, 2, 2, 2, 2, 2] k))
class TCom (w : World) : Prop where
  com : ∀ k < 16, w.cell? ⟨1, k, none⟩ = some (.int .u8 (tabI [0, 2, 2, 2, 2, 1, 2, 2, 2, 2, 2, 2, 2, 2, 2, 2] k))

theorem stI_cases (a : Int) [h : NN a] : stI a = 0 ∨ stI a = 1 ∨ stI a = 2 ∨ stI a = 3 := by have := h.nn; unfold stI; split <;> omega

theorem state_any (a : Int) (w : World) : Calls Tryz.prog 195 #[.int .u8 a] w fun e w' => e = .returned (.int .u8 (stI a)) ∧ w' = w := by
  unfold stI
  by_cases h : a > 3
  · rw [if_pos h]
    go_enter Tryz.func195, Tryz.ntmps195
    go_wp2
    go_ret
    exact ⟨rfl, rfl⟩
  · rw [if_neg h]
    go_enter Tryz.func195, Tryz.ntmps195
    go_wp2
    go_ret
    exact ⟨rfl, rfl⟩

theorem not_any (a : Int) (w : World) [NN a] [T : TNot w] : Calls Tryz.prog 148 #[.int .u8 a] w fun e w' => e = .returned (.int .u8 (notI a)) ∧ ∃ m, w' = w.drewN m := by
  have hs := stI_cases a
  have c0 := T.not 0 (by decide)
  have c1 := T.not 1 (by decide)
  have c2 := T.not 2 (by decide)
  have c3 := T.not 3 (by decide)
  have S := state_any a
  unfold notI
  clear T
  generalize stI a = s at *
  rcases hs with rfl | rfl | rfl | rfl
  all_goals
    go_enter Tryz.func148, Tryz.ntmps148
    go_wp2_with (go_at_call 195; refine (S _).mono ?_; rintro e w' ⟨rfl, rfl⟩)
    go_ret
    exact ⟨rfl, 0, rfl⟩

theorem buf_any (a : Int) (w : World) [NN a] [T : TBuf w] : Calls Tryz.prog 171 #[.int .u8 a] w fun e w' => e = .returned (.int .u8 (bufI a)) ∧ ∃ m, w' = w.drewN m := by
  have hs := stI_cases a
  have c0 := T.buf 0 (by decide)
  have c1 := T.buf 1 (by decide)
  have c2 := T.buf 2 (by decide)
  have c3 := T.buf 3 (by decide)
  have S := state_any a
  unfold bufI
  clear T
  generalize stI a = s at *
  rcases hs with rfl | rfl | rfl | rfl
  all_goals
    go_enter Tryz.func171, Tryz.ntmps171
    go_wp2_with (go_at_call 195; refine (S _).mono ?_; rintro e w' ⟨rfl, rfl⟩)
    go_ret
    exact ⟨rfl, 0, rfl⟩

set_option maxHeartbeats 4000000 in
theorem and_any (a b : Int) (w : World) [NN a] [NN b] [T : TAnd w] : Calls Tryz.prog 162 #[.int .u8 a, .int .u8 b] w fun e w' => e = .returned (.int .u8 (andI a b)) ∧ ∃ m, w' = w.drewN m := by
  have hs := stI_cases a
  have ht := stI_cases b
  have S := fun w => state_any a w
  have R := fun w => state_any b w
  unfold andI
  have c0 := T.and 0 (by decide)
  have c1 := T.and 1 (by decide)
  have c2 := T.and 2 (by decide)
  have c3 := T.and 3 (by decide)
  have c4 := T.and 4 (by decide)
  have c5 := T.and 5 (by decide)
  have c6 := T.and 6 (by decide)
  have c7 := T.and 7 (by decide)
  have c8 := T.and 8 (by decide)
  have c9 := T.and 9 (by decide)
  have c10 := T.and 10 (by decide)
  have c11 := T.and 11 (by decide)
  have c12 := T.and 12 (by decide)
  have c13 := T.and 13 (by decide)
  have c14 := T.and 14 (by decide)
  have c15 := T.and 15 (by decide)
  clear T
  generalize stI a = s at *
  generalize stI b = t at *
  have S := Lib.hid S
  have R := Lib.hid R
  rcases hs with rfl | rfl | rfl | rfl <;> rcases ht with rfl | rfl | rfl | rfl
  all_goals
    go_enter Tryz.func162, Tryz.ntmps162
    go_wp2
    go_quiet ((go_at_call 195; first | (with_reducible exact Calls.quiet_of_same (S.out _)) | (with_reducible exact Calls.quiet_of_same (R.out _))))
    go_wp2
    go_ret
    exact ⟨rfl, _, rfl⟩

set_option maxHeartbeats 4000000 in
theorem or_any (a b : Int) (w : World) [NN a] [NN b] [T : TOr w] : Calls Tryz.prog 127 #[.int .u8 a, .int .u8 b] w fun e w' => e = .returned (.int .u8 (orI a b)) ∧ ∃ m, w' = w.drewN m := by
  have hs := stI_cases a
  have ht := stI_cases b
  have S := fun w => state_any a w
  have R := fun w => state_any b w
  unfold orI
  have c0 := T.or 0 (by decide)
  have c1 := T.or 1 (by decide)
  have c2 := T.or 2 (by decide)
  have c3 := T.or 3 (by decide)
  have c4 := T.or 4 (by decide)
  have c5 := T.or 5 (by decide)
  have c6 := T.or 6 (by decide)
  have c7 := T.or 7 (by decide)
  have c8 := T.or 8 (by decide)
  have c9 := T.or 9 (by decide)
  have c10 := T.or 10 (by decide)
  have c11 := T.or 11 (by decide)
  have c12 := T.or 12 (by decide)
  have c13 := T.or 13 (by decide)
  have c14 := T.or 14 (by decide)
  have c15 := T.or 15 (by decide)
  clear T
  generalize stI a = s at *
  generalize stI b = t at *
  have S := Lib.hid S
  have R := Lib.hid R
  rcases hs with rfl | rfl | rfl | rfl <;> rcases ht with rfl | rfl | rfl | rfl
  all_goals
    go_enter Tryz.func127, Tryz.ntmps127
    go_wp2
    go_quiet ((go_at_call 195; first | (with_reducible exact Calls.quiet_of_same (S.out _)) | (with_reducible exact Calls.quiet_of_same (R.out _))))
    go_wp2
    go_ret
    exact ⟨rfl, _, rfl⟩

set_option maxHeartbeats 4000000 in
theorem xor_any (a b : Int) (w : World) [NN a] [NN b] [T : TXor w] : Calls Tryz.prog 163 #[.int .u8 a, .int .u8 b] w fun e w' => e = .returned (.int .u8 (xorI a b)) ∧ ∃ m, w' = w.drewN m := by
  have hs := stI_cases a
  have ht := stI_cases b
  have S := fun w => state_any a w
  have R := fun w => state_any b w
  unfold xorI
  have c0 := T.xor 0 (by decide)
  have c1 := T.xor 1 (by decide)
  have c2 := T.xor 2 (by decide)
  have c3 := T.xor 3 (by decide)
  have c4 := T.xor 4 (by decide)
  have c5 := T.xor 5 (by decide)
  have c6 := T.xor 6 (by decide)
  have c7 := T.xor 7 (by decide)
  have c8 := T.xor 8 (by decide)
  have c9 := T.xor 9 (by decide)
  have c10 := T.xor 10 (by decide)
  have c11 := T.xor 11 (by decide)
  have c12 := T.xor 12 (by decide)
  have c13 := T.xor 13 (by decide)
  have c14 := T.xor 14 (by decide)
  have c15 := T.xor 15 (by decide)
  clear T
  generalize stI a = s at *
  generalize stI b = t at *
  have S := Lib.hid S
  have R := Lib.hid R
  rcases hs with rfl | rfl | rfl | rfl <;> rcases ht with rfl | rfl | rfl | rfl
  all_goals
    go_enter Tryz.func163, Tryz.ntmps163
    go_wp2
    go_quiet ((go_at_call 195; first | (with_reducible exact Calls.quiet_of_same (S.out _)) | (with_reducible exact Calls.quiet_of_same (R.out _))))
    go_wp2
    go_ret
    exact ⟨rfl, _, rfl⟩

set_option maxHeartbeats 4000000 in
theorem mux_com (x a b : Int) (w : World) [NN a] [NN b] [T : TCom w] (hx0 : (x == 0) = false) (hx1 : (x == 1) = false) : Calls Tryz.prog 145 #[.int .u8 x, .int .u8 a, .int .u8 b] w fun e w' => e = .returned (.int .u8 (comI a b)) ∧ ∃ m, w' = w.drewN m := by
  have hs := stI_cases a
  have ht := stI_cases b
  have S := fun w => state_any a w
  have R := fun w => state_any b w
  unfold comI
  have c0 := T.com 0 (by decide)
  have c1 := T.com 1 (by decide)
  have c2 := T.com 2 (by decide)
  have c3 := T.com 3 (by decide)
  have c4 := T.com 4 (by decide)
  have c5 := T.com 5 (by decide)
  have c6 := T.com 6 (by decide)
  have c7 := T.com 7 (by decide)
  have c8 := T.com 8 (by decide)
  have c9 := T.com 9 (by decide)
  have c10 := T.com 10 (by decide)
  have c11 := T.com 11 (by decide)
  have c12 := T.com 12 (by decide)
  have c13 := T.com 13 (by decide)
  have c14 := T.com 14 (by decide)
  have c15 := T.com 15 (by decide)
  clear T
  generalize stI a = s at *
  generalize stI b = t at *
  have S := Lib.hid S
  have R := Lib.hid R
  rcases hs with rfl | rfl | rfl | rfl <;> rcases ht with rfl | rfl | rfl | rfl
  all_goals
    go_enter Tryz.func145, Tryz.ntmps145
    go_wp2
    go_quiet ((go_at_call 195; first | (with_reducible exact Calls.quiet_of_same (S.out _)) | (with_reducible exact Calls.quiet_of_same (R.out _))))
    go_wp2
    go_ret
    exact ⟨rfl, _, rfl⟩
theorem mux_any (x a b : Int) (w : World) [NN a] [NN b] [TBuf w] [TCom w] : Calls Tryz.prog 145 #[.int .u8 x, .int .u8 a, .int .u8 b] w fun e w' => e = .returned (.int .u8 (muxI x a b)) ∧ ∃ m, w' = w.drewN m := by
  unfold muxI
  by_cases h0 : x = 0
  · subst h0
    rw [if_pos rfl]
    go_enter Tryz.func145, Tryz.ntmps145
    go_wp2_with (go_at_call 171; refine (buf_any _ _).mono ?_; rintro e w' ⟨rfl, m, rfl⟩)
    go_ret
    exact ⟨rfl, _, rfl⟩
  · rw [if_neg h0]
    by_cases h1 : x = 1
    · subst h1
      rw [if_pos rfl]
      go_enter Tryz.func145, Tryz.ntmps145
      go_wp2_with (go_at_call 171; refine (buf_any _ _).mono ?_; rintro e w' ⟨rfl, m, rfl⟩)
      go_ret
      exact ⟨rfl, _, rfl⟩
    · rw [if_neg h1]
      exact mux_com x a b w (by simpa using h0) (by simpa using h1)

theorem valid_any (a : Int) (w : World) : Calls Tryz.prog 119 #[.int .u8 a] w fun e w' => e = .returned (.bool (validB a)) ∧ ∃ m, w' = w.drewN m := by
  go_enter Tryz.func119, Tryz.ntmps119
  go_wp2
  all_goals go_ret
  all_goals exact ⟨rfl, 0, rfl⟩

theorem known_any (a : Int) (w : World) : Calls Tryz.prog 110 #[.int .u8 a] w fun e w' => e = .returned (.bool (knownB a)) ∧ ∃ m, w' = w.drewN m := by
  by_cases h : a = 0
  · subst h
    go_enter Tryz.func110, Tryz.ntmps110
    go_wp2
    go_ret
    exact ⟨rfl, 0, rfl⟩
  · go_enter Tryz.func110, Tryz.ntmps110
    go_wp2
    go_ret
    exact ⟨rfl, 0, rfl⟩
theorem same_any (a b : Int) (w : World) : Calls Tryz.prog 172 #[.int .u8 a, .int .u8 b] w fun e w' => e = .returned (.bool (sameB a b)) ∧ ∃ m, w' = w.drewN m := by
  go_enter Tryz.func172, Tryz.ntmps172
  go_wp2_with (go_at_call 195; refine (state_any _ _).mono ?_; rintro e w' ⟨rfl, rfl⟩)
  all_goals go_ret
  all_goals exact ⟨rfl, 0, rfl⟩
theorem leq_any (a b : Int) (w : World) : Calls Tryz.prog 85 #[.int .u8 a, .int .u8 b] w fun e w' => e = .returned (.bool (leqB a b)) ∧ ∃ m, w' = w.drewN m := by
  unfold leqB
  cases hs : sameB a b
  · cases hk : knownB a
    all_goals
      go_enter Tryz.func85, Tryz.ntmps85
      go_wp2_with (first | (go_at_call 172; refine (same_any _ _ _).mono ?_; rintro e w' ⟨rfl, m, rfl⟩) | (go_at_call 110; refine (known_any _ _).mono ?_; rintro e w' ⟨rfl, m, rfl⟩))
      all_goals go_ret
      all_goals exact ⟨rfl, _, rfl⟩
  · go_enter Tryz.func85, Tryz.ntmps85
    go_wp2_with (first | (go_at_call 172; refine (same_any _ _ _).mono ?_; rintro e w' ⟨rfl, m, rfl⟩) | (go_at_call 110; refine (known_any _ _).mono ?_; rintro e w' ⟨rfl, m, rfl⟩))
    all_goals go_ret
    all_goals exact ⟨rfl, _, rfl⟩
theorem from_any (v : Bool) (w : World) : Calls Tryz.prog 92 #[.bool v] w fun e w' => e = .returned (.int .u8 (fromI v)) ∧ ∃ m, w' = w.drewN m := by
  cases v
  all_goals
    go_enter Tryz.func92, Tryz.ntmps92
    go_wp2
    go_ret
    exact ⟨rfl, 0, rfl⟩












theorem eq_any (a b : Int) (w : World) [NN a] [NN b] [TXor w] [TNot w] : Calls Tryz.prog 175 #[.int .u8 a, .int .u8 b] w fun e w' => e = .returned (.int .u8 (eqI a b)) ∧ ∃ m, w' = w.drewN m := by
  go_enter Tryz.func175, Tryz.ntmps175
  go_wp2_with (first | (go_at_call 163; refine (xor_any _ _ _).mono ?_; rintro e w' ⟨rfl, m, rfl⟩) | (go_at_call 148; refine (not_any _ _).mono ?_; rintro e w' ⟨rfl, m, rfl⟩))
  go_ret
  exact ⟨rfl, _, rfl⟩

end Go.Proofs.YtognpmggfplekaaGreatDoor

namespace Go.Proofs.YtognpmggfplekaaGreatDoor
open Go Go.RowKit

class Tabs (w : World) : Prop where
  tn : TNot w
  tb : TBuf w
  ta : TAnd w
  to : TOr w
  tx : TXor w
  tc : TCom w
theorem cell_lt {w : World} {b o : Nat} {v : Value} (h : w.cell? ⟨b, o, none⟩ = some v) : b < w.heap.size := by
  rcases Nat.lt_or_ge b w.heap.size with h1 | h1
  · exact h1
  · have h2 : w.heap[b]? = none := Array.getElem?_eq_none h1
    unfold World.cell? at h
    rw [show w.heap[(⟨b, o, none⟩ : Addr).block]? = none from h2] at h
    simp at h
theorem cell_step {w u : World} (hb : Below w.heap.size w u) {b o : Nat} {v : Value} (h : w.cell? ⟨b, o, none⟩ = some v) : u.cell? ⟨b, o, none⟩ = some v := (hb.cell (p := ⟨b, o, none⟩) (cell_lt h)).trans h
theorem Tabs.step {w u : World} (T : Tabs w) (hb : Below w.heap.size w u) : Tabs u :=
  ⟨⟨fun k h => cell_step hb (T.tn.not k h)⟩, ⟨fun k h => cell_step hb (T.tb.buf k h)⟩, ⟨fun k h => cell_step hb (T.ta.and k h)⟩, ⟨fun k h => cell_step hb (T.to.or k h)⟩, ⟨fun k h => cell_step hb (T.tx.xor k h)⟩, ⟨fun k h => cell_step hb (T.tc.com k h)⟩⟩
theorem Tabs.at_later {w u : World} (hb : Below w.heap.size w u) (T : Tabs w) : Tabs u := T.step hb
theorem Tabs.alloc {w : World} (T : Tabs w) (o : Obj) : Tabs (w.alloc o) := T.step (below_new (Below.refl _ _) o)
theorem below_drew {B : Nat} {a w : World} (h : Below B a w) : Below B a w.drew := ⟨h.os, h.tape, h.output, h.size, h.block⟩
theorem below_of_drew {w b : World} (h : Below w.drew.heap.size w.drew b) : Below w.heap.size w b := ⟨h.os, h.tape, h.output, h.size, h.block⟩
theorem Tabs.drew {w : World} (T : Tabs w) : Tabs w.drew := T.step (below_drew (Below.refl _ _))

def Ent (g : Nat) : Prop := ∀ (args : Array Value) (w : World), (callFunc g args).run Tryz.prog w = .ok (.enter g args) w
def Fn2 (w : World) (g : Nat) (lb : Array Value) (f : Int → Int → Int) : Prop := ∀ W a b, Below w.heap.size w W → 0 ≤ a → 0 ≤ b →
  Calls Tryz.prog g (#[.int .u8 a, .int .u8 b] ++ lb) W fun e w' => e = .returned (.int .u8 (f a b)) ∧ Below W.heap.size W w'
def Gt (w : World) (n : Nat) (g : Nat) (lb : Array Value) (f : Nat → Int) : Prop := ∀ W (i : Nat), i < n → Below w.heap.size w W →
  Calls Tryz.prog g (#[.int .i64 i] ++ lb) W fun e w' => e = .returned (.int .u8 (f i)) ∧ Below W.heap.size W w'
theorem quietB {g : Nat} {args : Array Value} {w : World} {v : Value} (h : Calls Tryz.prog g args w fun e w' => e = .returned v ∧ ∃ m, w' = w.drewN m) : Calls Tryz.prog g args w fun e w' => e = .returned v ∧ Below w.heap.size w w' :=
  h.mono fun _ _ ⟨he, m, hw⟩ => ⟨he, hw ▸ below_drewN (Below.refl _ _) m⟩

section
variable {a b s : Int} (w : World)
theorem b_and (ha : 0 ≤ a) (hb : 0 ≤ b) (T : Tabs w) : Calls Tryz.prog 162 #[.int .u8 a, .int .u8 b] w fun e w' => e = .returned (.int .u8 (andI a b)) ∧ Below w.heap.size w w' := by
  haveI : NN a := ⟨ha⟩; haveI : NN b := ⟨hb⟩; haveI := T.ta; exact quietB (and_any a b w)
theorem b_or (ha : 0 ≤ a) (hb : 0 ≤ b) (T : Tabs w) : Calls Tryz.prog 127 #[.int .u8 a, .int .u8 b] w fun e w' => e = .returned (.int .u8 (orI a b)) ∧ Below w.heap.size w w' := by
  haveI : NN a := ⟨ha⟩; haveI : NN b := ⟨hb⟩; haveI := T.to; exact quietB (or_any a b w)
theorem b_xor (ha : 0 ≤ a) (hb : 0 ≤ b) (T : Tabs w) : Calls Tryz.prog 163 #[.int .u8 a, .int .u8 b] w fun e w' => e = .returned (.int .u8 (xorI a b)) ∧ Below w.heap.size w w' := by
  haveI : NN a := ⟨ha⟩; haveI : NN b := ⟨hb⟩; haveI := T.tx; exact quietB (xor_any a b w)
theorem b_eq (ha : 0 ≤ a) (hb : 0 ≤ b) (T : Tabs w) : Calls Tryz.prog 175 #[.int .u8 a, .int .u8 b] w fun e w' => e = .returned (.int .u8 (eqI a b)) ∧ Below w.heap.size w w' := by
  haveI : NN a := ⟨ha⟩; haveI : NN b := ⟨hb⟩; haveI := T.tx; haveI := T.tn; exact quietB (eq_any a b w)
theorem b_mux (s : Int) (ha : 0 ≤ a) (hb : 0 ≤ b) (T : Tabs w) : Calls Tryz.prog 145 #[.int .u8 s, .int .u8 a, .int .u8 b] w fun e w' => e = .returned (.int .u8 (muxI s a b)) ∧ Below w.heap.size w w' := by
  haveI : NN a := ⟨ha⟩; haveI : NN b := ⟨hb⟩; haveI := T.tb; haveI := T.tc; exact quietB (mux_any s a b w)
theorem b_not (ha : 0 ≤ a) (T : Tabs w) : Calls Tryz.prog 148 #[.int .u8 a] w fun e w' => e = .returned (.int .u8 (notI a)) ∧ Below w.heap.size w w' := by
  haveI : NN a := ⟨ha⟩; haveI := T.tn; exact quietB (not_any a w)
theorem b_buf (ha : 0 ≤ a) (T : Tabs w) : Calls Tryz.prog 171 #[.int .u8 a] w fun e w' => e = .returned (.int .u8 (bufI a)) ∧ Below w.heap.size w w' := by
  haveI : NN a := ⟨ha⟩; haveI := T.tb; exact quietB (buf_any a w)
end
theorem fn_and {w : World} (T : Tabs w) : Fn2 w 162 #[] andI := fun W _ _ hb h0 h1 => b_and W h0 h1 (T.step hb)
theorem fn_or {w : World} (T : Tabs w) : Fn2 w 127 #[] orI := fun W _ _ hb h0 h1 => b_or W h0 h1 (T.step hb)
theorem fn_xor {w : World} (T : Tabs w) : Fn2 w 163 #[] xorI := fun W _ _ hb h0 h1 => b_xor W h0 h1 (T.step hb)
theorem fn_eq {w : World} (T : Tabs w) : Fn2 w 175 #[] eqI := fun W _ _ hb h0 h1 => b_eq W h0 h1 (T.step hb)
theorem ent_and : Ent 162 := enters_of Tryz.func162 (by kernel_rfl) rfl
theorem ent_or : Ent 127 := enters_of Tryz.func127 (by kernel_rfl) rfl
theorem ent_xor : Ent 163 := enters_of Tryz.func163 (by kernel_rfl) rfl
theorem ent_eq : Ent 175 := enters_of Tryz.func175 (by kernel_rfl) rfl
end Go.Proofs.YtognpmggfplekaaGreatDoor
