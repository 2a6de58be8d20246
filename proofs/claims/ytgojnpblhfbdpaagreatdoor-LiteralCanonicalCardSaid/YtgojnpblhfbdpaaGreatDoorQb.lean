/-
  The functions of package bit and of its reference over the seat's translation: one contract a function. Conditions: arguments are not negative ('NN'), and the tables read as the program lays them.
  The tables of package bit as one condition on the world, and the bits' functions in the words of the vectors: what a function value does to bits. No conditions beyond those.
-/
import Derived.Test.YtgojnpblhfbdpaaGreatDoorProg
import Derived.Test.YtgojnpblhfbdpaaGreatDoorQa
import Derived.WalkKit
import Derived.Deep.QuietTactic
import Derived.BigQuiet
import Derived.Shelf.Abstract
import Derived.Lib.Hide

namespace Go.Proofs.YtgojnpblhfbdpaaGreatDoor
open Go Go.RowKit

/-- A bit is not negative. -/
class NN (a : Int) : Prop where
  nn : 0 ≤ a
instance : NN 0 := ⟨by decide⟩
instance : NN 1 := ⟨by decide⟩
instance : NN 2 := ⟨by decide⟩
instance : NN 3 := ⟨by decide⟩
instance : NN 4 := ⟨by decide⟩
instance : NN 9 := ⟨by decide⟩
instance : NN 255 := ⟨by decide⟩
theorem tabI_nn (l : List Int) (h : ∀ x ∈ l, 0 ≤ x) (k : Int) : 0 ≤ tabI l k := by
  unfold tabI
  rw [List.getD_eq_getElem?_getD]
  by_cases hk : k.toNat < l.length
  · rw [List.getElem?_eq_getElem hk]
    exact h _ (List.getElem_mem _)
  · rw [List.getElem?_eq_none (by omega)]
    decide
theorem nn_of_wf {a : Int} (h : (Lit.int .u8 a).wf = true) : NN a := ⟨by simp [Lit.wf, IntKind.min, IntKind.max, IntKind.signed, IntKind.bits] at h; omega⟩
instance (a b : Int) : NN (andI a b) := ⟨tabI_nn _ (by decide) _⟩
instance (a b : Int) : NN (orI a b) := ⟨tabI_nn _ (by decide) _⟩
instance (a b : Int) : NN (xorI a b) := ⟨tabI_nn _ (by decide) _⟩
instance (a : Int) : NN (notI a) := ⟨tabI_nn _ (by decide) _⟩
instance (a : Int) : NN (bufI a) := ⟨tabI_nn _ (by decide) _⟩
instance (v : Bool) : NN (fromI v) := ⟨by cases v <;> decide⟩
theorem stI_cases (a : Int) [h : NN a] : stI a = 0 ∨ stI a = 1 ∨ stI a = 2 ∨ stI a = 3 := by have := h.nn; unfold stI; split <;> omega
theorem stI_fix (a : Int) (h : stI a = 0 ∨ stI a = 1 ∨ stI a = 3) : stI a = a := by
  unfold stI at h ⊢; split <;> simp_all
theorem ret_u8 {k : IntKind} {a b : Int} (h : a = b) : Ending.returned (.int k a) = .returned (.int k b) := by rw [h]
theorem ret_bool {a b : Bool} (h : a = b) : Ending.returned (.bool a) = .returned (.bool b) := by rw [h]

theorem state_any (a : Int) (w : World) : Calls Tryz.prog 147 #[.int .u8 a] w fun e w' => e = .returned (.int .u8 (stI a)) ∧ w' = w := by
  unfold stI
  by_cases h : a > 3
  · rw [if_pos h]
    go_enter Tryz.func147, Tryz.ntmps147
    go_wp2
    go_ret
    exact ⟨rfl, rfl⟩
  · rw [if_neg h]
    go_enter Tryz.func147, Tryz.ntmps147
    go_wp2
    go_ret
    exact ⟨rfl, rfl⟩
theorem valid_any (a : Int) (w : World) : Calls Tryz.prog 63 #[.int .u8 a] w fun e w' => e = .returned (.bool (validB a)) ∧ ∃ m, w' = w.drewN m := by
  go_enter Tryz.func63, Tryz.ntmps63
  go_wp2
  all_goals go_ret
  all_goals exact ⟨rfl, 0, rfl⟩

theorem known_any (a : Int) (w : World) : Calls Tryz.prog 36 #[.int .u8 a] w fun e w' => e = .returned (.bool (knownB a)) ∧ ∃ m, w' = w.drewN m := by
  by_cases h : a = 0
  · subst h
    go_enter Tryz.func36, Tryz.ntmps36
    go_wp2
    go_ret
    exact ⟨rfl, 0, rfl⟩
  · go_enter Tryz.func36, Tryz.ntmps36
    go_wp2
    go_ret
    exact ⟨rfl, 0, rfl⟩
theorem same_any (a b : Int) (w : World) : Calls Tryz.prog 116 #[.int .u8 a, .int .u8 b] w fun e w' => e = .returned (.bool (sameB a b)) ∧ ∃ m, w' = w.drewN m := by
  go_enter Tryz.func116, Tryz.ntmps116
  go_wp2_with (go_at_call 147; refine (state_any _ _).mono ?_; rintro e w' ⟨rfl, rfl⟩)
  all_goals go_ret
  all_goals exact ⟨rfl, 0, rfl⟩
theorem leq_any (a b : Int) (w : World) : Calls Tryz.prog 73 #[.int .u8 a, .int .u8 b] w fun e w' => e = .returned (.bool (leqB a b)) ∧ ∃ m, w' = w.drewN m := by
  unfold leqB
  cases hs : sameB a b
  · cases hk : knownB a
    all_goals
      go_enter Tryz.func73, Tryz.ntmps73
      go_wp2_with (first | (go_at_call 116; refine (same_any _ _ _).mono ?_; rintro e w' ⟨rfl, m, rfl⟩) | (go_at_call 36; refine (known_any _ _).mono ?_; rintro e w' ⟨rfl, m, rfl⟩))
      all_goals go_ret
      all_goals exact ⟨rfl, _, rfl⟩
  · go_enter Tryz.func73, Tryz.ntmps73
    go_wp2_with (first | (go_at_call 116; refine (same_any _ _ _).mono ?_; rintro e w' ⟨rfl, m, rfl⟩) | (go_at_call 36; refine (known_any _ _).mono ?_; rintro e w' ⟨rfl, m, rfl⟩))
    all_goals go_ret
    all_goals exact ⟨rfl, _, rfl⟩
theorem from_any (v : Bool) (w : World) : Calls Tryz.prog 115 #[.bool v] w fun e w' => e = .returned (.int .u8 (fromI v)) ∧ ∃ m, w' = w.drewN m := by
  cases v
  all_goals
    go_enter Tryz.func115, Tryz.ntmps115
    go_wp2
    go_ret
    exact ⟨rfl, 0, rfl⟩

theorem rknown_any (a : Int) (w : World) : Calls Tryz.prog 105 #[.int .u8 a] w fun e w' => e = .returned (.bool (knownB a)) ∧ ∃ m, w' = w.drewN m := by
  by_cases h : a = 0
  · subst h
    go_enter Tryz.func105, Tryz.ntmps105
    go_wp2
    go_ret
    exact ⟨rfl, 0, rfl⟩
  · go_enter Tryz.func105, Tryz.ntmps105
    go_wp2
    go_ret
    exact ⟨rfl, 0, rfl⟩
theorem rfrom_any (v : Bool) (w : World) : Calls Tryz.prog 117 #[.bool v] w fun e w' => e = .returned (.int .u8 (fromI v)) ∧ ∃ m, w' = w.drewN m := by
  cases v
  all_goals
    go_enter Tryz.func117, Tryz.ntmps117
    go_wp2
    go_ret
    exact ⟨rfl, 0, rfl⟩




theorem andI_eq (a b : Int) [ha : NN a] [hb : NN b] : andI a b = if a = 0 ∨ b = 0 then 0 else if a = 1 ∧ b = 1 then 1 else 2 := by
  have ha := ha.nn
  have hb := hb.nn
  have hA : a = 0 ∨ a = 1 ∨ a = 2 ∨ a = 3 ∨ a > 3 := by omega
  have hB : b = 0 ∨ b = 1 ∨ b = 2 ∨ b = 3 ∨ b > 3 := by omega
  have sA : a > 3 → stI a = 2 := fun h => if_pos h
  have sB : b > 3 → stI b = 2 := fun h => if_pos h
  unfold andI
  rcases hA with rfl | rfl | rfl | rfl | h0 <;> rcases hB with rfl | rfl | rfl | rfl | h1
  all_goals first
    | decide
    | (rw [sA h0, sB h1]; refine Eq.trans (b := 2) (by decide) ?_; simp; omega)
    | (rw [sA h0, sB h1]; refine Eq.trans (b := 2) (by decide) ?_; rw [if_neg (by omega), if_neg (by omega)])
    | (simp only [sA h0]; simp [stI, tabI]; try omega)
    | (simp only [sB h1]; simp [stI, tabI]; try omega)

theorem orI_eq (a b : Int) [ha : NN a] [hb : NN b] : orI a b = if a = 1 ∨ b = 1 then 1 else if a = 0 ∧ b = 0 then 0 else 2 := by
  have ha := ha.nn
  have hb := hb.nn
  have hA : a = 0 ∨ a = 1 ∨ a = 2 ∨ a = 3 ∨ a > 3 := by omega
  have hB : b = 0 ∨ b = 1 ∨ b = 2 ∨ b = 3 ∨ b > 3 := by omega
  have sA : a > 3 → stI a = 2 := fun h => if_pos h
  have sB : b > 3 → stI b = 2 := fun h => if_pos h
  unfold orI
  rcases hA with rfl | rfl | rfl | rfl | h0 <;> rcases hB with rfl | rfl | rfl | rfl | h1
  all_goals first
    | decide
    | (rw [sA h0, sB h1]; refine Eq.trans (b := 2) (by decide) ?_; simp; omega)
    | (rw [sA h0, sB h1]; refine Eq.trans (b := 2) (by decide) ?_; rw [if_neg (by omega), if_neg (by omega)])
    | (simp only [sA h0]; simp [stI, tabI]; try omega)
    | (simp only [sB h1]; simp [stI, tabI]; try omega)

theorem xorI_eq (a b : Int) [ha : NN a] [hb : NN b] : xorI a b = if knownB a = false ∨ knownB b = false then 2 else if a = b then 0 else 1 := by
  have ha := ha.nn
  have hb := hb.nn
  have hA : a = 0 ∨ a = 1 ∨ a = 2 ∨ a = 3 ∨ a > 3 := by omega
  have hB : b = 0 ∨ b = 1 ∨ b = 2 ∨ b = 3 ∨ b > 3 := by omega
  have sA : a > 3 → stI a = 2 := fun h => if_pos h
  have sB : b > 3 → stI b = 2 := fun h => if_pos h
  unfold xorI
  rcases hA with rfl | rfl | rfl | rfl | h0 <;> rcases hB with rfl | rfl | rfl | rfl | h1
  all_goals first
    | decide
    | (rw [sA h0, sB h1]; refine Eq.trans (b := 2) (by decide) ?_; simp [knownB]; omega)
    | (rw [sA h0, sB h1]; refine Eq.trans (b := 2) (by decide) ?_; rw [if_neg (by omega), if_neg (by omega)])
    | (simp only [sA h0]; simp [stI, tabI, knownB]; try omega)
    | (simp only [sB h1]; simp [stI, tabI, knownB]; try omega)

theorem comI_eq (a b : Int) [ha : NN a] [hb : NN b] : comI a b = if knownB a = true ∧ a = b then a else 2 := by
  have ha := ha.nn
  have hb := hb.nn
  have hA : a = 0 ∨ a = 1 ∨ a = 2 ∨ a = 3 ∨ a > 3 := by omega
  have hB : b = 0 ∨ b = 1 ∨ b = 2 ∨ b = 3 ∨ b > 3 := by omega
  have sA : a > 3 → stI a = 2 := fun h => if_pos h
  have sB : b > 3 → stI b = 2 := fun h => if_pos h
  unfold comI
  rcases hA with rfl | rfl | rfl | rfl | h0 <;> rcases hB with rfl | rfl | rfl | rfl | h1
  all_goals first
    | decide
    | (rw [sA h0, sB h1]; refine Eq.trans (b := 2) (by decide) ?_; simp [knownB]; omega)
    | (rw [sA h0, sB h1]; refine Eq.trans (b := 2) (by decide) ?_; rw [if_neg (by omega), if_neg (by omega)])
    | (simp only [sA h0]; simp [stI, tabI, knownB]; try omega)
    | (simp only [sB h1]; simp [stI, tabI, knownB]; try omega)

theorem bufI_eq (a : Int) [ha : NN a] : bufI a = if knownB a = true then a else 2 := by
  have ha := ha.nn
  obtain rfl | rfl | rfl | rfl | h : a = 0 ∨ a = 1 ∨ a = 2 ∨ a = 3 ∨ a > 3 := by omega
  all_goals first
    | decide
    | (unfold bufI; rw [show stI a = 2 from if_pos h]; simp [tabI, knownB]; omega)
theorem notI_eq (a : Int) [ha : NN a] : notI a = if a = 0 then 1 else if a = 1 then 0 else 2 := by
  have ha := ha.nn
  obtain rfl | rfl | rfl | rfl | h : a = 0 ∨ a = 1 ∨ a = 2 ∨ a = 3 ∨ a > 3 := by omega
  all_goals first
    | decide
    | (unfold notI; rw [show stI a = 2 from if_pos h, if_neg (by omega), if_neg (by omega)]; rfl)

end Go.Proofs.YtgojnpblhfbdpaaGreatDoor

namespace Go.Proofs.YtgojnpblhfbdpaaGreatDoor
open Go Go.RowKit

theorem cell_lt {w : World} {b o : Nat} {v : Value} (h : w.cell? ⟨b, o, none⟩ = some v) : b < w.heap.size := by
  rcases Nat.lt_or_ge b w.heap.size with h1 | h1
  · exact h1
  · have h2 : w.heap[b]? = none := Array.getElem?_eq_none h1
    unfold World.cell? at h
    rw [show w.heap[(⟨b, o, none⟩ : Addr).block]? = none from h2] at h
    simp at h
theorem cell_step {w u : World} (hb : Below w.heap.size w u) {b o : Nat} {v : Value} (h : w.cell? ⟨b, o, none⟩ = some v) : u.cell? ⟨b, o, none⟩ = some v := (hb.cell (p := ⟨b, o, none⟩) (cell_lt h)).trans h
theorem below_drew {B : Nat} {a w : World} (h : Below B a w) : Below B a w.drew := ⟨h.os, h.tape, h.output, h.size, h.block⟩
theorem below_of_drew {w b : World} (h : Below w.drew.heap.size w.drew b) : Below w.heap.size w b := ⟨h.os, h.tape, h.output, h.size, h.block⟩
theorem below_last {W w u : World} (h : Below w.heap.size w u) (k : Below W.heap.size W w) : Below W.heap.size W u := below_step k h

/-- A call of function g enters it. -/
def Ent (g : Nat) : Prop := ∀ (args : Array Value) (w : World), (callFunc g args).run Tryz.prog w = .ok (.enter g args) w
/-- The function value computes f on two bits, in every world in which all that lay in w lies. -/
def Fn2 (w : World) (g : Nat) (lb : Array Value) (f : Int → Int → Int) : Prop := ∀ W a b, Below w.heap.size w W → 0 ≤ a → 0 ≤ b →
  Calls Tryz.prog g (#[.int .u8 a, .int .u8 b] ++ lb) W fun e w' => e = .returned (.int .u8 (f a b)) ∧ Below W.heap.size W w'
/-- .. and f i, for every index below n. -/
def Gt (w : World) (n : Nat) (g : Nat) (lb : Array Value) (f : Nat → Int) : Prop := ∀ W (i : Nat), i < n → Below w.heap.size w W →
  Calls Tryz.prog g (#[.int .i64 i] ++ lb) W fun e w' => e = .returned (.int .u8 (f i)) ∧ Below W.heap.size W w'
theorem Fn2.step {w u : World} {g : Nat} {lb : Array Value} {f : Int → Int → Int} (h : Fn2 w g lb f) (hb : Below w.heap.size w u) : Fn2 u g lb f := fun W a b hW => h W a b (below_step hb hW)
theorem Gt.step {w u : World} {n g : Nat} {lb : Array Value} {f : Nat → Int} (h : Gt w n g lb f) (hb : Below w.heap.size w u) : Gt u n g lb f := fun W i hi hW => h W i hi (below_step hb hW)
theorem quietB {g : Nat} {args : Array Value} {w : World} {v : Value} (h : Calls Tryz.prog g args w fun e w' => e = .returned v ∧ ∃ m, w' = w.drewN m) : Calls Tryz.prog g args w fun e w' => e = .returned v ∧ Below w.heap.size w w' :=
  h.mono fun _ _ ⟨he, m, hw⟩ => ⟨he, hw ▸ below_drewN (Below.refl _ _) m⟩

section
variable {a b s : Int} (w : World)
end
end Go.Proofs.YtgojnpblhfbdpaaGreatDoor
