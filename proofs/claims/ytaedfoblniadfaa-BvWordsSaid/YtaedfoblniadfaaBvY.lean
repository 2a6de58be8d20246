/-
  Long of one, two and three vectors; a vector of zeros that was just made. No conditions.
-/
import Derived.Test.YtaedfoblniadfaaBvU
namespace Go.Proofs.Ytaedfoblniadfaa
open Go Go.RowKit

theorem rd_zero (w : World) (n : Nat) : Rd (w.alloc (.cells (ba n 0) 4)) (some ⟨w.heap.size, 0, none⟩) n 0 := Rd.of_own (Own.new w _ _) (pow_p n)
theorem long_any (b o l cap : Nat) (f : Nat → Nat) (w : World) (h : Lens w b o l f) (hl : l ≤ 1000) (p : Bool) (hp : p = true ↔ ∃ j, j < l ∧ 140 < f j) :
    Calls Try.prog 13 #[.slice (some ⟨b, o, none⟩) l cap] w fun e w' => e = .returned (.bool p) ∧ w = w' := by
  cases p
  · exact long_false b o l cap f w h hl fun i hi => by
      rcases Nat.lt_or_ge 140 (f i) with h1 | h1
      · have := hp.2 ⟨i, hi, h1⟩; cases this
      · exact h1
  · obtain ⟨j, hj, h1⟩ := hp.1 rfl
    exact long_true b o l cap j f w h hl hj h1
theorem lens1 (w : World) (A : Option Addr) (n c : Nat) : Lens (w.alloc (.cells #[.slice A n c] 22)) w.heap.size 0 1 (fun _ => n) := by
  have o := Own.new w 22 #[.slice A n c]
  intro i hi
  obtain rfl : i = 0 := by omega
  exact ⟨_, _, o.cell 0⟩
theorem lens2 (w : World) (A B : Option Addr) (n c m d : Nat) : Lens (w.alloc (.cells #[.slice A n c, .slice B m d] 22)) w.heap.size 0 2 (fun i => if i = 0 then n else m) := by
  have o := Own.new w 22 #[.slice A n c, .slice B m d]
  intro i hi
  rcases (show i = 0 ∨ i = 1 by omega) with rfl | rfl
  · exact ⟨_, _, o.cell 0⟩
  · exact ⟨_, _, o.cell 1⟩
theorem lens3 (w : World) (A B C : Option Addr) (n c m d l e : Nat) : Lens (w.alloc (.cells #[.slice A n c, .slice B m d, .slice C l e] 22)) w.heap.size 0 3 (fun i => if i = 0 then n else if i = 1 then m else l) := by
  have o := Own.new w 22 #[.slice A n c, .slice B m d, .slice C l e]
  intro i hi
  rcases (show i = 0 ∨ i = 1 ∨ i = 2 by omega) with rfl | rfl | rfl
  · exact ⟨_, _, o.cell 0⟩
  · exact ⟨_, _, o.cell 1⟩
  · exact ⟨_, _, o.cell 2⟩
theorem long1 (A : Option Addr) (n c : Nat) (w : World) (p : Bool) (hp : p = true ↔ 140 < n) :
    Calls Try.prog 13 #[.slice (some ⟨w.heap.size, 0, none⟩) 1 1] (w.alloc (.cells #[.slice A n c] 22)) fun e w' => e = .returned (.bool p) ∧ w.alloc (.cells #[.slice A n c] 22) = w' :=
  long_any _ _ _ _ _ _ (lens1 w A n c) (by decide) p (hp.trans ⟨fun h => ⟨0, by decide, h⟩, fun ⟨_, _, h⟩ => h⟩)
theorem long2 (A B : Option Addr) (n c m d : Nat) (w : World) (p : Bool) (hp : p = true ↔ (140 < n ∨ 140 < m)) :
    Calls Try.prog 13 #[.slice (some ⟨w.heap.size, 0, none⟩) 2 2] (w.alloc (.cells #[.slice A n c, .slice B m d] 22)) fun e w' => e = .returned (.bool p) ∧ w.alloc (.cells #[.slice A n c, .slice B m d] 22) = w' :=
  long_any _ _ _ _ _ _ (lens2 w A B n c m d) (by decide) p (hp.trans ⟨fun h => by
    rcases h with h | h
    · exact ⟨0, by decide, h⟩
    · exact ⟨1, by decide, h⟩, fun ⟨j, hj, h⟩ => by
    rcases (show j = 0 ∨ j = 1 by omega) with rfl | rfl
    · exact .inl h
    · exact .inr h⟩)
theorem long3 (A B C : Option Addr) (n c m d l e : Nat) (w : World) (p : Bool) (hp : p = true ↔ (140 < n ∨ 140 < m ∨ 140 < l)) :
    Calls Try.prog 13 #[.slice (some ⟨w.heap.size, 0, none⟩) 3 3] (w.alloc (.cells #[.slice A n c, .slice B m d, .slice C l e] 22)) fun en w' => en = .returned (.bool p) ∧ w.alloc (.cells #[.slice A n c, .slice B m d, .slice C l e] 22) = w' :=
  long_any _ _ _ _ _ _ (lens3 w A B C n c m d l e) (by decide) p (hp.trans ⟨fun h => by
    rcases h with h | h | h
    · exact ⟨0, by decide, h⟩
    · exact ⟨1, by decide, h⟩
    · exact ⟨2, by decide, h⟩, fun ⟨j, hj, h⟩ => by
    rcases (show j = 0 ∨ j = 1 ∨ j = 2 by omega) with rfl | rfl | rfl
    · exact .inl h
    · exact .inr (.inl h)
    · exact .inr (.inr h)⟩)
theorem ring9' {n x : Nat} (hx : x < 2 ^ n) (hn : n ≤ 1) : (x * fi 1 n) % 2 ^ n = x := by
  rcases (show n = 0 ∨ n = 1 by omega) with rfl | rfl
  · have : x = 0 := by simpa using hx
    subst this; simp
  · exact ring9 hx
end Go.Proofs.Ytaedfoblniadfaa
