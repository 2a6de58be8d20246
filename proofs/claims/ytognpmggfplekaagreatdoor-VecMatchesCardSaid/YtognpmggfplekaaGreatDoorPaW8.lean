/-
  Contracts of the statements' own functions below, refines, ones, twos. Conditions: at most a million bits, the tables of package bit read as the program lays them.
-/
import Derived.Test.YtognpmggfplekaaGreatDoorPaW7
set_option maxRecDepth 100000
namespace Go.Proofs.YtognpmggfplekaaGreatDoor
open Go Go.RowKit

def belB (x y : List Int) (i : Nat) : Bool := leqB (bufI (nth x i)) (bufI (nth y i))
def belL (x y : List Int) (n : Nat) : Bool := (List.range n).all (belB x y)
def belV (a b : V) : Bool := a.s == b.s && (a.l.length == b.l.length && belL a.l b.l a.l.length)
theorem belV_iff (a b : V) : belV a b = true ↔ a.s = b.s ∧ a.l.length = b.l.length ∧ ∀ i, i < a.l.length → belB a.l b.l i = true := by
  unfold belV belL
  rw [Bool.and_eq_true, Bool.and_eq_true, beq_iff_eq, beq_iff_eq, List.all_eq_true]
  exact ⟨fun ⟨h1, h2, h3⟩ => ⟨h1, h2, fun i hi => h3 i (List.mem_range.2 hi)⟩, fun ⟨h1, h2, h3⟩ => ⟨h1, h2, fun i hi => h3 i (List.mem_range.1 hi)⟩⟩
end Go.Proofs.YtognpmggfplekaaGreatDoor
