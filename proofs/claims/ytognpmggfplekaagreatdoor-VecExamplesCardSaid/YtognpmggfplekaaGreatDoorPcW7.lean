/-
  A region whose order is open in which variables of the call's own are made and stored into: 'x, y := f(a), g(b)'. No conditions beyond those of 'region_l'.
-/
import Derived.Test.YtognpmggfplekaaGreatDoorPcW6
set_option maxRecDepth 100000
namespace Go.Proofs.YtognpmggfplekaaGreatDoor
open Go Go.RowKit

section
variable {P : Program} {ops : Array Oper} {Q : Exit → Act → World → Prop}
end

/-! Predicates for such regions. -/
def filled (B : Nat) (x : V) : Value → Value → World → Prop := fun _ v2 u => ∃ g A n c, v2 = .pointer (some ⟨g, 0, none⟩) ∧ B ≤ g ∧ Own u g 24 #[.slice A n c, .bool x.s] ∧ n ≤ c ∧ n ≤ 1000 ∧ Rb u A n x.l
end Go.Proofs.YtognpmggfplekaaGreatDoor
