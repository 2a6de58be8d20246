/-
  Contracts of the reference's fit. Conditions: at most a million bits.
  Contracts of the reference's FromBools. Conditions: at most a thousand bits.
  Contracts of the reference's Bools. Conditions: at most a thousand bits.
  Contracts of the reference's Unknown, FromInt, Resize, Int. Conditions: at most a thousand bits.
  Contracts of the reference's Balance. Conditions: at most a million bits.
-/
import Derived.Test.YtognpmggfplekaaGreatDoorPbQo
import Derived.Test.YtognpmggfplekaaGreatDoorPbQg
import Derived.Test.YtognpmggfplekaaGreatDoorPbQk

set_option maxRecDepth 100000
namespace Go.Proofs.YtognpmggfplekaaGreatDoor
open Go Go.RowKit

end Go.Proofs.YtognpmggfplekaaGreatDoor

namespace Go.Proofs.YtognpmggfplekaaGreatDoor
open Go Go.RowKit

theorem fromI_nn (b : Bool) : 0 ≤ fromI b := by cases b <;> decide
section
variable {o : Oper} {a : Act} {w : World} {K : Act → World → Prop} {Q : Exit → Act → World → Prop}
end
end Go.Proofs.YtognpmggfplekaaGreatDoor

namespace Go.Proofs.YtognpmggfplekaaGreatDoor
open Go Go.RowKit

theorem num_snoc : ∀ (l : List Int) (b : Int), num (l ++ [b]) = num l + 2 ^ l.length * (b == 1).toNat
  | [], b => by
    simp only [List.nil_append, num, List.length_nil, Nat.pow_zero]
    by_cases h : b = 1
    · subst h; rfl
    · rw [if_neg h, show (b == 1) = false by simpa using h]; rfl
  | a :: l, b => by
    rw [List.cons_append, num, num_snoc l b, num, List.length_cons, Nat.pow_succ]
    generalize 2 ^ l.length = p
    generalize (b == 1).toNat = q
    rw [Nat.mul_add, Nat.mul_comm p 2, Nat.mul_assoc, Nat.add_assoc]
end Go.Proofs.YtognpmggfplekaaGreatDoor

namespace Go.Proofs.YtognpmggfplekaaGreatDoor
open Go Go.RowKit

end Go.Proofs.YtognpmggfplekaaGreatDoor

namespace Go.Proofs.YtognpmggfplekaaGreatDoor
open Go Go.RowKit

end Go.Proofs.YtognpmggfplekaaGreatDoor
