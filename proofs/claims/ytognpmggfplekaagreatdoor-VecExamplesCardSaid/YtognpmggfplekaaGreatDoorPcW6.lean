/-
  Words that the walks of the statements share. No conditions.
-/
import Derived.Test.YtognpmggfplekaaGreatDoorPcW5
set_option maxRecDepth 100000
namespace Go.Proofs.YtognpmggfplekaaGreatDoor
open Go Go.RowKit

theorem sameV_self (a : V) : sameV a a = true := by unfold sameV; simp
end Go.Proofs.YtognpmggfplekaaGreatDoor
