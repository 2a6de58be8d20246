/-
  Contracts of the statements' own functions of, sof. Conditions: texts of at most a thousand characters.
-/
import Derived.Test.YtgojnpblhfbdpaaGreatDoorQo
namespace Go.Proofs.YtgojnpblhfbdpaaGreatDoor
open Go Go.RowKit

def chI (c : UInt8) : Int := if c.toNat = 49 then 1 else if c.toNat = 120 then 2 else if c.toNat = 122 then 3 else 0
def ofF (s : ByteArray) (i : Nat) : Int := chI (s.data.toList.getD (s.size - 1 - i) 0)
def ofL (s : ByteArray) : List Int := tab s.size (ofF s)
set_option maxRecDepth 100000 in
theorem chI_bd (c : UInt8) : 0 ≤ chI c ∧ chI c ≤ 3 := by unfold chI; (repeat' split) <;> decide
set_option maxRecDepth 100000 in
theorem ofF_at {s : ByteArray} {j k : Nat} (h : k < s.size) (e : s.size - 1 - j = k) : ofF s j = chI s[k] := by
  unfold ofF; rw [e, List.getD_eq_getElem?_getD, List.getElem?_eq_getElem (by simpa using h)]; rfl
end Go.Proofs.YtgojnpblhfbdpaaGreatDoor
