/-
  Contracts of the program's span, Slice. No conditions.
  Contracts of the program's Put. No conditions.
  Contracts of the program's Pow. No conditions.
-/
import Derived.Test.YtgojnpblhfbdpaaGreatDoorQk
import Derived.IntWalk
import Derived.Test.YtgojnpblhfbdpaaGreatDoorQh

namespace Go.Proofs.YtgojnpblhfbdpaaGreatDoor
open Go Go.RowKit

def spW (hi lo : Int) : Int := if hi < lo then 0 else if 128 ≤ hi - lo then 0 else hi - lo + 1
def spE (hi lo : Int) : Int := if hi < lo then 1 else if 128 ≤ hi - lo then 12 else 0
def I64 (z : Int) : Prop := -9223372036854775808 ≤ z ∧ z ≤ 9223372036854775807
set_option maxRecDepth 100000 in
theorem dist_wrap {hi lo : Int} (hh : I64 hi) (hl : I64 lo) (h : lo ≤ hi) : IntKind.u64.wrap (IntKind.u64.wrap hi - IntKind.u64.wrap lo) = hi - lo := by
  unfold I64 at hh hl
  simp [IntKind.wrap, IntKind.signed, IntKind.bits]
  omega
set_option maxRecDepth 100000 in
theorem spW_ok {hi lo : Int} (h : spE hi lo = 0) : ∃ k : Nat, spW hi lo = k ∧ 1 ≤ k ∧ k ≤ 128 ∧ hi = lo + k - 1 := by
  unfold spE spW at *
  by_cases h1 : hi < lo
  · rw [if_pos h1] at h; cases h
  · rw [if_neg h1] at *
    by_cases h2 : 128 ≤ hi - lo
    · rw [if_pos h2] at h; cases h
    · rw [if_neg h2]
      exact ⟨(hi - lo + 1).toNat, by omega, by omega, by omega, by omega⟩
def slF (l : List Int) (lo : Int) (i : Nat) : Int := atI l (lo + i) 2
def slV (v : V) (hi lo : Int) : V := if spE hi lo = 0 then ⟨tab (spW hi lo).toNat (slF (nrm v).l lo), false⟩ else nilV
end Go.Proofs.YtgojnpblhfbdpaaGreatDoor

namespace Go.Proofs.YtgojnpblhfbdpaaGreatDoor
open Go Go.RowKit

def ptF (x y : List Int) (hi lo : Int) (i : Nat) : Int := if i < lo ∨ hi < i then nth x i else nth y (i - lo).toNat
def putV (a : V) (hi lo : Int) (b : V) : V := if spE hi lo = 0 then ⟨tab (nrm a).l.length (ptF (nrm a).l (fitV (nrm b) (spW hi lo).toNat).l hi lo), (nrm a).s⟩ else nilV
end Go.Proofs.YtgojnpblhfbdpaaGreatDoor

namespace Go.Proofs.YtgojnpblhfbdpaaGreatDoor
open Go Go.RowKit

set_option maxRecDepth 100000 in
theorem iVal_no {v : V} (h : iOk v = false) : iVal v = 0 := by
  unfold iOk at h
  unfold iVal
  cases hk : kn v
  · rfl
  · rw [hk] at h
    simp only [Bool.true_and] at h
    rw [if_pos rfl]
    unfold B.iOk at h
    unfold B.iVal
    rw [if_neg (by simpa using h)]
def powZ (ok : Bool) (z : Int) (N : Nat) (S : Bool) (p : Nat) : V := if ok = true ∧ z = 0 then allV 2 N S else if z ≠ 1 ∧ z ≠ -1 then allV 0 N S else ⟨frN N p, S⟩
def powV (a b : V) : V := if knL (nrm a).l && knL (nrm b).l then (if fill (nrm b) == 1 then powZ (iOk (nrm a)) (iVal (nrm a)) (nrm a).l.length (nrm a).s ((num (nrm a).l ^ num (nrm b).l) % 2 ^ (nrm a).l.length) else ⟨frN (nrm a).l.length ((num (nrm a).l ^ num (nrm b).l) % 2 ^ (nrm a).l.length), (nrm a).s⟩) else allV 2 (nrm a).l.length (nrm a).s
end Go.Proofs.YtgojnpblhfbdpaaGreatDoor
