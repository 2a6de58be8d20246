/-
  Contracts of the program's bitwise operators, equality and the operators of one bit. No conditions.
  Contracts of the program's comparisons. No conditions.
  Contracts of the program's order relations. No conditions.
  Contracts of the program's matching. No conditions.
-/
import Derived.Test.YtgojnpblhfbdpaaGreatDoorQh
import Derived.Test.YtgojnpblhfbdpaaGreatDoorQf

namespace Go.Proofs.YtgojnpblhfbdpaaGreatDoor
open Go Go.RowKit

set_option maxRecDepth 100000 in
theorem notV_one {z : Int} (h : z ≤ 3) : notV (one1 z) = one1 (notI z) := by
  have e : nrm (one1 z) = one1 z := nrm_of (ok_mk (by simp [one1]) (by simp [one1]) fun i hi => by
    have : i = 0 := by simp [one1] at hi; exact hi
    subst this; exact h)
  unfold notV
  rw [e]
  rfl
/-- Whether two vectors are equal, as far as is known. -/
def eqV (a b : V) : Int := red andI (bwV eqI a b)
set_option maxRecDepth 100000 in
theorem eqV_bd (a b : V) : 0 ≤ eqV a b ∧ eqV a b ≤ 2 := redU_bd andI_bd _ _
end Go.Proofs.YtgojnpblhfbdpaaGreatDoor

namespace Go.Proofs.YtgojnpblhfbdpaaGreatDoor
open Go Go.RowKit

set_option maxRecDepth 100000 in
theorem kn_ok {l : List Int} {s : Bool} (h : okB l = true) : kn ⟨l, s⟩ = knL l := by unfold kn; rw [nrm_of h]
/-- What a function value says of an order. -/
def Hd (g : Nat) (p : Int → Bool) : Prop := ∀ (W : World) (z : Int), Calls Tryz.prog g (#[.int .i64 z] ++ #[]) W fun e w' => e = .returned (.bool (p z)) ∧ Below W.heap.size W w'
def cmpB (S : Bool) (N x y : Nat) : Int := if S then B.cmpI (B.sval N x) (B.sval N y) else B.cmpI x y
def cmpV (p : Int → Bool) (a b : V) : Int := if knL (balL a b).l && knL (balR a b).l then fromI (p (cmpB (balS a b) (balN a b) (num (balL a b).l) (num (balR a b).l))) else 2
set_option maxRecDepth 100000 in
theorem cmpV_bd (p : Int → Bool) (a b : V) : 0 ≤ cmpV p a b ∧ cmpV p a b ≤ 2 := by
  unfold cmpV
  split
  · have := fromI_bd (p (cmpB (balS a b) (balN a b) (num (balL a b).l) (num (balR a b).l))); omega
  · decide
end Go.Proofs.YtgojnpblhfbdpaaGreatDoor

namespace Go.Proofs.YtgojnpblhfbdpaaGreatDoor
open Go Go.RowKit

def pLt (z : Int) : Bool := decide (z < 0)
def pLe (z : Int) : Bool := decide (z ≤ 0)
def pGt (z : Int) : Bool := decide (0 < z)
def pGe (z : Int) : Bool := decide (0 ≤ z)
end Go.Proofs.YtgojnpblhfbdpaaGreatDoor

namespace Go.Proofs.YtgojnpblhfbdpaaGreatDoor
open Go Go.RowKit

def tst (wild : Int → Bool) (x y : List Int) (i : Nat) : Bool := sameB (nth x i) (nth y i) || (wild (nth x i) || wild (nth y i))
set_option maxRecDepth 100000 in
theorem all_next {T : Nat → Bool} {j : Nat} (h : ∀ i, i < j → T i = true) (hj : T j = true) : ∀ i, i < j + 1 → T i = true := fun i hi => by
  rcases Nat.lt_or_ge i j with h1 | h1
  · exact h i h1
  · obtain rfl : i = j := by omega
    exact hj
def mtL (wild : Int → Bool) (x y : List Int) (n : Nat) : Bool := (List.range n).all (tst wild x y)
def mtB (wild : Int → Bool) (a b : V) : Bool := mtL wild (balL a b).l (balR a b).l (balN a b)
set_option maxRecDepth 100000 in
theorem mtL_all {wild : Int → Bool} {x y : List Int} {n : Nat} (h : ∀ j, j < n → tst wild x y j = true) : mtL wild x y n = true := by
  unfold mtL; rw [List.all_eq_true]; intro j hj; exact h j (List.mem_range.1 hj)
set_option maxRecDepth 100000 in
theorem mtL_no {wild : Int → Bool} {x y : List Int} {n k : Nat} (hk : k < n) (h : tst wild x y k = false) : mtL wild x y n = false := by
  unfold mtL; rw [List.all_eq_false]; exact ⟨k, List.mem_range.2 hk, by rw [h]; decide⟩
def noW (_ : Int) : Bool := false
def zW (a : Int) : Bool := a == 3
end Go.Proofs.YtgojnpblhfbdpaaGreatDoor
