/-
  What the operators of two known vectors give, by their integers. Mathematics, no conditions.
-/
import Derived.Test.YtognpmggfplekaaGreatDoorPbI8
set_option maxRecDepth 100000
namespace Go.Proofs.YtognpmggfplekaaGreatDoor
open Go Go.RowKit

def wI (W : Nat) (S : Bool) (z : Int) : V := ⟨frN W (B.fi z W), S⟩
theorem wI_len (W : Nat) (S : Bool) (z : Int) : (wI W S z).l.length = W := frN_len _ _
theorem wI_ok {W : Nat} (S : Bool) (z : Int) (h0 : 1 ≤ W) (h1 : W ≤ 128) : okB (wI W S z).l = true := by
  have e := wI_len W S z
  refine ok_mk (by rw [e]; omega) (by rw [e]; omega) fun i hi => ?_
  rcases knL_iff.1 (frN_kn W (B.fi z W)) i hi with h | h
  · rw [show nth (wI W S z).l i = 0 from h]; decide
  · rw [show nth (wI W S z).l i = 1 from h]; decide
theorem wI_kn (W : Nat) (S : Bool) (z : Int) : knL (wI W S z).l = true := frN_kn _ _
theorem fromI_not (p : Bool) : notI (fromI p) = fromI (!p) := by cases p <;> decide
theorem fromI_and (p q : Bool) : andI (fromI p) (fromI q) = fromI (p && q) := by cases p <;> cases q <;> decide
theorem fromI_or (p q : Bool) : orI (fromI p) (fromI q) = fromI (p || q) := by cases p <;> cases q <;> decide
section
variable {a b : V} (ha : okB a.l = true) (hb : okB b.l = true) (ka : knL a.l = true) (kb : knL b.l = true)
include ha hb ka kb
theorem seven (h64 : balN a b ≤ 64) {i k : Int} (hi : bvl (a.s && b.s) a.l = i) (hk : bvl (a.s && b.s) b.l = k) :
    arV fAdd a b = wI (balN a b) (a.s && b.s) (i + k) ∧ arV fSub a b = wI (balN a b) (a.s && b.s) (i - k) ∧ arV fMul a b = wI (balN a b) (a.s && b.s) (i * k) ∧
    bwV andI a b = wI (balN a b) (a.s && b.s) (bits .and .i64 i k) ∧ bwV orI a b = wI (balN a b) (a.s && b.s) (bits .or .i64 i k) ∧
    bwV xorI a b = wI (balN a b) (a.s && b.s) (bits .xor .i64 i k) ∧ bwV eqI a b = wI (balN a b) (a.s && b.s) (bits .xor .i64 (-1) (bits .xor .i64 i k)) := by
  subst hi
  subst hk
  exact ⟨arV_int add_int ha hb ka kb, arV_int sub_int ha hb ka kb, arV_int mul_int ha hb ka kb, and_int ha hb ka kb h64, or_int ha hb ka kb h64, xor_int ha hb ka kb h64, xnor_int ha hb ka kb h64⟩
theorem ten {i k : Int} (hi : bvl (a.s && b.s) a.l = i) (hk : bvl (a.s && b.s) b.l = k) :
    cmpV pLt a b = fromI (decide (i < k)) ∧ cmpV pLe a b = fromI (decide (i ≤ k)) ∧ cmpV pGt a b = fromI (decide (k < i)) ∧ cmpV pGe a b = fromI (decide (k ≤ i)) ∧
    eqV a b = fromI (decide (i = k)) ∧ notI (eqV a b) = fromI (!decide (i = k)) ∧ fromI (mtB noW a b) = fromI (decide (i = k)) ∧
    andI (truth a) (truth b) = fromI (!decide (i = 0) && !decide (k = 0)) ∧ orI (truth a) (truth b) = fromI (!decide (i = 0) || !decide (k = 0)) ∧ notI (truth a) = fromI (decide (i = 0)) := by
  have c : ∀ p : Int → Bool, cmpV p a b = fromI (p (B.cmpI i k)) := fun p => by rw [← hi, ← hk]; exact cmp_int ha hb ka kb p
  have e : eqV a b = fromI (decide (i = k)) := by rw [← hi, ← hk]; exact eq_int ha hb ka kb
  have t1 : truth a = fromI (!decide (i = 0)) := by
    rw [truth_int ha ka, ← hi]
    congr 1
    have := bvl_zero (l := a.l) a.s (a.s && b.s)
    have g : (bvl a.s a.l ≠ 0) ↔ ¬ (bvl (a.s && b.s) a.l = 0) := not_congr this
    rw [decide_eq_decide.2 g, decide_not]
  have t2 : truth b = fromI (!decide (k = 0)) := by
    rw [truth_int hb kb, ← hk]
    congr 1
    have := bvl_zero (l := b.l) b.s (a.s && b.s)
    have g : (bvl b.s b.l ≠ 0) ↔ ¬ (bvl (a.s && b.s) b.l = 0) := not_congr this
    rw [decide_eq_decide.2 g, decide_not]
  refine ⟨?_, ?_, ?_, ?_, e, by rw [e, fromI_not], by rw [case_int ha hb ka kb, hi, hk], by rw [t1, t2, fromI_and], by rw [t1, t2, fromI_or], by rw [t1, fromI_not, Bool.not_not]⟩
  all_goals
    rw [c]
    congr 1
    first | unfold pLt | unfold pLe | unfold pGt | unfold pGe
    unfold B.cmpI
    refine decide_eq_decide.2 ?_
    split
    · omega
    · split <;> omega
end
end Go.Proofs.YtognpmggfplekaaGreatDoor
