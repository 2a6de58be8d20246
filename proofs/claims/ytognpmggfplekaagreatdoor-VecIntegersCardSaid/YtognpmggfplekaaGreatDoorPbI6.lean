/-
  Shifts to the left. Mathematics, no conditions.
-/
import Derived.Test.YtognpmggfplekaaGreatDoorPbI5
set_option maxRecDepth 100000
namespace Go.Proofs.YtognpmggfplekaaGreatDoor
open Go Go.RowKit

theorem nth_test {l : List Int} (hk : knL l = true) {j : Nat} (h : j < l.length) : nth l j = fromI ((num l).testBit j) := by
  rw [num_bit]
  rcases knL_iff.1 hk j h with e | e <;> rw [e] <;> rfl
theorem shl_bits {l : List Int} (hk : knL l = true) {k : Nat} {s : Int} (hs : s = k ∨ (s = l.length ∧ l.length ≤ k)) :
    (tab l.length fun i => atI l (frL i s) 0) = frN l.length (num l * 2 ^ k) := by
  unfold frN
  refine tab_congr fun i hi => ?_
  rw [Nat.testBit_mul_two_pow]
  unfold atI frL
  by_cases c : k ≤ i
  · rw [if_pos (by omega), show ((i : Int) - s).toNat = i - k by omega, nth_test hk (by omega), decide_eq_true c, Bool.true_and]
  · rw [if_neg (by omega), decide_eq_false c, Bool.false_and]
    rfl
theorem frN_mod (n x : Nat) : frN n (x % 2 ^ n) = frN n x := by
  unfold frN
  refine tab_congr fun i hi => ?_
  rw [Nat.testBit_mod_two_pow, decide_eq_true hi, Bool.true_and]
theorem shl_int {a b : V} (ha : okB a.l = true) (hb : okB b.l = true) (ka : knL a.l = true) (kb : knL b.l = true) (h64 : a.l.length ≤ 64) :
    shV frL 0 a b = ⟨frN a.l.length (B.fi (IntKind.i64.wrap (bvl a.s a.l * ((2 ^ num b.l : Nat) : Int))) a.l.length), a.s⟩ := by
  unfold shV
  rw [nrm_of ha, nrm_of hb, kb]
  simp only [if_true]
  congr 1
  have hs : ((shN (num b.l) a.l.length : Nat) : Int) = (num b.l : Nat) ∨ (((shN (num b.l) a.l.length : Nat) : Int) = a.l.length ∧ a.l.length ≤ num b.l) := by
    unfold shN
    split
    · exact .inl rfl
    · exact .inr ⟨rfl, by omega⟩
  rw [shl_bits ka hs, fi_wrap h64, ← frN_mod]
  congr 1
  have e := zv_fi (S := a.s) (num_lt' (l := a.l) rfl)
  refine fi_of (Nat.mod_lt _ (pow_p _)) ?_
  rw [Int.natCast_emod, Int.natCast_mul, p2i, p2i, Int.emod_emod]
  rw [Int.mul_emod, Int.mul_emod (bvl a.s a.l)]
  congr 2
  have := fi_cast (zvS a.s a.l.length (num a.l)) a.l.length
  rw [← e] at this
  rw [this, Int.emod_emod]
  rfl
end Go.Proofs.YtognpmggfplekaaGreatDoor
