/-
  The plain mathematics of the shifts. No conditions; nothing of the program.
-/
import Derived.Test.YtaedfoblniadfaaBvS
import Derived.Test.YtaedfoblniadfaaBvQ
namespace Go.Proofs.Ytaedfoblniadfaa

theorem shlv_mul (n x I : Nat) : shlv n x (lim (I : Int) n) = (x * 2 ^ I) % 2 ^ n := by
  unfold shlv
  rcases Nat.le_total I n with h | h
  · rw [show lim (I : Int) n = I by unfold lim; omega, Nat.mul_comm]
  · rw [show lim (I : Int) n = n by unfold lim; omega, Nat.mul_mod_right, show I = n + (I - n) by omega, Nat.pow_add, Nat.mul_left_comm, Nat.mul_mod_right]
theorem shv_lt (n x m : Nat) (f : Bool) : shv n x m f < 2 ^ n := mkn_lt _ _
theorem shv_bit {n x m i : Nat} {f : Bool} (hi : i < n) : (shv n x m f).testBit i = if i + m < n then x.testBit (i + m) else f := mkn_bit hi
theorem shv_div {n x : Nat} (hx : x < 2 ^ n) (I : Nat) : shv n x (lim (I : Int) n) false = x / 2 ^ I := by
  refine same_of (n := n) (shv_lt _ _ _ _) (Nat.lt_of_le_of_lt (Nat.div_le_self _ _) hx) fun i hi => ?_
  rw [shv_bit hi, Nat.testBit_div_two_pow]
  unfold lim
  split
  · congr 1; omega
  · exact (high_bit hx (by omega)).symm
theorem shl_shl (n x I K : Nat) : shlv n (shlv n x (lim (I : Int) n)) (lim (K : Int) n) = shlv n x (lim ((I : Int) + K) n) := by
  rw [shlv_mul, shlv_mul, show (I : Int) + K = ((I + K : Nat) : Int) by omega, shlv_mul, Nat.mod_mul_mod, Nat.mul_assoc, ← Nat.pow_add]
theorem shr_shr {n x : Nat} (hx : x < 2 ^ n) (I K : Nat) : shv n (shv n x (lim (I : Int) n) false) (lim (K : Int) n) false = shv n x (lim ((I : Int) + K) n) false := by
  rw [shv_div (shv_lt _ _ _ _), shv_div hx, show (I : Int) + K = ((I + K : Nat) : Int) by omega, shv_div hx, Nat.div_div_eq_div_mul, ← Nat.pow_add]
theorem neg_shv {n x m : Nat} (hx : x < 2 ^ n) : neg n (shv n x m (neg n x)) = neg n x := by
  rcases Nat.eq_zero_or_pos n with rfl | h0
  · rw [neg_zero_width (shv_lt _ _ _ _), neg_zero_width hx]
  · show (shv n x m (neg n x)).testBit (n - 1) = neg n x
    rw [shv_bit (by omega)]
    split
    · rename_i h; have : m = 0 := by omega
      subst this; rfl
    · rfl
theorem sar_sar {n x : Nat} (hx : x < 2 ^ n) (I K : Nat) : shv n (shv n x (lim (I : Int) n) (neg n x)) (lim (K : Int) n) (neg n (shv n x (lim (I : Int) n) (neg n x))) = shv n x (lim ((I : Int) + K) n) (neg n x) := by
  rw [neg_shv hx]
  refine same_of (n := n) (shv_lt _ _ _ _) (shv_lt _ _ _ _) fun i hi => ?_
  rw [shv_bit hi, shv_bit hi]
  have e : lim ((I : Int) + K) n = min (I + K) n := by unfold lim; omega
  have e1 : lim (I : Int) n = min I n := by unfold lim; omega
  have e2 : lim (K : Int) n = min K n := by unfold lim; omega
  rw [e, e1, e2]
  by_cases h1 : i + min K n < n
  · rw [if_pos h1, shv_bit h1]
    by_cases h2 : i + min K n + min I n < n
    · rw [if_pos h2, if_pos (by omega)]; congr 1; omega
    · rw [if_neg h2, if_neg (by omega)]
  · rw [if_neg h1, if_neg (by omega)]
theorem shl_all (n x I : Nat) : shlv n x (lim ((n : Int) + I) n) = 0 := by
  rw [show lim ((n : Int) + I) n = n by unfold lim; omega]; unfold shlv; exact Nat.mul_mod_right _ _
theorem mkn_const_false (k : Nat) : mkn k (fun _ => false) = 0 := by
  induction k with
  | zero => rfl
  | succ k ih => show mkn k _ + 2 ^ k * false.toNat = 0; rw [ih]; rfl
theorem shr_all (n x I : Nat) (f : Bool) : shv n x (lim ((n : Int) + I) n) f = mkn n (fun _ => f) := by
  refine same_of (n := n) (shv_lt _ _ _ _) (mkn_lt _ _) fun i hi => ?_
  rw [shv_bit hi, mkn_bit hi, if_neg (by unfold lim; omega)]
end Go.Proofs.Ytaedfoblniadfaa
