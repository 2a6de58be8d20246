/-
  The plain mathematics of the division bit by bit. No conditions; nothing of the program.
-/
import Derived.Test.YtaedfoblniadfaaBvM
namespace Go.Proofs.Ytaedfoblniadfaa

def DQ (n x y k : Nat) : Nat := 2 ^ (n - k) * (x / 2 ^ (n - k) / y)
def DR (n x y k : Nat) : Nat := x / 2 ^ (n - k) % y
theorem DQ.zero {n x y : Nat} (hx : x < 2 ^ n) : DQ n x y 0 = 0 := by unfold DQ; rw [Nat.sub_zero, Nat.div_eq_of_lt hx, Nat.zero_div, Nat.mul_zero]
theorem DR.zero {n x y : Nat} (hx : x < 2 ^ n) : DR n x y 0 = 0 := by unfold DR; rw [Nat.sub_zero, Nat.div_eq_of_lt hx, Nat.zero_mod]
theorem DQ.last (n x y : Nat) : DQ n x y n = x / y := by unfold DQ; simp
theorem DR.last (n x y : Nat) : DR n x y n = x % y := by unfold DR; simp
theorem DQ.lt {n x y k : Nat} (hx : x < 2 ^ n) : DQ n x y k < 2 ^ n := by
  unfold DQ
  refine Nat.lt_of_le_of_lt ?_ hx
  calc 2 ^ (n - k) * (x / 2 ^ (n - k) / y) ≤ 2 ^ (n - k) * (x / 2 ^ (n - k)) := Nat.mul_le_mul_left _ (Nat.div_le_self _ _)
    _ ≤ x := Nat.mul_div_le _ _
theorem divmod_step {X y b : Nat} (hy : 0 < y) (hb : b ≤ 1) : (2 * X + b) / y = 2 * (X / y) + (if y ≤ 2 * (X % y) + b then 1 else 0) ∧ (2 * X + b) % y = 2 * (X % y) + b - (if y ≤ 2 * (X % y) + b then y else 0) := by
  have e := Nat.div_add_mod X y
  have hr := Nat.mod_lt X hy
  have e2 : 2 * X + b = y * (2 * (X / y)) + (2 * (X % y) + b) := by
    have : y * (2 * (X / y)) = 2 * (y * (X / y)) := by rw [← Nat.mul_assoc, Nat.mul_comm y 2, Nat.mul_assoc]
    omega
  rw [e2, Nat.mul_add_div hy, Nat.mul_add_mod]
  by_cases h : y ≤ 2 * (X % y) + b
  · rw [if_pos h, if_pos h]
    have h1 : (2 * (X % y) + b) / y = 1 := by
      rw [Nat.div_eq_iff hy]; omega
    have h2 := Nat.div_add_mod (2 * (X % y) + b) y
    rw [h1] at h2
    exact ⟨by rw [h1], by omega⟩
  · have h1 : (2 * (X % y) + b) / y = 0 := Nat.div_eq_of_lt (by omega)
    have h2 : (2 * (X % y) + b) % y = 2 * (X % y) + b := Nat.mod_eq_of_lt (by omega)
    rw [if_neg h, if_neg h, h1, h2]
    exact ⟨rfl, rfl⟩
theorem DR.lt {n x y k : Nat} (hy : 0 < y) : DR n x y k < y := Nat.mod_lt _ hy
theorem DR.small {n x y k : Nat} (hx : x < 2 ^ n) (hk : k ≤ n) : DR n x y k < 2 ^ k := by
  unfold DR
  refine Nat.lt_of_le_of_lt (Nat.mod_le _ _) ?_
  rw [Nat.div_lt_iff_lt_mul (pow_p _), ← Nat.pow_add]
  rwa [show k + (n - k) = n by omega]
theorem D_next {n x y k : Nat} (hy : 0 < y) (hk : k < n) :
    DR n x y (k + 1) = 2 * DR n x y k + (x.testBit (n - 1 - k)).toNat - (if y ≤ 2 * DR n x y k + (x.testBit (n - 1 - k)).toNat then y else 0) ∧
    DQ n x y (k + 1) = DQ n x y k + 2 ^ (n - 1 - k) * (if y ≤ 2 * DR n x y k + (x.testBit (n - 1 - k)).toNat then 1 else 0) := by
  have e := div_step x (n - 1 - k)
  rw [show n - 1 - k + 1 = n - k by omega] at e
  obtain ⟨h1, h2⟩ := divmod_step (X := x / 2 ^ (n - k)) hy (toNat_le (x.testBit (n - 1 - k)))
  unfold DR DQ
  rw [show n - (k + 1) = n - 1 - k by omega, e, h1, h2]
  refine ⟨rfl, ?_⟩
  rw [Nat.mul_add, ← Nat.mul_assoc, Nat.mul_comm _ 2, ← pow_s, show n - 1 - k + 1 = n - k by omega]
theorem DQ_bit {n x y k : Nat} (hk : k < n) : (DQ n x y k).testBit (n - 1 - k) = false := by
  unfold DQ
  rw [Nat.testBit_two_pow_mul]
  simp; omega
/-- The bits moved up by one, the lowest one kept. -/
def shup (n r : Nat) : Nat := (2 * r + (r.testBit 0).toNat) % 2 ^ n
theorem dbl_bit (r : Nat) (b : Bool) (i : Nat) : (2 * r + b.toNat).testBit (i + 1) = r.testBit i := by
  rw [Nat.testBit_add_one]
  congr 1
  have := toNat_le b
  omega
theorem dbl_bit0 (r : Nat) (b : Bool) : (2 * r + b.toNat).testBit 0 = b := by
  rw [Nat.testBit_zero]
  cases b <;> simp <;> omega
theorem setb_shup {n r : Nat} (b : Bool) (h : 2 * r + 1 < 2 ^ n) : setb (shup n r) 0 b = 2 * r + b.toNat := by
  apply Nat.eq_of_testBit_eq
  intro i
  rw [setb_bit]
  unfold shup
  have := toNat_le (r.testBit 0)
  rw [Nat.mod_eq_of_lt (by omega)]
  rcases i with _ | i
  · rw [if_pos rfl, dbl_bit0]
  · rw [if_neg (by omega), dbl_bit, dbl_bit]
end Go.Proofs.Ytaedfoblniadfaa
