/-
  The plain mathematics of layer 3 (package bv): bits of natural numbers, one bit put in place, carries and borrows, products and quotients bit by bit. No conditions; nothing of the program.
-/
namespace Go.Proofs.Ytaedfoblniadfaa

theorem pow_s (k : Nat) : 2 ^ (k + 1) = 2 * 2 ^ k := by rw [Nat.pow_succ, Nat.mul_comm]
theorem pow_p (k : Nat) : 0 < 2 ^ k := Nat.pow_pos (by decide)
theorem toNat_le (b : Bool) : b.toNat ≤ 1 := by cases b <;> decide

/-- The lowest k + 1 bits are the lowest k and the next one. -/
theorem mod_step (x k : Nat) : x % 2 ^ (k + 1) = x % 2 ^ k + 2 ^ k * (x.testBit k).toNat := by
  rw [Nat.toNat_testBit, Nat.pow_succ, Nat.mod_mul]
/-- What is left without the lowest k bits. -/
theorem div_step (x k : Nat) : x / 2 ^ k = 2 * (x / 2 ^ (k + 1)) + (x.testBit k).toNat := by
  rw [Nat.toNat_testBit, Nat.pow_succ, ← Nat.div_div_eq_div_mul]
  omega
theorem mod_lt' (x k : Nat) : x % 2 ^ k < 2 ^ k := Nat.mod_lt _ (pow_p k)

/-- x with the bit p put to s. -/
def setb (x p : Nat) (s : Bool) : Nat := x - 2 ^ p * (x.testBit p).toNat + 2 ^ p * s.toNat
theorem bit_le (x p : Nat) : 2 ^ p * (x.testBit p).toNat ≤ x := by
  rw [Nat.toNat_testBit]
  have h := Nat.div_mul_le_self x (2 ^ p)
  have h2 : x / 2 ^ p % 2 ≤ x / 2 ^ p := Nat.mod_le _ _
  calc 2 ^ p * (x / 2 ^ p % 2) ≤ 2 ^ p * (x / 2 ^ p) := Nat.mul_le_mul_left _ h2
    _ = x / 2 ^ p * 2 ^ p := Nat.mul_comm _ _
    _ ≤ x := h
theorem setb_split (x p : Nat) (s : Bool) : setb x p s = 2 ^ p * (2 * (x / 2 ^ (p + 1)) + s.toNat) + x % 2 ^ p := by
  have h := div_step x p
  have e : x = 2 ^ p * (x / 2 ^ p) + x % 2 ^ p := (Nat.div_add_mod x (2 ^ p)).symm
  have hle := bit_le x p
  unfold setb
  rw [h] at e
  rw [Nat.mul_add] at e ⊢
  omega
theorem setb_bit (x p : Nat) (s : Bool) (i : Nat) : (setb x p s).testBit i = if i = p then s else x.testBit i := by
  rw [setb_split, Nat.testBit_two_pow_mul_add _ (mod_lt' x p)]
  by_cases h : i < p
  · rw [if_pos h, if_neg (by omega), Nat.testBit_mod_two_pow]; simp [h]
  · rw [if_neg h]
    by_cases h2 : i = p
    · subst h2; rw [if_pos rfl, Nat.sub_self, Nat.testBit_zero]; cases s <;> simp <;> omega
    · rw [if_neg h2]
      obtain ⟨j, rfl⟩ : ∃ j, i = p + 1 + j := ⟨i - p - 1, by omega⟩
      rw [show p + 1 + j - p = j + 1 by omega, Nat.testBit_add_one]
      have : (2 * (x / 2 ^ (p + 1)) + s.toNat) / 2 = x / 2 ^ (p + 1) := by have := toNat_le s; omega
      rw [this, Nat.testBit_div_two_pow]
      congr 1; omega
theorem setb_eq (x p : Nat) (s : Bool) : setb x p s + 2 ^ p * (x.testBit p).toNat = x + 2 ^ p * s.toNat := by
  have := bit_le x p; unfold setb; omega
theorem lt_of_bits {x n : Nat} (h : ∀ i, n ≤ i → x.testBit i = false) : x < 2 ^ n := Nat.lt_pow_two_of_testBit x h
theorem setb_lt {x p n : Nat} {s : Bool} (hx : x < 2 ^ n) (hp : p < n) : setb x p s < 2 ^ n := lt_of_bits fun i hi => by
  rw [setb_bit, if_neg (by omega)]
  exact Nat.testBit_lt_two_pow (Nat.lt_of_lt_of_le hx (Nat.pow_le_pow_right (by decide) hi))
theorem high_bit {x k i : Nat} (h : x < 2 ^ k) (hi : k ≤ i) : x.testBit i = false := Nat.testBit_lt_two_pow (Nat.lt_of_lt_of_le h (Nat.pow_le_pow_right (by decide) hi))
theorem setb_new {x k : Nat} {s : Bool} (h : x < 2 ^ k) : setb x k s = x + 2 ^ k * s.toNat := by
  unfold setb; rw [high_bit h (Nat.le_refl _)]; simp
theorem add_bit {x k : Nat} (s : Bool) (h : x < 2 ^ k) (i : Nat) : (x + 2 ^ k * s.toNat).testBit i = if i = k then s else x.testBit i := by
  rw [← setb_new h]; exact setb_bit x k s i
theorem add_bit_lt {x k : Nat} (s : Bool) (h : x < 2 ^ k) : x + 2 ^ k * s.toNat < 2 ^ (k + 1) := by
  have := pow_s k; cases s <;> simp <;> omega

/-- A full adder. -/
theorem full (x y c : Bool) : ((x != y) != c).toNat + 2 * (x && y || c && (x || y)).toNat = x.toNat + y.toNat + c.toNat := by
  cases x <;> cases y <;> cases c <;> rfl
theorem add_step {S P X Y C x y c : Nat} {s c' : Nat} (h : S + P * c = X + Y + C) (hf : s + 2 * c' = x + y + c) : (S + P * s) + 2 * P * c' = (X + P * x) + (Y + P * y) + C := by
  have : P * s + 2 * P * c' = P * x + P * y + P * c := by
    rw [← Nat.mul_add, ← Nat.mul_add, ← hf, Nat.mul_add, Nat.mul_comm 2 P, Nat.mul_assoc]
  omega
/-- The lowest bits of a sum. -/
theorem sum_mod {S n c T : Nat} (h : S + 2 ^ n * c = T) (hs : S < 2 ^ n) : S = T % 2 ^ n := by
  rw [← h, Nat.add_mul_mod_self_left, Nat.mod_eq_of_lt hs]

/-- The complement of the lowest n bits. -/
theorem compl_step (x k : Nat) (b : Bool) (C : Nat) (h : C + x % 2 ^ k + 1 = 2 ^ k) (hb : b = !x.testBit k) : (C + 2 ^ k * b.toNat) + x % 2 ^ (k + 1) + 1 = 2 ^ (k + 1) := by
  rw [mod_step, pow_s]; subst hb; cases x.testBit k <;> simp <;> omega
end Go.Proofs.Ytaedfoblniadfaa
