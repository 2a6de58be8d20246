/-
  The plain mathematics of the signed division. No conditions; nothing of the program.
-/
import Derived.Test.YtaedfoblniadfaaBvG
namespace Go.Proofs.Ytaedfoblniadfaa

theorem neg_iff {n x : Nat} (hn : 0 < n) (hx : x < 2 ^ n) : neg n x = true ↔ 2 ^ (n - 1) ≤ x := by
  have hp : 2 ^ n = 2 * 2 ^ (n - 1) := by rw [← pow_s]; congr 1; omega
  have e := div_step x (n - 1)
  rw [show n - 1 + 1 = n by omega, Nat.div_eq_of_lt hx] at e
  have h0 := pow_p (n - 1)
  unfold neg
  constructor
  · intro h
    rw [h] at e
    have := Nat.div_mul_le_self x (2 ^ (n - 1))
    rw [e] at this
    simpa using this
  · intro h
    have : 1 ≤ x / 2 ^ (n - 1) := (Nat.le_div_iff_mul_le h0).2 (by omega)
    cases hb : x.testBit (n - 1)
    · rw [hb] at e; simp at e; omega
    · rfl
theorem neg_zero_width {x : Nat} (hx : x < 2 ^ 0) : neg 0 x = false := by
  have : x = 0 := by simpa using hx
  subst this; rfl
theorem absv_le {n x : Nat} (hx : x < 2 ^ n) (h : neg n x = true) : absv n x = 2 ^ n - x ∧ absv n x ≤ 2 ^ (n - 1) := by
  have e : absv n x = 2 ^ n - x := by unfold absv; rw [h]; rfl
  rcases Nat.eq_zero_or_pos n with rfl | hn
  · rw [neg_zero_width hx] at h; cases h
  · have := (neg_iff hn hx).1 h
    have hp : 2 ^ n = 2 * 2 ^ (n - 1) := by rw [← pow_s]; congr 1; omega
    exact ⟨e, by omega⟩
theorem absv_pos {n x : Nat} (h : neg n x = false) : absv n x = x := by unfold absv; rw [h]; rfl
/-- The remainder's size and sign. -/
theorem sr_abs {n x m y : Nat} (hx : x < 2 ^ n) (hY : 0 < absv m y) : absv n (sr n x m y) < absv m y ∧ (sr n x m y = 0 ∨ neg n (sr n x m y) = neg n x) := by
  have hr := Nat.mod_lt (absv n x) hY
  have hle := Nat.mod_le (absv n x) (absv m y)
  unfold sr
  generalize absv n x % absv m y = r at *
  rcases hn : neg n x with _ | _
  · rw [absv_pos hn] at hle
    simp only [Bool.false_eq_true, if_false]
    have hneg : neg n r = false := by
      rcases Nat.eq_zero_or_pos n with rfl | h0
      · exact neg_zero_width (by omega)
      · cases h1 : neg n r
        · rfl
        · have h2 := (neg_iff h0 (by omega)).1 h1
          have h3 := (neg_iff h0 hx).2 (by omega)
          rw [hn] at h3; cases h3
    rw [absv_pos hneg]
    exact ⟨hr, .inr hneg⟩
  · obtain ⟨e, hb⟩ := absv_le hx hn
    rcases Nat.eq_zero_or_pos n with rfl | h0
    · rw [neg_zero_width hx] at hn; cases hn
    have hp : 2 ^ n = 2 * 2 ^ (n - 1) := by rw [← pow_s]; congr 1; omega
    have hpp := pow_p (n - 1)
    simp only [if_true]
    rcases Nat.eq_zero_or_pos r with rfl | hr0
    · have e0 : subv n 0 0 = 0 := by unfold subv; simp
      rw [e0]
      refine ⟨?_, .inl rfl⟩
      have : neg n 0 = false := by simp [neg]
      rw [absv_pos this]; exact hY
    · have hlt : 2 ^ n - r < 2 ^ n := Nat.sub_lt (pow_p n) hr0
      have hrl : r < 2 ^ n := by omega
      have e1 : subv n 0 r = 2 ^ n - r := by unfold subv; rw [Nat.mod_eq_of_lt hrl, Nat.zero_add, Nat.mod_eq_of_lt hlt]
      rw [e1]
      have hge : 2 ^ (n - 1) ≤ 2 ^ n - r := by omega
      have h1 : neg n (2 ^ n - r) = true := (neg_iff h0 hlt).2 hge
      refine ⟨?_, .inr h1⟩
      rw [(absv_le hlt h1).1]
      omega
/-- The divisor as it is extended or shortened to the width of the dividend. -/
def fitv (n m y k : Nat) : Nat := if m ≤ n then ext m y k (neg m y) else y % 2 ^ n
theorem ext_start (m y : Nat) (f : Bool) : ext m y m f = y := by unfold ext; cases f <;> simp
theorem ext_step {m y k : Nat} (f : Bool) (hk : m ≤ k) : ext m y (k + 1) f = ext m y k f + 2 ^ k * f.toNat := by
  unfold ext
  cases f
  · simp
  · rw [if_pos rfl, if_pos rfl]
    have e1 : 2 ^ k = 2 ^ m * 2 ^ (k - m) := by rw [← Nat.pow_add]; congr 1; omega
    have e2 : 2 ^ (k + 1 - m) = 2 * 2 ^ (k - m) := by rw [← pow_s]; congr 1; omega
    have hp := pow_p (k - m)
    rw [e2, e1, Nat.mul_sub, Nat.mul_sub, Bool.toNat_true, Nat.mul_one, Nat.mul_one]
    have : 2 ^ m * (2 * 2 ^ (k - m)) = 2 * (2 ^ m * 2 ^ (k - m)) := by rw [← Nat.mul_assoc, Nat.mul_comm (2 ^ m) 2, Nat.mul_assoc]
    have := Nat.le_mul_of_pos_right (2 ^ m) hp
    omega
theorem fitv_start {n m y : Nat} (hy : y < 2 ^ m) : fitv n m y m = y % 2 ^ n := by
  unfold fitv
  split
  · rename_i h
    rw [ext_start, Nat.mod_eq_of_lt (Nat.lt_of_lt_of_le hy (Nat.pow_le_pow_right (by decide) h))]
  · rfl
theorem fitv_step {n m y k : Nat} (hk : m ≤ k) (hkn : k < n) : fitv n m y (k + 1) = fitv n m y k + 2 ^ k * (neg m y).toNat := by
  unfold fitv
  rw [if_pos (by omega), if_pos (by omega)]
  exact ext_step _ hk
theorem fitv_lt {n m y k : Nat} (hy : y < 2 ^ m) (hk : m ≤ k) (hkn : k < n) : fitv n m y k < 2 ^ k := by
  unfold fitv
  rw [if_pos (by omega)]
  exact ext_lt hy hk
theorem emod_of {a b N : Int} (k : Int) (h : a = b + N * k) : a % N = b % N := by rw [h, Int.add_mul_emod_self_left]
/-- The value of the fitted divisor, modulo 2^n. -/
theorem fitv_val {n m y k : Nat} (_hy : y < 2 ^ m) (hk : (m ≤ n ∧ k = n) ∨ n < m) : ∃ z : Int, (fitv n m y k : Int) = sval m y + ((2 ^ n : Nat) : Int) * z := by
  rcases hk with ⟨h1, rfl⟩ | h1
  · unfold fitv
    rw [if_pos h1]
    rcases hn : neg m y with _ | _
    · exact ⟨0, by rw [sval_pos hn]; simp [ext]⟩
    · exact ⟨1, by rw [sval_neg hn, ext_val h1]; omega⟩
  · unfold fitv
    rw [if_neg (by omega)]
    have e1 := Int.emod_add_mul_ediv (y : Int) ((2 ^ n : Nat) : Int)
    have e0 : ((y % 2 ^ n : Nat) : Int) = (y : Int) - ((2 ^ n : Nat) : Int) * ((y : Int) / ((2 ^ n : Nat) : Int)) := by
      rw [Int.natCast_emod]; omega
    have hp : ((2 ^ m : Nat) : Int) = ((2 ^ n : Nat) : Int) * ((2 ^ (m - n) : Nat) : Int) := by
      rw [← Int.natCast_mul, ← Nat.pow_add]; congr 2; omega
    rcases hn : neg m y with _ | _
    · exact ⟨-((y : Int) / ((2 ^ n : Nat) : Int)), by rw [sval_pos hn, e0, Int.mul_neg]; omega⟩
    · refine ⟨((2 ^ (m - n) : Nat) : Int) - ((y : Int) / ((2 ^ n : Nat) : Int)), ?_⟩
      rw [sval_neg hn, e0, Int.mul_sub, ← hp]; omega
theorem subv_val (n q : Nat) : ∃ z : Int, (subv n 0 q : Int) = -(q : Int) + ((2 ^ n : Nat) : Int) * z := by
  unfold subv
  have hq := mod_lt' q n
  have e1 : ((q % 2 ^ n : Nat) : Int) = (q : Int) - ((2 ^ n : Nat) : Int) * ((q : Int) / ((2 ^ n : Nat) : Int)) := by
    have := Int.emod_add_mul_ediv (q : Int) ((2 ^ n : Nat) : Int)
    rw [Int.natCast_emod]; omega
  have e2 : (((0 + (2 ^ n - q % 2 ^ n)) % 2 ^ n : Nat) : Int) = ((2 ^ n - q % 2 ^ n : Nat) : Int) - ((2 ^ n : Nat) : Int) * (((2 ^ n - q % 2 ^ n : Nat) : Int) / ((2 ^ n : Nat) : Int)) := by
    have := Int.emod_add_mul_ediv ((2 ^ n - q % 2 ^ n : Nat) : Int) ((2 ^ n : Nat) : Int)
    rw [Nat.zero_add, Int.natCast_emod]; omega
  have e3 : ((2 ^ n - q % 2 ^ n : Nat) : Int) = ((2 ^ n : Nat) : Int) - ((q % 2 ^ n : Nat) : Int) := by omega
  refine ⟨1 + (q : Int) / ((2 ^ n : Nat) : Int) - (((2 ^ n - q % 2 ^ n : Nat) : Int) / ((2 ^ n : Nat) : Int)), ?_⟩
  rw [e2]
  generalize ((2 ^ n - q % 2 ^ n : Nat) : Int) / ((2 ^ n : Nat) : Int) = v at *
  rw [e3, e1, Int.mul_sub, Int.mul_add]
  omega
theorem sval_abs {n x : Nat} (hx : x < 2 ^ n) : sval n x = if neg n x then -(absv n x : Int) else (absv n x : Int) := by
  rcases hn : neg n x with _ | _
  · rw [sval_pos hn, absv_pos hn]; rfl
  · rw [sval_neg hn, (absv_le hx hn).1, if_pos rfl]; omega
/-- The signed division's equation, modulo 2^n. -/
theorem sdiv_eq {n x m y k : Nat} (hx : x < 2 ^ n) (hy : y < 2 ^ m) (hk : (m ≤ n ∧ k = n) ∨ n < m) : ((sq n x m y * fitv n m y k) % 2 ^ n + sr n x m y) % 2 ^ n = x := by
  obtain ⟨zd, hd⟩ := fitv_val (n := n) (k := k) hy hk
  have hs := sval_abs hx
  have ht := sval_abs hy
  have hdm := Nat.div_add_mod (absv n x) (absv m y)
  obtain ⟨z1, h1⟩ := subv_val n (absv n x / absv m y)
  obtain ⟨z2, h2⟩ := subv_val n (absv n x % absv m y)
  have hxs : ∃ z3 : Int, (x : Int) = sval n x + ((2 ^ n : Nat) : Int) * z3 := by
    rcases hn : neg n x with _ | _
    · exact ⟨0, by rw [sval_pos hn]; omega⟩
    · exact ⟨1, by rw [sval_neg hn]; omega⟩
  obtain ⟨z3, h3⟩ := hxs
  have goal : ∃ z : Int, ((sq n x m y : Int) * (fitv n m y k : Int) + (sr n x m y : Int)) = (x : Int) + ((2 ^ n : Nat) : Int) * z := by
    unfold sq sr
    have hX : (absv n x : Int) = (absv m y : Int) * ((absv n x / absv m y : Nat) : Int) + ((absv n x % absv m y : Nat) : Int) := by
      rw [← Int.natCast_mul, ← Int.natCast_add]; congr 1; omega
    generalize ((2 ^ n : Nat) : Int) = N at *
    generalize hq : absv n x / absv m y = q at *
    generalize hr : absv n x % absv m y = r at *
    rcases hn : neg n x with _ | _ <;> rcases hm : neg m y with _ | _ <;> rw [hn] at hs <;> rw [hm] at ht <;> simp at hs ht ⊢ <;> rw [hd, h3, hs, ht, hX]
    · refine ⟨(q : Int) * zd - z3, ?_⟩
      simp only [Int.mul_add, Int.mul_sub, Int.mul_comm, Int.mul_left_comm, Int.mul_assoc]; omega
    · rw [h1]
      obtain ⟨K, e⟩ : ∃ K : Int, (-(q : Int) + N * z1) * (-(absv m y : Int) + N * zd) = (absv m y : Int) * q + N * K := ⟨-((q : Int)) * zd - z1 * (absv m y) + N * z1 * zd, by
        simp only [Int.add_mul, Int.mul_add, Int.mul_sub, Int.neg_mul, Int.mul_neg, Int.mul_comm, Int.mul_left_comm, Int.mul_assoc]; omega⟩
      refine ⟨K - z3, ?_⟩
      rw [e, Int.mul_sub]; omega
    · rw [h1, h2]
      obtain ⟨K, e⟩ : ∃ K : Int, (-(q : Int) + N * z1) * ((absv m y : Int) + N * zd) = -((absv m y : Int) * q) + N * K := ⟨-((q : Int)) * zd + z1 * (absv m y) + N * z1 * zd, by
        simp only [Int.add_mul, Int.mul_add, Int.neg_mul, Int.mul_neg, Int.mul_comm, Int.mul_left_comm, Int.mul_assoc]; omega⟩
      refine ⟨K + z2 - z3, ?_⟩
      rw [e, Int.mul_sub, Int.mul_add]; omega
    · rw [h2]
      obtain ⟨K, e⟩ : ∃ K : Int, (q : Int) * (-(absv m y : Int) + N * zd) = -((absv m y : Int) * q) + N * K := ⟨(q : Int) * zd, by
        simp only [Int.mul_add, Int.mul_neg, Int.mul_comm, Int.mul_left_comm, Int.mul_assoc]⟩
      refine ⟨K + z2 - z3, ?_⟩
      rw [e, Int.mul_sub, Int.mul_add]; omega
  obtain ⟨z, hz⟩ := goal
  rw [Nat.mod_add_mod]
  have h4 : ((((sq n x m y * fitv n m y k) + sr n x m y) % 2 ^ n : Nat) : Int) = (x : Int) := by
    rw [Int.natCast_emod, Int.natCast_add, Int.natCast_mul, hz, Int.add_mul_emod_self_left]
    exact Int.emod_eq_of_lt (by omega) (by omega)
  exact Int.ofNat_inj.1 h4
theorem udiv_eq {n x y : Nat} (hx : x < 2 ^ n) : ((x / y * y) % 2 ^ n + x % y) % 2 ^ n = x := by
  rw [Nat.mod_add_mod, Nat.mul_comm, Nat.div_add_mod, Nat.mod_eq_of_lt hx]
end Go.Proofs.Ytaedfoblniadfaa
