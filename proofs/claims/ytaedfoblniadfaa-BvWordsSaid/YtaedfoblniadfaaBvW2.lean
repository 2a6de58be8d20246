/-
  The plain mathematics of machine words of a width up to 64. No conditions; nothing of the program.
-/
import Derived.Test.YtaedfoblniadfaaBvR
import Derived.Test.YtaedfoblniadfaaBvF3
namespace Go.Proofs.Ytaedfoblniadfaa
open Go Go.RowKit

/-- M is a signed word of the width W. -/
def Sw (W : Nat) (M : Int) : Prop := 1 ≤ W ∧ W ≤ 64 ∧ -((2 ^ (W - 1) : Nat) : Int) ≤ M ∧ M < ((2 ^ (W - 1) : Nat) : Int)
theorem sw_half {W : Nat} (h1 : 1 ≤ W) : 2 ^ W = 2 * 2 ^ (W - 1) := by rw [← pow_s]; congr 1; omega
theorem sw_le {W : Nat} (h2 : W ≤ 64) : 2 ^ (W - 1) ≤ 2 ^ 63 := Nat.pow_le_pow_right (by decide) (by omega)
theorem Sw.i64 {W : Nat} {M : Int} (h : Sw W M) : -9223372036854775808 ≤ M ∧ M ≤ 9223372036854775807 := by
  obtain ⟨_, h2, h3, h4⟩ := h
  have := sw_le h2
  omega
theorem wrap64_bd (z : Int) : -9223372036854775808 ≤ wrap64 z ∧ wrap64 z ≤ 9223372036854775807 := by unfold wrap64; omega
theorem Sw.of_shift {W : Nat} (h1 : 1 ≤ W) (h2 : W ≤ 64) (z : Int) : Sw W (wrap64 z / (2 : Int) ^ (64 - W)) := by
  obtain ⟨b0, b1⟩ := wrap64_bd z
  have e : ((2 ^ (W - 1) : Nat) : Int) * (2 : Int) ^ (64 - W) = 9223372036854775808 := by
    rw [p2, ← Int.natCast_mul, ← Nat.pow_add, show W - 1 + (64 - W) = 63 by omega]; rfl
  have hp : (0 : Int) < (2 : Int) ^ (64 - W) := Int.pow_pos (by decide)
  refine ⟨h1, h2, ?_, ?_⟩
  · apply Int.le_ediv_of_mul_le hp
    rw [Int.neg_mul, e]; exact b0
  · apply Int.ediv_lt_of_lt_mul hp
    rw [e]; omega
theorem fi_cast (z : Int) (W : Nat) : ((fi z W : Nat) : Int) = z % ((2 ^ W : Nat) : Int) := by
  unfold fi
  rw [p2]
  have := pow_p W
  have := Int.emod_nonneg z (b := ((2 ^ W : Nat) : Int)) (by omega)
  omega
theorem sw_neg {W : Nat} {M : Int} (h : Sw W M) : (neg W (fi M W) = true ↔ M < 0) ∧ ((fi M W : Nat) : Int) = if M < 0 then M + (2 ^ W : Nat) else M := by
  obtain ⟨h1, h2, h3, h4⟩ := h
  have hh := sw_half h1
  have hc := fi_cast M W
  have hl := fi_lt M W
  have e : ((fi M W : Nat) : Int) = if M < 0 then M + (2 ^ W : Nat) else M := by
    rw [hc]
    split
    · rw [← Int.add_emod_right]; exact Int.emod_eq_of_lt (by omega) (by omega)
    · exact Int.emod_eq_of_lt (by omega) (by omega)
  refine ⟨?_, e⟩
  rw [neg_iff h1 hl]
  split at e <;> omega
theorem sval_fi {W : Nat} {M : Int} (h : Sw W M) : sval W (fi M W) = M := by
  obtain ⟨hn, e⟩ := sw_neg h
  rcases hq : neg W (fi M W) with _ | _
  · have : ¬ M < 0 := fun h => by rw [hn.2 h] at hq; cases hq
    rw [sval_pos hq, e, if_neg this]
  · rw [sval_neg hq, e, if_pos (hn.1 hq)]; omega
theorem int_fi {W : Nat} {M : Int} (h : Sw W M) : iVal W (fi M W) = M ∧ iOk W (fi M W) = true := by
  have hs := sval_fi h
  have hb := h.i64
  have hf : iFit W (fi M W) := by unfold iFit; rw [hs]; exact hb
  exact ⟨(if_pos hf).trans hs, decide_eq_true hf⟩
theorem fi_lt64 {W : Nat} {M : Int} (h2 : W ≤ 64) : fi M W < 2 ^ 64 := Nat.lt_of_lt_of_le (fi_lt M W) (Nat.pow_le_pow_right (by decide) h2)
theorem uint_fi {W : Nat} {M : Int} (h2 : W ≤ 64) : uVal (fi M W) = ((fi M W : Nat) : Int) ∧ uOk (fi M W) = true :=
  ⟨if_pos (fi_lt64 h2), decide_eq_true (fi_lt64 h2)⟩
theorem mask_eq {W : Nat} (h2 : W ≤ 64) : (18446744073709551615 : Int) / (2 : Int) ^ (64 - W) = ((2 ^ W - 1 : Nat) : Int) := by
  have e : ((2 ^ W : Nat) : Int) * (2 : Int) ^ (64 - W) = 18446744073709551616 := by
    rw [p2, ← Int.natCast_mul, ← Nat.pow_add, show W + (64 - W) = 64 by omega]; rfl
  have hp : (0 : Int) < (2 : Int) ^ (64 - W) := Int.pow_pos (by decide)
  have hw := pow_p W
  have h3 : (((2 ^ W - 1 : Nat) : Int)) = ((2 ^ W : Nat) : Int) - 1 := by omega
  rw [h3]
  apply Int.le_antisymm
  · have : (18446744073709551615 : Int) / (2 : Int) ^ (64 - W) < ((2 ^ W : Nat) : Int) := by
      apply Int.ediv_lt_of_lt_mul hp; rw [e]; decide
    omega
  · apply Int.le_ediv_of_mul_le hp
    rw [Int.sub_mul, e]; omega
theorem and_mask {W : Nat} (h2 : W ≤ 64) (M : Int) : bits BinOp.and IntKind.u64 (IntKind.u64.wrap M) ((2 ^ W - 1 : Nat) : Int) = ((fi M W : Nat) : Int) := by
  have hw := Nat.pow_le_pow_right (show 0 < 2 by decide) h2
  have hp := pow_p W
  show IntKind.u64.wrap ((BitVec.ofInt 64 (IntKind.u64.wrap M) &&& BitVec.ofInt 64 ((2 ^ W - 1 : Nat) : Int)).toNat : Int) = _
  rw [BitVec.toNat_and, BitVec.ofInt_natCast, BitVec.toNat_ofNat, BitVec.toNat_ofInt, Nat.mod_eq_of_lt (show 2 ^ W - 1 < 2 ^ 64 by omega), Nat.and_two_pow_sub_one_eq_mod, show IntKind.u64.wrap M = M % 18446744073709551616 from IntKind.wrap_u64 M]
  have e : ((M % 18446744073709551616 % ((2 ^ 64 : Nat) : Int)).toNat % 2 ^ W) = fi M W := by
    have hc := fi_cast M W
    apply Int.ofNat_inj.1
    rw [hc, Int.natCast_emod, Int.toNat_of_nonneg (by omega)]
    have hd : ((2 ^ W : Nat) : Int) ∣ 18446744073709551616 := ⟨((2 ^ (64 - W) : Nat) : Int), by rw [← Int.natCast_mul, ← Nat.pow_add, show W + (64 - W) = 64 by omega]; rfl⟩
    rw [show ((2 ^ 64 : Nat) : Int) = 18446744073709551616 from rfl, Int.emod_emod_of_dvd _ hd, Int.emod_emod_of_dvd _ hd]
  have hl := fi_lt64 (M := M) h2
  rw [e]
  rw [IntKind.wrap_u64]
  omega
theorem fi_congr {a b : Int} {W : Nat} (k : Int) (h : a = b + ((2 ^ W : Nat) : Int) * k) : fi a W = fi b W := by
  unfold fi; rw [h, p2, Int.add_mul_emod_self_left]
theorem wrap64_eq (z : Int) : ∃ k : Int, wrap64 z = z + 18446744073709551616 * k := ⟨-((z + 9223372036854775808) / 18446744073709551616), by unfold wrap64; omega⟩
theorem fi_wrap {W : Nat} (h2 : W ≤ 64) (z : Int) : fi (wrap64 z) W = fi z W := by
  obtain ⟨k, hk⟩ := wrap64_eq z
  have e : (18446744073709551616 : Int) = ((2 ^ W : Nat) : Int) * ((2 ^ (64 - W) : Nat) : Int) := by rw [← Int.natCast_mul, ← Nat.pow_add, show W + (64 - W) = 64 by omega]; rfl
  exact fi_congr (((2 ^ (64 - W) : Nat) : Int) * k) (by rw [hk, e, Int.mul_assoc])
theorem fi_rep (M : Int) (W : Nat) : ∃ k : Int, ((fi M W : Nat) : Int) = M + ((2 ^ W : Nat) : Int) * k := by
  refine ⟨-(M / ((2 ^ W : Nat) : Int)), ?_⟩
  have := Int.emod_add_mul_ediv M ((2 ^ W : Nat) : Int)
  rw [fi_cast, Int.mul_neg]; omega
theorem fi_of {x : Nat} {z k : Int} {W : Nat} (h : (x : Int) = z + ((2 ^ W : Nat) : Int) * k) : x % 2 ^ W = fi z W := by
  apply Int.ofNat_inj.1
  rw [fi_cast, Int.natCast_emod, h, Int.add_mul_emod_self_left]
theorem fi_of_lt {x : Nat} {z k : Int} {W : Nat} (hx : x < 2 ^ W) (h : (x : Int) = z + ((2 ^ W : Nat) : Int) * k) : x = fi z W := by
  rw [← fi_of h, Nat.mod_eq_of_lt hx]
theorem words1 {W : Nat} (h2 : W ≤ 64) (M N : Int) : (fi M W + fi N W) % 2 ^ W = fi (wrap64 (M + N)) W := by
  rw [fi_wrap h2]
  obtain ⟨a, ha⟩ := fi_rep M W
  obtain ⟨b, hb⟩ := fi_rep N W
  exact fi_of (k := a + b) (by rw [Int.natCast_add, ha, hb, Int.mul_add]; omega)
theorem words3 {W : Nat} (h2 : W ≤ 64) (M N : Int) : (fi M W * fi N W) % 2 ^ W = fi (wrap64 (M * N)) W := by
  rw [fi_wrap h2]
  obtain ⟨a, ha⟩ := fi_rep M W
  obtain ⟨b, hb⟩ := fi_rep N W
  refine fi_of (k := M * b + a * N + ((2 ^ W : Nat) : Int) * a * b) ?_
  rw [Int.natCast_mul, ha, hb]
  generalize ((2 ^ W : Nat) : Int) = P
  simp only [Int.mul_add, Int.mul_comm, Int.mul_left_comm]
  omega
theorem words2 {W : Nat} (h2 : W ≤ 64) (M N : Int) : subv W (fi M W) (fi N W) = fi (wrap64 (M - N)) W := by
  rw [fi_wrap h2]
  obtain ⟨a, ha⟩ := fi_rep M W
  obtain ⟨b, hb⟩ := fi_rep N W
  have hl := fi_lt N W
  unfold subv
  rw [Nat.mod_eq_of_lt hl]
  exact fi_of (k := a - b + 1) (by rw [Int.natCast_add, ha, show ((2 ^ W - fi N W : Nat) : Int) = ((2 ^ W : Nat) : Int) - ((fi N W : Nat) : Int) by omega, hb, Int.mul_add, Int.mul_sub]; omega)
theorem words4 {W : Nat} (h2 : W ≤ 64) (M : Int) : subv W 0 (fi M W) = fi (wrap64 (-M)) W := by
  rw [fi_wrap h2]
  obtain ⟨a, ha⟩ := fi_rep M W
  have hl := fi_lt M W
  unfold subv
  rw [Nat.mod_eq_of_lt hl, Nat.zero_add]
  exact fi_of (k := 1 - a) (by rw [show ((2 ^ W - fi M W : Nat) : Int) = ((2 ^ W : Nat) : Int) - ((fi M W : Nat) : Int) by omega, ha, Int.mul_sub]; omega)
theorem words5 {W : Nat} (h2 : W ≤ 64) (M s : Int) : shlv W (fi M W) (lim s W) = fi (wrap64 (M * (2 : Int) ^ min s.toNat 64)) W := by
  rw [fi_wrap h2]
  obtain ⟨a, ha⟩ := fi_rep M W
  have hl : lim s W = lim ((min s.toNat 64 : Nat) : Int) W := by unfold lim; omega
  rw [hl, shlv_mul]
  refine fi_of (k := a * ((2 ^ min s.toNat 64 : Nat) : Int)) ?_
  rw [Int.natCast_mul, ha, p2, Int.add_mul, Int.mul_assoc]
theorem words7 {W : Nat} (h2 : W ≤ 64) (M s : Int) : shv W (fi M W) (lim s W) false = fi (wrap64 (((fi M W : Nat) : Int) / (2 : Int) ^ min s.toNat 64)) W := by
  rw [fi_wrap h2]
  have hl : lim s W = lim ((min s.toNat 64 : Nat) : Int) W := by unfold lim; omega
  have hlt := fi_lt M W
  rw [hl, shv_div hlt, p2, ← Int.natCast_ediv]
  exact fi_of_lt (k := 0) (Nat.lt_of_le_of_lt (Nat.div_le_self _ _) hlt) (by omega)
theorem sar_val {n x L : Nat} (hx : x < 2 ^ n) (hn : 0 < n) (hL : L ≤ n) : ∃ k : Int, ((shv n x L (neg n x) : Nat) : Int) = sval n x / (2 : Int) ^ L + ((2 ^ n : Nat) : Int) * k := by
  have hp := pow_p L
  have hfalse : shv n x L false = x / 2 ^ L := by
    have := shv_div hx L
    rwa [show lim (L : Int) n = L by unfold lim; omega] at this
  rcases hg : neg n x with _ | _
  · refine ⟨0, ?_⟩
    rw [hfalse, sval_pos hg, p2, ← Int.natCast_ediv]; omega
  · refine ⟨1, ?_⟩
    have he : shv n x L true = x / 2 ^ L + 2 ^ (n - L) * (2 ^ L - 1) := by
      have hq : x / 2 ^ L < 2 ^ (n - L) := by rw [Nat.div_lt_iff_lt_mul hp, ← Nat.pow_add, show n - L + L = n by omega]; exact hx
      have hr : 2 ^ L - 1 < 2 ^ L := by omega
      refine same_of (n := n) (shv_lt _ _ _ _) ?_ fun i hi => ?_
      · have := cat_lt hq hr; rwa [show n - L + L = n by omega] at this
      · rw [shv_bit hi, Nat.add_comm (x / 2 ^ L), Nat.testBit_two_pow_mul_add _ hq]
        by_cases h : i + L < n
        · rw [if_pos h, if_pos (by omega), Nat.testBit_div_two_pow]
        · rw [if_neg h, if_neg (by omega), Nat.testBit_two_pow_sub_one]; simp; omega
    have e2 : 2 ^ n = 2 ^ (n - L) * 2 ^ L := by rw [← Nat.pow_add]; congr 1; omega
    have e3 : ((x : Int) - ((2 ^ n : Nat) : Int)) / (2 : Int) ^ L = (x : Int) / (2 : Int) ^ L - ((2 ^ (n - L) : Nat) : Int) := by
      rw [p2, e2, Int.natCast_mul, Int.sub_eq_add_neg, ← Int.neg_mul, Int.add_mul_ediv_right _ _ (by omega)]; omega
    have hm := Nat.le_mul_of_pos_right (2 ^ (n - L)) hp
    rw [he, sval_neg hg, e3, p2, ← Int.natCast_ediv, Int.natCast_add, Nat.mul_sub, Nat.mul_one, ← e2]
    rw [← e2] at hm
    omega
theorem words6 {W : Nat} {M : Int} (h : Sw W M) (s : Int) : shv W (fi M W) (lim s W) (neg W (fi M W)) = fi (M / (2 : Int) ^ min s.toNat 64) W := by
  have hlt := fi_lt M W
  obtain ⟨k, hk⟩ := sar_val hlt h.1 (show lim s W ≤ W by unfold lim; omega)
  rw [sval_fi h] at hk
  have e : M / (2 : Int) ^ lim s W = M / (2 : Int) ^ min s.toNat 64 := by
    obtain ⟨h1, h2, h3, h4⟩ := h
    rcases Nat.lt_or_ge s.toNat W with hs | hs
    · rw [show lim s W = min s.toNat 64 by unfold lim; omega]
    · have big : ∀ q : Nat, W ≤ q → M / (2 : Int) ^ q = if M < 0 then -1 else 0 := fun q hq => by
        have hw := Nat.pow_le_pow_right (show 0 < 2 by decide) (show W - 1 ≤ q by omega)
        rw [p2]
        split
        · exact Int.ediv_eq_neg_one_of_neg_of_le (by omega) (by omega)
        · exact Int.ediv_eq_zero_of_lt (by omega) (by
            have := Nat.pow_lt_pow_right (show 1 < 2 by decide) (show W - 1 < q by omega)
            omega)
      rw [big _ (show W ≤ lim s W by unfold lim; omega), big _ (show W ≤ min s.toNat 64 by omega)]
  rw [e] at hk
  exact fi_of_lt (shv_lt _ _ _ _) hk
end Go.Proofs.Ytaedfoblniadfaa
