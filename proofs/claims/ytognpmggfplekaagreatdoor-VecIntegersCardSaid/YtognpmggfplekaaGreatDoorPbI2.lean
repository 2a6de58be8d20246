/-
  Signed division of integers and of their bits. Mathematics, no conditions.
-/
import Derived.Test.YtognpmggfplekaaGreatDoorPbI1
set_option maxRecDepth 100000
namespace Go.Proofs.YtognpmggfplekaaGreatDoor
open Go Go.RowKit

theorem fi_zero (n : Nat) : B.fi 0 n = 0 := by unfold B.fi; simp
theorem fi_neg (k : Int) (n : Nat) : B.subv n 0 (B.fi k n) = B.fi (-k) n := by
  have := fi_sub 0 k n
  rwa [fi_zero, Int.zero_sub] at this
theorem fi_nat {a n : Nat} (h : a < 2 ^ n) : B.fi (a : Int) n = a := by
  symm; exact fi_of h rfl
theorem sval_sgn {n x : Nat} (h : x < 2 ^ n) : B.sval n x = (if B.neg n x then -(B.absv n x : Int) else B.absv n x) ∧ (B.absv n x) < 2 ^ n := by
  unfold B.sval B.absv
  have hp := pow_p n
  by_cases e : B.neg n x = true
  · rw [e]
    simp only [if_true]
    have h0 : 0 < x := by
      rcases Nat.eq_zero_or_pos x with rfl | h0
      · unfold B.neg at e; simp at e
      · exact h0
    omega
  · rw [Bool.not_eq_true] at e
    rw [e]
    exact ⟨rfl, h⟩
theorem sq_int {n x y : Nat} (hx : x < 2 ^ n) (hy : y < 2 ^ n) : B.sq n x n y = B.fi ((B.sval n x).tdiv (B.sval n y)) n := by
  obtain ⟨ex, lx⟩ := sval_sgn hx
  obtain ⟨ey, ly⟩ := sval_sgn hy
  have lq : B.absv n x / B.absv n y < 2 ^ n := Nat.lt_of_le_of_lt (Nat.div_le_self _ _) lx
  have eq : ((B.absv n x : Int)).tdiv (B.absv n y) = ((B.absv n x / B.absv n y : Nat) : Int) := rfl
  unfold B.sq
  rw [ex, ey]
  cases B.neg n x <;> cases B.neg n y <;> simp only [bne_self_eq_false, Bool.false_bne, Bool.true_bne, Bool.not_false, if_true, if_false, Bool.false_eq_true, Int.neg_tdiv, Int.tdiv_neg, Int.neg_neg, eq]
  · exact (fi_nat lq).symm
  · rw [← fi_neg, fi_nat lq]
  · rw [← fi_neg, fi_nat lq]
  · exact (fi_nat lq).symm
theorem sr_int {n x y : Nat} (hx : x < 2 ^ n) (hy : y < 2 ^ n) : B.sr n x n y = B.fi ((B.sval n x).tmod (B.sval n y)) n := by
  obtain ⟨ex, lx⟩ := sval_sgn hx
  obtain ⟨ey, ly⟩ := sval_sgn hy
  have lq : B.absv n x % B.absv n y < 2 ^ n := Nat.lt_of_le_of_lt (Nat.mod_le _ _) lx
  have eq : ((B.absv n x : Int)).tmod (B.absv n y) = ((B.absv n x % B.absv n y : Nat) : Int) := rfl
  unfold B.sr
  rw [ex, ey]
  cases B.neg n x <;> cases B.neg n y <;> simp only [if_true, if_false, Bool.false_eq_true, Int.neg_tmod, Int.tmod_neg, eq]
  · exact (fi_nat lq).symm
  · exact (fi_nat lq).symm
  · rw [← fi_neg, fi_nat lq]
  · rw [← fi_neg, fi_nat lq]
theorem bal_vals {a b : V} (ha : okB a.l = true) (hb : okB b.l = true) :
    zvS (a.s && b.s) (balN a b) (num (balL a b).l) = bvl (a.s && b.s) a.l ∧ zvS (a.s && b.s) (balN a b) (num (balR a b).l) = bvl (a.s && b.s) b.l ∧
    num (balL a b).l < 2 ^ balN a b ∧ num (balR a b).l < 2 ^ balN a b ∧ (balL a b).l.length = balN a b ∧ (balR a b).l.length = balN a b := by
  have e1 : balS a b = (a.s && b.s) := by unfold balS; rw [nrm_of ha, nrm_of hb]
  have e2 : balN a b = max a.l.length b.l.length := by unfold balN; rw [nrm_of ha, nrm_of hb]
  have la := (ok_len ha).1
  have lb := (ok_len hb).1
  have m1 : a.l.length ≤ balN a b := by rw [e2]; exact Nat.le_max_left _ _
  have m2 : b.l.length ≤ balN a b := by rw [e2]; exact Nat.le_max_right _ _
  have f1 : (balL a b).l = (fitV ⟨a.l, a.s && b.s⟩ (balN a b)).l := by unfold balL; rw [nrm_of ha, e1]
  have f2 : (balR a b).l = (fitV ⟨b.l, a.s && b.s⟩ (balN a b)).l := by unfold balR; rw [nrm_of hb, e1]
  have l1 : (balL a b).l.length = balN a b := by rw [f1]; exact fit_len _ _ _
  have l2 : (balR a b).l.length = balN a b := by rw [f2]; exact fit_len _ _ _
  refine ⟨?_, ?_, num_lt' l1, num_lt' l2, l1, l2⟩
  · obtain ⟨d, hd⟩ : ∃ d, balN a b = a.l.length + d := ⟨balN a b - a.l.length, by omega⟩
    rw [f1, hd]
    exact zv_ext a.l _ la d
  · obtain ⟨d, hd⟩ : ∃ d, balN a b = b.l.length + d := ⟨balN a b - b.l.length, by omega⟩
    rw [f2, hd]
    exact zv_ext b.l _ lb d
theorem zv_zero {S : Bool} {n x : Nat} (h : x < 2 ^ n) : zvS S n x = 0 ↔ x = 0 := by
  unfold zvS
  cases S
  · simp
  · simp only [if_true]
    constructor
    · intro e
      unfold B.sval at e
      split at e
      · omega
      · omega
    · rintro rfl
      unfold B.sval B.neg
      simp
theorem div_int {a b : V} (ha : okB a.l = true) (hb : okB b.l = true) (ka : knL a.l = true) (kb : knL b.l = true) (hz : bvl (a.s && b.s) b.l ≠ 0) :
    divV true a b = ⟨frN (balN a b) (B.fi ((bvl (a.s && b.s) a.l).tdiv (bvl (a.s && b.s) b.l)) (balN a b)), a.s && b.s⟩ ∧
    divV false a b = ⟨frN (balN a b) (B.fi ((bvl (a.s && b.s) a.l).tmod (bvl (a.s && b.s) b.l)) (balN a b)), a.s && b.s⟩ := by
  obtain ⟨e1, _, k1, k2, _, _⟩ := bal_nums ha hb ka kb
  obtain ⟨v1, v2, x1, x2, _, _⟩ := bal_vals ha hb
  have hy : ¬ num (balR a b).l = 0 := fun h => hz (by rw [← v2]; exact (zv_zero x2).2 h)
  rw [← v1, ← v2]
  unfold divV arV
  rw [k1, k2, e1]
  revert x1 x2 hy
  generalize num (balL a b).l = x
  generalize num (balR a b).l = y
  intro x1 x2 hy
  cases hS : (a.s && b.s)
  · simp only [Bool.false_eq_true, if_false, Bool.and_self, if_true, divU, dvF, if_neg hy, zvS]
    rw [show (x : Int).tdiv y = ((x / y : Nat) : Int) from rfl, show (x : Int).tmod y = ((x % y : Nat) : Int) from rfl,
      fi_nat (Nat.lt_of_le_of_lt (Nat.div_le_self _ _) x1), fi_nat (Nat.lt_of_le_of_lt (Nat.mod_le _ _) x1)]
    exact ⟨rfl, rfl⟩
  · simp only [Bool.false_eq_true, if_false, Bool.and_self, if_true, divS, dvF, if_neg hy, zvS]
    rw [sq_int x1 x2, sr_int x1 x2]
    exact ⟨rfl, rfl⟩
theorem div_zero {a b : V} (ha : okB a.l = true) (hb : okB b.l = true) (ka : knL a.l = true) (kb : knL b.l = true) (hz : bvl (a.s && b.s) b.l = 0) (f : Bool) :
    divV f a b = allV 2 (balN a b) (a.s && b.s) := by
  obtain ⟨e1, _, k1, k2, _, _⟩ := bal_nums ha hb ka kb
  obtain ⟨v1, v2, x1, x2, _, _⟩ := bal_vals ha hb
  have hy : num (balR a b).l = 0 := (zv_zero x2).1 (v2.trans hz)
  unfold divV arV
  rw [k1, k2, e1, hy]
  cases (a.s && b.s) <;> rfl
theorem cmp_int {a b : V} (ha : okB a.l = true) (hb : okB b.l = true) (ka : knL a.l = true) (kb : knL b.l = true) (p : Int → Bool) :
    cmpV p a b = fromI (p (B.cmpI (bvl (a.s && b.s) a.l) (bvl (a.s && b.s) b.l))) := by
  obtain ⟨e1, _, k1, k2, _, _⟩ := bal_nums ha hb ka kb
  obtain ⟨v1, v2, _, _, _, _⟩ := bal_vals ha hb
  unfold cmpV cmpB
  rw [k1, k2, e1, ← v1, ← v2]
  unfold zvS
  cases (a.s && b.s)
  · simp only [Bool.false_eq_true, if_false, Bool.and_self, if_true]
  · simp only [Bool.and_self, if_true]
end Go.Proofs.YtognpmggfplekaaGreatDoor
