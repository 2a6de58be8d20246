/-
  Integers modulo a power of two and the bits of vectors. Mathematics, no conditions.
-/
import Derived.Test.YtognpmggfplekaaGreatDoorPbSa
set_option maxRecDepth 100000
namespace Go.Proofs.YtognpmggfplekaaGreatDoor
open Go Go.RowKit

theorem p2i (n : Nat) : ((2 ^ n : Nat) : Int) = (2 : Int) ^ n := by simp
theorem p2pos (n : Nat) : (0 : Int) < (2 : Int) ^ n := by rw [← p2i]; have := pow_p n; omega
theorem fi_cast (z : Int) (n : Nat) : ((B.fi z n : Nat) : Int) = z % (2 : Int) ^ n := by
  unfold B.fi
  exact Int.toNat_of_nonneg (Int.emod_nonneg _ (by have := p2pos n; omega))
theorem fi_of {x n : Nat} {z : Int} (h : x < 2 ^ n) (e : (x : Int) % (2 : Int) ^ n = z % (2 : Int) ^ n) : x = B.fi z n := by
  have h1 := fi_cast z n
  have h2 : (x : Int) % (2 : Int) ^ n = x := Int.emod_eq_of_lt (by omega) (by rw [← p2i]; omega)
  omega
theorem fi_lt' (z : Int) (n : Nat) : B.fi z n < 2 ^ n := B.fi_lt z n
theorem zv_fi {S : Bool} {n x : Nat} (h : x < 2 ^ n) : x = B.fi (zvS S n x) n := by
  refine fi_of h ?_
  unfold zvS
  cases S
  · rfl
  · simp only [if_true]
    unfold B.sval
    split
    · rw [p2i, Int.sub_emod, Int.emod_self, Int.sub_zero, Int.emod_emod]
    · rfl
theorem fi_add (i k : Int) (n : Nat) : (B.fi i n + B.fi k n) % 2 ^ n = B.fi (i + k) n := by
  refine fi_of (Nat.mod_lt _ (pow_p n)) ?_
  rw [Int.natCast_emod, Int.natCast_add, fi_cast, fi_cast, p2i, Int.emod_emod, ← Int.add_emod]
theorem fi_mul (i k : Int) (n : Nat) : (B.fi i n * B.fi k n) % 2 ^ n = B.fi (i * k) n := by
  refine fi_of (Nat.mod_lt _ (pow_p n)) ?_
  rw [Int.natCast_emod, Int.natCast_mul, fi_cast, fi_cast, p2i, Int.emod_emod, ← Int.mul_emod]
theorem fi_sub (i k : Int) (n : Nat) : B.subv n (B.fi i n) (B.fi k n) = B.fi (i - k) n := by
  unfold B.subv
  refine fi_of (Nat.mod_lt _ (pow_p n)) ?_
  have hk := fi_lt' k n
  rw [Nat.mod_eq_of_lt hk, Int.natCast_emod, Int.natCast_add, Int.natCast_sub (by omega), fi_cast, fi_cast, p2i, Int.emod_emod]
  have : i % (2 : Int) ^ n + ((2 : Int) ^ n - k % (2 : Int) ^ n) = (i % (2 : Int) ^ n - k % (2 : Int) ^ n) + (2 : Int) ^ n := by omega
  rw [this, Int.add_emod_right, ← Int.sub_emod]
theorem num_ext {x : List Int} (S : Bool) {W : Nat} (h0 : 0 < x.length) (hW : x.length ≤ W) : num (fitV ⟨x, S⟩ W).l = B.fi (zvS S x.length (num x)) W := by
  obtain ⟨d, rfl⟩ : ∃ d, W = x.length + d := ⟨W - x.length, by omega⟩
  have e := zv_ext x S h0 d
  have := zv_fi (S := S) (num_lt' (fit_len x S (x.length + d)))
  rw [e] at this
  exact this
def bvl (S : Bool) (x : List Int) : Int := zvS S x.length (num x)
theorem bal_nums {a b : V} (ha : okB a.l = true) (hb : okB b.l = true) (ka : knL a.l = true) (kb : knL b.l = true) :
    balS a b = (a.s && b.s) ∧ balN a b = max a.l.length b.l.length ∧ knL (balL a b).l = true ∧ knL (balR a b).l = true ∧
    num (balL a b).l = B.fi (bvl (a.s && b.s) a.l) (balN a b) ∧ num (balR a b).l = B.fi (bvl (a.s && b.s) b.l) (balN a b) := by
  have e1 : balS a b = (a.s && b.s) := by unfold balS; rw [nrm_of ha, nrm_of hb]
  have e2 : balN a b = max a.l.length b.l.length := by unfold balN; rw [nrm_of ha, nrm_of hb]
  have la := (ok_len ha).1
  have lb := (ok_len hb).1
  have m1 : a.l.length ≤ balN a b := by rw [e2]; exact Nat.le_max_left _ _
  have m2 : b.l.length ≤ balN a b := by rw [e2]; exact Nat.le_max_right _ _
  refine ⟨e1, e2, ?_, ?_, ?_, ?_⟩
  · unfold balL; rw [nrm_of ha, kn_fit la m1]; exact ka
  · unfold balR; rw [nrm_of hb, kn_fit lb m2]; exact kb
  · unfold balL; rw [nrm_of ha, e1]; exact num_ext _ la m1
  · unfold balR; rw [nrm_of hb, e1]; exact num_ext _ lb m2
theorem arV_int {F : Nat → Nat → Nat → Option Nat} {f : Int → Int → Int} (hF : ∀ i k n, F n (B.fi i n) (B.fi k n) = some (B.fi (f i k) n)) {a b : V} (ha : okB a.l = true) (hb : okB b.l = true) (ka : knL a.l = true) (kb : knL b.l = true) :
    arV F a b = ⟨frN (balN a b) (B.fi (f (bvl (a.s && b.s) a.l) (bvl (a.s && b.s) b.l)) (balN a b)), a.s && b.s⟩ := by
  obtain ⟨e1, _, k1, k2, n1, n2⟩ := bal_nums ha hb ka kb
  unfold arV
  rw [k1, k2, n1, n2, hF, e1]
  rfl
theorem add_int : ∀ i k n, fAdd n (B.fi i n) (B.fi k n) = some (B.fi (i + k) n) := fun i k n => congrArg some (fi_add i k n)
theorem sub_int : ∀ i k n, fSub n (B.fi i n) (B.fi k n) = some (B.fi (i - k) n) := fun i k n => congrArg some (fi_sub i k n)
theorem mul_int : ∀ i k n, fMul n (B.fi i n) (B.fi k n) = some (B.fi (i * k) n) := fun i k n => congrArg some (fi_mul i k n)
theorem from_ok {z m : Int} {n : Nat} (s : Bool) (hm : m = n) (h1 : 1 ≤ n) (h2 : n ≤ 128) : vwE m = 0 ∧ fromV z m s = ⟨frN n (B.fi z n), s⟩ := by
  subst hm
  unfold vwE fromV
  rw [vw_ok (by omega) (by omega), Int.toNat_natCast]
  exact ⟨rfl, rfl⟩
end Go.Proofs.YtognpmggfplekaaGreatDoor
