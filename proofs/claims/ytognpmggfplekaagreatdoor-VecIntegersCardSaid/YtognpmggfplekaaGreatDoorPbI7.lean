/-
  Shifts to the right. Mathematics, no conditions.
-/
import Derived.Test.YtognpmggfplekaaGreatDoorPbI6
set_option maxRecDepth 100000
namespace Go.Proofs.YtognpmggfplekaaGreatDoor
open Go Go.RowKit

theorem fi_div (i : Int) (n k : Nat) : B.fi (i / (2 : Int) ^ k) n = B.fi i (n + k) / 2 ^ k := by
  symm
  have hl := fi_lt' i (n + k)
  refine fi_of (Nat.div_lt_of_lt_mul (by rw [← Nat.pow_add, Nat.add_comm k n]; exact hl)) ?_
  rw [Int.natCast_ediv, fi_cast, p2i]
  have hk := p2pos k
  have e : i = i % (2 : Int) ^ (n + k) + (2 : Int) ^ k * ((2 : Int) ^ n * (i / (2 : Int) ^ (n + k))) := by
    have := Int.emod_add_mul_ediv i ((2 : Int) ^ (n + k))
    rw [Int.pow_add] at this ⊢
    rw [← Int.mul_assoc, Int.mul_comm ((2 : Int) ^ k)]
    exact this.symm
  conv => rhs; rw [e, Int.add_mul_ediv_left _ _ (by omega), Int.add_mul_emod_self_left]
theorem shr_bits {l : List Int} {S : Bool} (hk : knL l = true) (h0 : 0 < l.length) {k : Nat} {s : Int} (hs : s = k ∨ (s = l.length ∧ l.length ≤ k)) :
    (tab l.length fun i => atI l (frR i s) (fill ⟨l, S⟩)) = frN l.length (B.fi (bvl S l / (2 : Int) ^ k) l.length) := by
  unfold frN
  refine tab_congr fun i hi => ?_
  unfold bvl
  rw [fi_div, ← num_ext S h0 (by omega), Nat.testBit_div_two_pow]
  have kf := (kn_fit (s := S) h0 (show l.length ≤ l.length + k by omega)).trans hk
  rw [← nth_test kf (by rw [fit_len]; omega)]
  unfold fitV
  rw [nth_tab _ (by omega)]
  unfold atI frR ext
  by_cases c : i + k < l.length
  · rw [if_pos (by omega), if_pos (by simp only; omega), show ((i : Int) + s).toNat = i + k by omega, Nat.add_comm]
  · rw [if_neg (by omega), if_neg (by simp only; omega)]
theorem shr_int {a b : V} (ha : okB a.l = true) (hb : okB b.l = true) (ka : knL a.l = true) (kb : knL b.l = true) :
    shV frR (fill (nrm a)) a b = ⟨frN a.l.length (B.fi (bvl a.s a.l / (2 : Int) ^ num b.l) a.l.length), a.s⟩ := by
  unfold shV
  rw [nrm_of ha, nrm_of hb, kb]
  simp only [if_true]
  congr 1
  refine shr_bits (S := a.s) ka (ok_len ha).1 ?_
  unfold shN
  split
  · exact .inl rfl
  · exact .inr ⟨rfl, by omega⟩
end Go.Proofs.YtognpmggfplekaaGreatDoor
