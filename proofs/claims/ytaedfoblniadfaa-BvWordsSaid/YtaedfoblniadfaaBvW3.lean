/-
  The plain mathematics of machine words of a width up to 64: quotients, remainders, comparisons. No conditions; nothing of the program.
-/
import Derived.Test.YtaedfoblniadfaaBvW2
namespace Go.Proofs.Ytaedfoblniadfaa
open Go Go.RowKit

theorem subv_fi (W q : Nat) : subv W 0 q = fi (-(q : Int)) W := by
  obtain ⟨k, hk⟩ := subv_val W q
  exact fi_of_lt (mod_lt' _ _) hk
theorem absv_fi {W : Nat} {M : Int} (h : Sw W M) : M = if neg W (fi M W) then -((absv W (fi M W) : Nat) : Int) else ((absv W (fi M W) : Nat) : Int) := by
  have := sval_abs (fi_lt M W)
  rwa [sval_fi h] at this
theorem nat_fi {x W : Nat} (hx : x < 2 ^ W) : x = fi (x : Int) W := fi_of_lt (k := 0) hx (by omega)
theorem words_nz {W : Nat} {N : Int} (h : Sw W N) (hN : N ≠ 0) : fi N W ≠ 0 := by
  intro e
  have := sval_fi h
  rw [e] at this
  apply hN
  rw [← this]
  unfold sval
  have : neg W 0 = false := by simp [neg]
  rw [this]; rfl
theorem words_q {W : Nat} {M N : Int} (hM : Sw W M) (hN : Sw W N) : sq W (fi M W) W (fi N W) = fi (wrap64 (M.tdiv N)) W := by
  rw [fi_wrap hM.2.1]
  have eM := absv_fi hM
  have eN := absv_fi hN
  have hlt : absv W (fi M W) / absv W (fi N W) < 2 ^ W := Nat.lt_of_le_of_lt (Nat.div_le_self _ _) (absv_lt (fi_lt M W))
  unfold sq
  generalize absv W (fi M W) = X at *
  generalize absv W (fi N W) = Y at *
  rcases hm : neg W (fi M W) with _ | _ <;> rcases hn : neg W (fi N W) with _ | _ <;> rw [hm] at eM <;> rw [hn] at eN <;> simp only [Bool.false_eq_true, if_false, if_true] at eM eN
  · rw [show (false != false) = false from rfl, if_neg (by decide), eM, eN, ← Int.ofNat_tdiv]; exact nat_fi hlt
  · rw [show (false != true) = true from rfl, if_pos rfl, eM, eN, Int.tdiv_neg, ← Int.ofNat_tdiv]; exact subv_fi _ _
  · rw [show (true != false) = true from rfl, if_pos rfl, eM, eN, Int.neg_tdiv, ← Int.ofNat_tdiv]; exact subv_fi _ _
  · rw [show (true != true) = false from rfl, if_neg (by decide), eM, eN, Int.neg_tdiv, Int.tdiv_neg, Int.neg_neg, ← Int.ofNat_tdiv]; exact nat_fi hlt
theorem words_r {W : Nat} {M N : Int} (hM : Sw W M) (hN : Sw W N) : sr W (fi M W) W (fi N W) = fi (M.tmod N) W := by
  have eM := absv_fi hM
  have eN := absv_fi hN
  have hlt : absv W (fi M W) % absv W (fi N W) < 2 ^ W := Nat.lt_of_le_of_lt (Nat.mod_le _ _) (absv_lt (fi_lt M W))
  unfold sr
  generalize absv W (fi M W) = X at *
  generalize absv W (fi N W) = Y at *
  rcases hm : neg W (fi M W) with _ | _ <;> rcases hn : neg W (fi N W) with _ | _ <;> rw [hm] at eM <;> rw [hn] at eN <;> simp only [Bool.false_eq_true, if_false, if_true] at eM eN ⊢
  · rw [eM, eN, ← Int.ofNat_tmod]; exact nat_fi hlt
  · rw [eM, eN, Int.tmod_neg, ← Int.ofNat_tmod]; exact nat_fi hlt
  · rw [eM, eN, Int.neg_tmod, ← Int.ofNat_tmod]; exact subv_fi _ _
  · rw [eM, eN, Int.neg_tmod, Int.tmod_neg, ← Int.ofNat_tmod]; exact subv_fi _ _
theorem words_uq {W : Nat} (h2 : W ≤ 64) (M N : Int) : fi M W / fi N W = fi (wrap64 (IntKind.u64.wrap (((fi M W : Nat) : Int) / ((fi N W : Nat) : Int)))) W := by
  have hl : fi M W / fi N W < 2 ^ W := Nat.lt_of_le_of_lt (Nat.div_le_self _ _) (fi_lt M W)
  have h64 := Nat.lt_of_lt_of_le hl (Nat.pow_le_pow_right (by decide) h2)
  rw [fi_wrap h2, ← Int.natCast_ediv]
  generalize fi M W / fi N W = q at *
  rw [IntKind.wrap_u64, Int.emod_eq_of_lt (by omega) (by omega)]
  exact nat_fi hl
theorem words_ur {W : Nat} (h2 : W ≤ 64) (M N : Int) : fi M W % fi N W = fi (wrap64 (((fi M W : Nat) : Int) % ((fi N W : Nat) : Int))) W := by
  have hl : fi M W % fi N W < 2 ^ W := Nat.lt_of_le_of_lt (Nat.mod_le _ _) (fi_lt M W)
  rw [fi_wrap h2, ← Int.natCast_emod]
  exact nat_fi hl
end Go.Proofs.Ytaedfoblniadfaa
