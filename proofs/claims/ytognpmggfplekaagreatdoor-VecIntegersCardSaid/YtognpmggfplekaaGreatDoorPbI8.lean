/-
  The integers of short vectors. Mathematics, no conditions.
-/
import Derived.Test.YtognpmggfplekaaGreatDoorPbI7
set_option maxRecDepth 100000
namespace Go.Proofs.YtognpmggfplekaaGreatDoor
open Go Go.RowKit

theorem bvl_bd {l : List Int} (S : Bool) (h : l.length ≤ 31) : -2147483648 ≤ bvl S l ∧ bvl S l < 2147483648 := by
  have h1 := num_lt' (l := l) rfl
  have h2 : 2 ^ l.length ≤ 2 ^ 31 := Nat.pow_le_pow_right (by decide) h
  unfold bvl zvS B.sval
  cases S
  · simp only [Bool.false_eq_true, if_false]; omega
  · simp only [if_true]
    split <;> omega
theorem int_short {l : List Int} (S : Bool) (hok : okB l = true) (hk : knL l = true) (h : l.length ≤ 31) : iOk ⟨l, S⟩ = true ∧ iVal ⟨l, S⟩ = bvl S l := by
  obtain ⟨a, b⟩ := zv_fit (S := S) rfl (ok_len hok).1 hok hk
  have q := bvl_bd (l := l) S h
  unfold bvl at q ⊢
  rw [a, b, if_pos (by omega)]
  exact ⟨decide_eq_true (by omega), rfl⟩
end Go.Proofs.YtognpmggfplekaaGreatDoor
