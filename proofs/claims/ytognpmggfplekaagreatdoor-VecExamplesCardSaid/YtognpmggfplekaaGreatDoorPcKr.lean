/-
  The frame behind a long region whose operations fill slots one after another. No conditions.
-/
import Derived.Test.YtognpmggfplekaaGreatDoorPcKt
set_option maxRecDepth 100000
namespace Go.Proofs.YtognpmggfplekaaGreatDoor
open Go Go.RowKit

theorem puts_run' : ∀ (vs pre mid post : List Value) (dl), mid.length = vs.length → puts ⟨(pre ++ mid ++ post).toArray, dl⟩ ((List.range' pre.length vs.length).map some) vs = ⟨(pre ++ vs ++ post).toArray, dl⟩
  | [], pre, mid, post, dl, h => by
    obtain rfl : mid = [] := List.length_eq_zero_iff.1 h
    rfl
  | v :: vs, pre, [], post, dl, h => by simp at h
  | v :: vs, pre, m :: mid, post, dl, h => by
    have ih := puts_run' vs (pre ++ [v]) mid post dl (by simpa using h)
    rw [List.length_append, List.length_singleton] at ih
    rw [List.length_cons, List.range'_succ, List.map_cons, puts]
    have e : Act.put ⟨(pre ++ m :: mid ++ post).toArray, dl⟩ (some pre.length) v = ⟨(pre ++ [v] ++ mid ++ post).toArray, dl⟩ := by
      simp only [Act.put, List.setIfInBounds_toArray]
      congr 2
      rw [List.append_assoc, List.set_append_right _ _ (Nat.le_refl _), Nat.sub_self]
      simp
    rw [e, ih]
    simp
theorem puts_run (k n : Nat) {ds : List (Option Tmp)} {vs L : List Value} {dl} (hd : ds = (List.range' k n).map some) (hv : vs.length = n) (hL : k + n ≤ L.length) :
    puts ⟨L.toArray, dl⟩ ds vs = ⟨(L.take k ++ (vs ++ L.drop (k + n))).toArray, dl⟩ := by
  have e : L = L.take k ++ (L.drop k).take n ++ L.drop (k + n) := by
    rw [← List.drop_drop, List.append_assoc, List.take_append_drop, List.take_append_drop]
  have hk : (L.take k).length = k := by rw [List.length_take]; omega
  have := puts_run' vs (L.take k) ((L.drop k).take n) (L.drop (k + n)) dl (by rw [List.length_take, List.length_drop, hv]; omega)
  rw [hk, hv, ← e] at this
  rw [hd, this, List.append_assoc]
theorem cons8 {n : Nat} (l : List Value) (h : l.length = n + 8) : ∃ a b c d e f g i t, l = a :: b :: c :: d :: e :: f :: g :: i :: t ∧ t.length = n := by
  match l, h with
  | a :: b :: c :: d :: e :: f :: g :: i :: t, h => exact ⟨a, b, c, d, e, f, g, i, t, rfl, by simpa using h⟩
end Go.Proofs.YtognpmggfplekaaGreatDoor
