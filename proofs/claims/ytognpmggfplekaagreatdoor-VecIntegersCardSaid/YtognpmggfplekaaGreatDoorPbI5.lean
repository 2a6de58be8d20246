/-
  Case equality, negation. Mathematics, no conditions.
-/
import Derived.Test.YtognpmggfplekaaGreatDoorPbI4
set_option maxRecDepth 100000
namespace Go.Proofs.YtognpmggfplekaaGreatDoor
open Go Go.RowKit

theorem case_int {a b : V} (ha : okB a.l = true) (hb : okB b.l = true) (ka : knL a.l = true) (kb : knL b.l = true) :
    mtB noW a b = decide (bvl (a.s && b.s) a.l = bvl (a.s && b.s) b.l) := by
  obtain ⟨_, _, k1, k2, _, _⟩ := bal_nums ha hb ka kb
  obtain ⟨v1, v2, x1, x2, l1, l2⟩ := bal_vals ha hb
  have q : mtB noW a b = true ↔ bvl (a.s && b.s) a.l = bvl (a.s && b.s) b.l := by
    rw [← v1, ← v2, zv_inj x1 x2, ← num_eq k1 k2 (by omega)]
    unfold mtB mtL
    rw [List.all_eq_true]
    constructor
    · intro f
      refine list_ext (by omega) fun i hi => ?_
      have := f i (List.mem_range.2 (by omega))
      unfold tst noW at this
      rcases knL_iff.1 k1 i (by omega) with p | p <;> rcases knL_iff.1 k2 i (by omega) with q | q <;> rw [p, q] at this ⊢ <;> first | rfl | exact absurd this (by decide)
    · intro f i _
      unfold tst sameB
      rw [f]
      simp
  by_cases c : bvl (a.s && b.s) a.l = bvl (a.s && b.s) b.l
  · rw [decide_eq_true c]; exact q.2 c
  · rw [decide_eq_false c, ← Bool.not_eq_true]; exact fun h => c (q.1 h)
theorem bvl_zero {l : List Int} (S T : Bool) : bvl S l = 0 ↔ bvl T l = 0 := by
  unfold bvl
  rw [zv_zero (num_lt' rfl), zv_zero (num_lt' rfl)]
theorem all_zero (n : Nat) : num (tab n fun _ => (0 : Int)) = 0 :=
  (num_zero (knL_iff.2 fun i hi => by rw [tab_len] at hi; rw [nth_tab _ hi]; exact .inl rfl)).2 fun i hi => by rw [tab_len] at hi; rw [nth_tab _ hi]
theorem neg_int {v : V} (hv : okB v.l = true) (kv : knL v.l = true) : negV v = ⟨frN v.l.length (B.fi (-(bvl v.s v.l)) v.l.length), v.s⟩ := by
  have hl := ok_len hv
  have okz : okB (allV 0 v.l.length v.s).l = true := ok_mk (by unfold allV; rw [tab_len]; omega) (by unfold allV; rw [tab_len]; omega) fun i hi => by
    unfold allV at hi ⊢
    rw [tab_len] at hi
    rw [nth_tab _ hi]
    decide
  have kz : knL (allV 0 v.l.length v.s).l = true := knL_iff.2 fun i hi => by
    unfold allV at hi ⊢
    rw [tab_len] at hi
    rw [nth_tab _ hi]
    exact .inl rfl
  have z0 : bvl v.s (allV 0 v.l.length v.s).l = 0 := (zv_zero (num_lt' rfl)).2 (all_zero _)
  have eN : balN (allV 0 v.l.length v.s) v = v.l.length := by
    unfold balN
    rw [nrm_of okz, nrm_of hv]
    show max (tab v.l.length fun _ => (0 : Int)).length v.l.length = _
    rw [tab_len, Nat.max_self]
  unfold negV
  rw [nrm_of hv, arV_int sub_int okz hv kz kv, eN]
  have es : ((allV 0 v.l.length v.s).s && v.s) = v.s := Bool.and_self _
  rw [es, z0, Int.zero_sub]
end Go.Proofs.YtognpmggfplekaaGreatDoor
