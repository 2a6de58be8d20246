/-
  Slices of a concatenation, putting a slice back, resizing and back, the value of an extended vector. Mathematics, no conditions.
-/
import Derived.Test.YtognpmggfplekaaGreatDoorPbW7
set_option maxRecDepth 100000
namespace Go.Proofs.YtognpmggfplekaaGreatDoor
open Go Go.RowKit

theorem vw_ok {m : Int} (h : 1 ≤ m) (h' : m ≤ 128) : vwB m = true := by unfold vwB; simp; omega
theorem res_ok {x : List Int} {s : Bool} (hx : okB x = true) {m : Int} (h : 1 ≤ m) (h' : m ≤ 128) : vwE m = 0 ∧ resV ⟨x, s⟩ m = fitV ⟨x, s⟩ m.toNat := by
  unfold vwE resV
  rw [vw_ok h h', nrm_of (show okB (V.mk x s).l = true from hx)]
  exact ⟨rfl, rfl⟩
theorem fit_ok' {x : List Int} {s : Bool} (hx : okB x = true) {n : Nat} (h0 : 0 < n) (h1 : n ≤ 128) : okB (fitV ⟨x, s⟩ n).l = true := fit_ok (v := ⟨x, s⟩) (ok_le hx) h0 h1
theorem res_back {x : List Int} {s : Bool} (hx : okB x = true) {n : Nat} (h : x.length ≤ n) (h' : n ≤ 128) : resV (fitV ⟨x, s⟩ n) (x.length : Int) = ⟨x, s⟩ := by
  have hl := ok_len hx
  have e := (res_ok (s := s) (fit_ok' (s := s) hx (n := n) (by omega) h') (m := (x.length : Int)) (by omega) (by omega)).2
  refine e.trans ?_
  rw [Int.toNat_natCast]
  show fitV (fitV ⟨x, s⟩ n) x.length = _
  unfold fitV
  congr 1
  have : tab x.length (nth x) = x := tab_nth x
  refine Eq.trans ?_ this
  refine tab_congr fun i hi => ?_
  show ext ⟨tab n (ext ⟨x, s⟩), s⟩ i = nth x i
  unfold ext
  rw [tab_len, if_pos (by omega), nth_tab _ (by omega), if_pos hi]
theorem fill_fit (x : List Int) (s : Bool) {n : Nat} (h0 : 0 < x.length) (h : x.length ≤ n) : fill (fitV ⟨x, s⟩ n) = fill ⟨x, s⟩ := by
  unfold fill fitV
  simp only [tab_len]
  cases s
  · rfl
  · simp only [if_true]
    rw [nth_tab _ (by omega)]
    unfold ext
    by_cases hh : n - 1 < x.length
    · have : n = x.length := by omega
      rw [if_pos hh, this]
    · rw [if_neg hh]
      rfl
theorem fit_next (x : List Int) (s : Bool) {n : Nat} (_h0 : 0 < x.length) (h : x.length ≤ n) : (fitV ⟨x, s⟩ (n + 1)).l = (fitV ⟨x, s⟩ n).l ++ [fill ⟨x, s⟩] := by
  unfold fitV
  have : ext ⟨x, s⟩ n = fill ⟨x, s⟩ := by
    unfold ext
    exact if_neg (show ¬ n < x.length by omega)
  rw [tab_snoc, this]
theorem fit_self (x : List Int) (s : Bool) : (fitV ⟨x, s⟩ x.length).l = x := by
  unfold fitV
  have : tab x.length (nth x) = x := tab_nth x
  refine Eq.trans ?_ this
  refine tab_congr fun i hi => ?_
  unfold ext
  rw [if_pos hi]
def zvS (S : Bool) (N x : Nat) : Int := if S then B.sval N x else x
theorem iv_of {n x : Nat} {z : Int} (h : B.sval n x = z) : B.iOk n x = decide (-9223372036854775808 ≤ z ∧ z ≤ 9223372036854775807) ∧ B.iVal n x = if -9223372036854775808 ≤ z ∧ z ≤ 9223372036854775807 then z else 0 := by
  subst h
  refine ⟨decide_eq_decide.2 Iff.rfl, ?_⟩
  unfold B.iVal
  by_cases hf : -9223372036854775808 ≤ B.sval n x ∧ B.sval n x ≤ 9223372036854775807
  · rw [if_pos hf, if_pos (show B.iFit n x from hf)]
  · rw [if_neg hf, if_neg (show ¬ B.iFit n x from hf)]
theorem zv_fit {S : Bool} {N : Nat} {l : List Int} (hl : l.length = N) (h0 : 0 < N) (hok : okB l = true) (hk : knL l = true) :
    iOk ⟨l, S⟩ = decide (-9223372036854775808 ≤ zvS S N (num l) ∧ zvS S N (num l) ≤ 9223372036854775807) ∧ iVal ⟨l, S⟩ = if -9223372036854775808 ≤ zvS S N (num l) ∧ zvS S N (num l) ≤ 9223372036854775807 then zvS S N (num l) else 0 := by
  have e1 : nrm ⟨l, S⟩ = ⟨l, S⟩ := nrm_of hok
  have e2 : kn ⟨l, S⟩ = true := by unfold kn; rw [e1]; exact hk
  unfold iOk iVal
  rw [e1, e2]
  simp only [hl, Bool.true_and, if_true]
  cases S
  · rw [int_unsigned hl]
    have hs : B.sval (N + 1) (num l) = (num l : Int) := B.sval_pos (by unfold B.neg; rw [Nat.add_sub_cancel]; exact high_bit (num_lt' hl) (Nat.le_refl _))
    exact iv_of hs
  · obtain ⟨e3, e4⟩ := int_signed hl h0
    rw [e3, e4]
    exact iv_of rfl
theorem fit_len (x : List Int) (s : Bool) (n : Nat) : (fitV ⟨x, s⟩ n).l.length = n := tab_len _ _
theorem zv_next (x : List Int) (s : Bool) {n : Nat} (h0 : 0 < x.length) (h : x.length ≤ n) : zvS s (n + 1) (num (fitV ⟨x, s⟩ (n + 1)).l) = zvS s n (num (fitV ⟨x, s⟩ n).l) := by
  have hl := fit_len x s n
  have hf : fill (fitV ⟨x, s⟩ n) = fill ⟨x, s⟩ := fill_fit x s h0 h
  rw [fit_next x s h0 h, num_snoc, hl]
  unfold zvS
  cases s
  · have : fill ⟨x, false⟩ = 0 := rfl
    rw [this]
    simp
  · simp only [if_true]
    rw [← hf]
    have e : fill (fitV ⟨x, true⟩ n) = nth (fitV ⟨x, true⟩ n).l (n - 1) := by
      unfold fill
      rw [hl]
      rfl
    rw [e, ← neg_num hl]
    exact iVal_ext (num_lt' hl) (by omega)
theorem zv_ext (x : List Int) (s : Bool) (h0 : 0 < x.length) : ∀ d, zvS s (x.length + d) (num (fitV ⟨x, s⟩ (x.length + d)).l) = zvS s x.length (num x)
  | 0 => by rw [Nat.add_zero, fit_self]
  | d + 1 => by rw [← Nat.add_assoc, zv_next x s h0 (by omega)]; exact zv_ext x s h0 d
theorem knB_fill {x : List Int} {s : Bool} (h0 : 0 < x.length) (h : knL x = true) : knownB (fill ⟨x, s⟩) = true := by
  unfold fill
  cases s
  · rfl
  · simp only [if_true]
    rcases knL_iff.1 h (x.length - 1) (by omega) with e | e <;> rw [e] <;> rfl
theorem kn_fit {x : List Int} {s : Bool} {n : Nat} (h0 : 0 < x.length) (h : x.length ≤ n) : knL (fitV ⟨x, s⟩ n).l = knL x := by
  cases hk : knL x
  · cases hj : knL (fitV ⟨x, s⟩ n).l
    · rfl
    · have : knL x = true := knL_iff.2 fun i hi => by
        have := knL_iff.1 hj i (by rw [fit_len]; omega)
        have e : nth (fitV ⟨x, s⟩ n).l i = nth x i := by
          unfold fitV
          rw [nth_tab _ (by omega)]
          unfold ext
          exact if_pos hi
        rwa [e] at this
      rw [this] at hk
      cases hk
  · refine knL_iff.2 fun i hi => ?_
    rw [fit_len] at hi
    unfold fitV
    rw [nth_tab _ hi]
    unfold ext
    by_cases hc : i < x.length
    · rw [if_pos (show i < (V.mk x s).l.length from hc)]
      exact knL_iff.1 hk i hc
    · rw [if_neg (show ¬ i < (V.mk x s).l.length from hc)]
      have := knB_fill (s := s) h0 hk
      unfold knownB at this
      simpa using this
end Go.Proofs.YtognpmggfplekaaGreatDoor
