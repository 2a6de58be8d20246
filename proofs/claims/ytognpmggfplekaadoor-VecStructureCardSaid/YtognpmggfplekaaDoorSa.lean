/-
  Slices of a concatenation, putting a slice back, resizing and back, the value of an extended vector. Mathematics, no conditions.
-/
import Derived.Test.YtognpmggfplekaaDoorW7
namespace Go.Proofs.YtognpmggfplekaaDoor
open Go Go.RowKit

theorem nth_appL (x y : List Int) {i : Nat} (h : i < x.length) : nth (x ++ y) i = nth x i := by
  simp only [nth, List.getD_eq_getElem?_getD, List.getElem?_append_left h]
theorem nth_appR (x y : List Int) {i : Nat} (h : x.length ≤ i) : nth (x ++ y) i = nth y (i - x.length) := by
  simp only [nth, List.getD_eq_getElem?_getD, List.getElem?_append_right h]
theorem cat_two (a b : V) : catL (two2 a b) (dn 2 2) = (nrm b).l ++ (nrm a).l := by
  simp [catL, dn, two2, List.range_succ]
theorem app_ok {x y : List Int} (hx : okB x = true) (hy : okB y = true) (h : x.length + y.length ≤ 128) : okB (x ++ y) = true :=
  ok_mk (by rw [List.length_append]; have := (ok_len hx).1; omega) (by rw [List.length_append]; omega) fun i _ => by
    by_cases hi : i < x.length
    · rw [nth_appL _ _ hi]; exact ok_le hx i
    · rw [nth_appR _ _ (by omega)]; exact ok_le hy _
theorem sp_ok {hi lo : Int} {k : Nat} (h : hi = lo + k) (hk : k < 128) : spE hi lo = 0 ∧ (spW hi lo).toNat = k + 1 := by
  unfold spE spW
  rw [if_neg (by omega), if_neg (by omega), if_neg (by omega), if_neg (by omega)]
  exact ⟨rfl, by omega⟩
theorem atI_nat {l : List Int} {x : Int} {p : Nat} (h : x = p) (hp : p < l.length) (z : Int) : atI l x z = nth l p := by
  unfold atI
  rw [h, if_pos ⟨by omega, by omega⟩, Int.toNat_natCast]
theorem sl_low {x y : List Int} (hx : okB x = true) (hy : okB y = true) (h : y.length + x.length ≤ 128) {hi : Int} (hh : hi = (y.length : Int) - 1) : spE hi 0 = 0 ∧ slV ⟨y ++ x, false⟩ hi 0 = ⟨y, false⟩ := by
  have h0 := (ok_len hy).1
  obtain ⟨e1, e2⟩ := sp_ok (hi := hi) (lo := 0) (k := y.length - 1) (by omega) (by omega)
  refine ⟨e1, ?_⟩
  unfold slV
  rw [if_pos e1, e2, nrm_of (show okB (V.mk (y ++ x) false).l = true from app_ok hy hx h), show y.length - 1 + 1 = y.length by omega]
  congr 1
  rw [← tab_nth y]
  rw [tab_len]
  refine tab_congr fun i hi => ?_
  unfold slF
  rw [tab_nth, atI_nat (p := i) (by omega) (by rw [List.length_append]; omega), nth_appL _ _ hi]
theorem sl_high {x y : List Int} (hx : okB x = true) (hy : okB y = true) (h : y.length + x.length ≤ 128) {hi lo : Int} (hh : hi = (y.length : Int) + x.length - 1) (hl : lo = y.length) : spE hi lo = 0 ∧ slV ⟨y ++ x, false⟩ hi lo = ⟨x, false⟩ := by
  have h0 := (ok_len hx).1
  obtain ⟨e1, e2⟩ := sp_ok (hi := hi) (lo := lo) (k := x.length - 1) (by omega) (by omega)
  refine ⟨e1, ?_⟩
  unfold slV
  rw [if_pos e1, e2, nrm_of (show okB (V.mk (y ++ x) false).l = true from app_ok hy hx h), show x.length - 1 + 1 = x.length by omega]
  congr 1
  rw [← tab_nth x]
  rw [tab_len]
  refine tab_congr fun i hi => ?_
  unfold slF
  rw [tab_nth, atI_nat (p := y.length + i) (by omega) (by rw [List.length_append]; omega), nth_appR _ _ (by omega), Nat.add_sub_cancel_left]
theorem slF_in0 {l : List Int} {lo : Int} {i p : Nat} (h : lo + i = (p : Int)) (hp : p < l.length) : slF l lo i = nth l p := atI_nat h hp 2
theorem put_back {x : List Int} {s : Bool} (hx : okB x = true) {hi lo : Int} (h0 : 0 ≤ lo) (h1 : lo ≤ hi) (h2 : hi < x.length) : spE hi lo = 0 ∧ putV ⟨x, s⟩ hi lo (slV ⟨x, s⟩ hi lo) = ⟨x, s⟩ := by
  have hl := ok_len hx
  obtain ⟨k, hk⟩ : ∃ k : Nat, hi = lo + k := ⟨(hi - lo).toNat, by omega⟩
  obtain ⟨e1, e2⟩ := sp_ok (hi := hi) (lo := lo) (k := k) hk (by omega)
  refine ⟨e1, ?_⟩
  have en : nrm ⟨x, s⟩ = ⟨x, s⟩ := nrm_of hx
  have es : slV ⟨x, s⟩ hi lo = ⟨tab (k + 1) (slF x lo), false⟩ := by unfold slV; rw [if_pos e1, e2, en]
  have ok : okB (tab (k + 1) (slF x lo)) = true := ok_mk (by rw [tab_len]; omega) (by rw [tab_len]; omega) fun i hi' => by
    rw [tab_len] at hi'
    rw [nth_tab _ hi', slF_in0 (p := (lo + i).toNat) (by omega) (by omega)]
    exact ok_le hx _
  unfold putV
  rw [if_pos e1, es, nrm_of (show okB (V.mk (tab (k + 1) (slF x lo)) false).l = true from ok), en, e2]
  congr 1
  have : tab x.length (nth x) = x := tab_nth x
  refine Eq.trans ?_ this
  refine tab_congr fun i hi' => ?_
  unfold ptF
  split
  · rfl
  · have hj : (i - lo).toNat < k + 1 := by omega
    unfold fitV
    rw [nth_tab _ hj]
    unfold ext
    rw [tab_len, if_pos hj, nth_tab _ hj]
    exact slF_in0 (by omega) hi'
theorem vw_ok {m : Int} (h : 1 ≤ m) (h' : m ≤ 128) : vwB m = true := by unfold vwB; simp; omega
theorem res_ok {x : List Int} {s : Bool} (hx : okB x = true) {m : Int} (h : 1 ≤ m) (h' : m ≤ 128) : vwE m = 0 ∧ resV ⟨x, s⟩ m = fitV ⟨x, s⟩ m.toNat := by
  unfold vwE resV
  rw [vw_ok h h', nrm_of (show okB (V.mk x s).l = true from hx)]
  exact ⟨rfl, rfl⟩
theorem fit_ok' {x : List Int} {s : Bool} (hx : okB x = true) {n : Nat} (h0 : 0 < n) (h1 : n ≤ 128) : okB (fitV ⟨x, s⟩ n).l = true := fit_ok (v := ⟨x, s⟩) (ok_le hx) h0 h1
theorem res_back {x : List Int} {s : Bool} (hx : okB x = true) {n : Nat} (h : x.length ≤ n) (h' : n ≤ 128) : resV (fitV ⟨x, s⟩ n) (x.length : Int) = ⟨x, s⟩ := by
  have hl := ok_len hx
  have e := (res_ok (s := s) (fit_ok' (s := s) hx (n := n) (by omega) h') (m := (x.length : Int)) (by omega) (by omega)).2
  refine e.trans ?_
  rw [Int.toNat_natCast]
  show fitV (fitV ⟨x, s⟩ n) x.length = _
  unfold fitV
  congr 1
  have : tab x.length (nth x) = x := tab_nth x
  refine Eq.trans ?_ this
  refine tab_congr fun i hi => ?_
  show ext ⟨tab n (ext ⟨x, s⟩), s⟩ i = nth x i
  unfold ext
  rw [tab_len, if_pos (by omega), nth_tab _ (by omega), if_pos hi]
theorem fill_fit (x : List Int) (s : Bool) {n : Nat} (h0 : 0 < x.length) (h : x.length ≤ n) : fill (fitV ⟨x, s⟩ n) = fill ⟨x, s⟩ := by
  unfold fill fitV
  simp only [tab_len]
  cases s
  · rfl
  · simp only [if_true]
    rw [nth_tab _ (by omega)]
    unfold ext
    by_cases hh : n - 1 < x.length
    · have : n = x.length := by omega
      rw [if_pos hh, this]
    · rw [if_neg hh]
      rfl
theorem fit_next (x : List Int) (s : Bool) {n : Nat} (_h0 : 0 < x.length) (h : x.length ≤ n) : (fitV ⟨x, s⟩ (n + 1)).l = (fitV ⟨x, s⟩ n).l ++ [fill ⟨x, s⟩] := by
  unfold fitV
  have : ext ⟨x, s⟩ n = fill ⟨x, s⟩ := by
    unfold ext
    exact if_neg (show ¬ n < x.length by omega)
  rw [tab_snoc, this]
theorem fit_self (x : List Int) (s : Bool) : (fitV ⟨x, s⟩ x.length).l = x := by
  unfold fitV
  have : tab x.length (nth x) = x := tab_nth x
  refine Eq.trans ?_ this
  refine tab_congr fun i hi => ?_
  unfold ext
  rw [if_pos hi]
def zvS (S : Bool) (N x : Nat) : Int := if S then B.sval N x else x
theorem iv_of {n x : Nat} {z : Int} (h : B.sval n x = z) : B.iOk n x = decide (-9223372036854775808 ≤ z ∧ z ≤ 9223372036854775807) ∧ B.iVal n x = if -9223372036854775808 ≤ z ∧ z ≤ 9223372036854775807 then z else 0 := by
  subst h
  refine ⟨decide_eq_decide.2 Iff.rfl, ?_⟩
  unfold B.iVal
  by_cases hf : -9223372036854775808 ≤ B.sval n x ∧ B.sval n x ≤ 9223372036854775807
  · rw [if_pos hf, if_pos (show B.iFit n x from hf)]
  · rw [if_neg hf, if_neg (show ¬ B.iFit n x from hf)]
theorem zv_fit {S : Bool} {N : Nat} {l : List Int} (hl : l.length = N) (h0 : 0 < N) (hok : okB l = true) (hk : knL l = true) :
    iOk ⟨l, S⟩ = decide (-9223372036854775808 ≤ zvS S N (num l) ∧ zvS S N (num l) ≤ 9223372036854775807) ∧ iVal ⟨l, S⟩ = if -9223372036854775808 ≤ zvS S N (num l) ∧ zvS S N (num l) ≤ 9223372036854775807 then zvS S N (num l) else 0 := by
  have e1 : nrm ⟨l, S⟩ = ⟨l, S⟩ := nrm_of hok
  have e2 : kn ⟨l, S⟩ = true := by unfold kn; rw [e1]; exact hk
  unfold iOk iVal
  rw [e1, e2]
  simp only [hl, Bool.true_and, if_true]
  cases S
  · rw [int_unsigned hl]
    have hs : B.sval (N + 1) (num l) = (num l : Int) := B.sval_pos (by unfold B.neg; rw [Nat.add_sub_cancel]; exact high_bit (num_lt' hl) (Nat.le_refl _))
    exact iv_of hs
  · obtain ⟨e3, e4⟩ := int_signed hl h0
    rw [e3, e4]
    exact iv_of rfl
theorem fit_len (x : List Int) (s : Bool) (n : Nat) : (fitV ⟨x, s⟩ n).l.length = n := tab_len _ _
theorem num_app1 : ∀ (l : List Int) (b : Int), num (l ++ [b]) = num l + 2 ^ l.length * (b == 1).toNat := num_snoc
theorem zv_next (x : List Int) (s : Bool) {n : Nat} (h0 : 0 < x.length) (h : x.length ≤ n) : zvS s (n + 1) (num (fitV ⟨x, s⟩ (n + 1)).l) = zvS s n (num (fitV ⟨x, s⟩ n).l) := by
  have hl := fit_len x s n
  have hf : fill (fitV ⟨x, s⟩ n) = fill ⟨x, s⟩ := fill_fit x s h0 h
  rw [fit_next x s h0 h, num_snoc, hl]
  unfold zvS
  cases s
  · have : fill ⟨x, false⟩ = 0 := rfl
    rw [this]
    simp
  · simp only [if_true]
    rw [← hf]
    have e : fill (fitV ⟨x, true⟩ n) = nth (fitV ⟨x, true⟩ n).l (n - 1) := by
      unfold fill
      rw [hl]
      rfl
    rw [e, ← neg_num hl]
    exact iVal_ext (num_lt' hl) (by omega)
theorem zv_ext (x : List Int) (s : Bool) (h0 : 0 < x.length) : ∀ d, zvS s (x.length + d) (num (fitV ⟨x, s⟩ (x.length + d)).l) = zvS s x.length (num x)
  | 0 => by rw [Nat.add_zero, fit_self]
  | d + 1 => by rw [← Nat.add_assoc, zv_next x s h0 (by omega)]; exact zv_ext x s h0 d
theorem knB_fill {x : List Int} {s : Bool} (h0 : 0 < x.length) (h : knL x = true) : knownB (fill ⟨x, s⟩) = true := by
  unfold fill
  cases s
  · rfl
  · simp only [if_true]
    rcases knL_iff.1 h (x.length - 1) (by omega) with e | e <;> rw [e] <;> rfl
theorem kn_fit {x : List Int} {s : Bool} {n : Nat} (h0 : 0 < x.length) (h : x.length ≤ n) : knL (fitV ⟨x, s⟩ n).l = knL x := by
  cases hk : knL x
  · cases hj : knL (fitV ⟨x, s⟩ n).l
    · rfl
    · have : knL x = true := knL_iff.2 fun i hi => by
        have := knL_iff.1 hj i (by rw [fit_len]; omega)
        have e : nth (fitV ⟨x, s⟩ n).l i = nth x i := by
          unfold fitV
          rw [nth_tab _ (by omega)]
          unfold ext
          exact if_pos hi
        rwa [e] at this
      rw [this] at hk
      cases hk
  · refine knL_iff.2 fun i hi => ?_
    rw [fit_len] at hi
    unfold fitV
    rw [nth_tab _ hi]
    unfold ext
    by_cases hc : i < x.length
    · rw [if_pos (show i < (V.mk x s).l.length from hc)]
      exact knL_iff.1 hk i hc
    · rw [if_neg (show ¬ i < (V.mk x s).l.length from hc)]
      have := knB_fill (s := s) h0 hk
      unfold knownB at this
      simpa using this
theorem int_ext {x : List Int} {s : Bool} (hx : okB x = true) {n : Nat} (h : x.length ≤ n) (h' : n ≤ 128) : iVal (fitV ⟨x, s⟩ n) = iVal ⟨x, s⟩ ∧ iOk (fitV ⟨x, s⟩ n) = iOk ⟨x, s⟩ := by
  have h0 := (ok_len hx).1
  have okn := fit_ok' (s := s) hx (n := n) (by omega) h'
  cases hk : knL x
  · have k1 : kn ⟨x, s⟩ = false := by unfold kn; rw [nrm_of (show okB (V.mk x s).l = true from hx)]; exact hk
    have k2 : kn (fitV ⟨x, s⟩ n) = false := by unfold kn; rw [nrm_of okn, kn_fit h0 h]; exact hk
    unfold iVal iOk
    rw [k1, k2]
    exact ⟨rfl, rfl⟩
  · obtain ⟨a1, a2⟩ := zv_fit (S := s) rfl h0 hx hk
    obtain ⟨b1, b2⟩ := zv_fit (S := s) (fit_len x s n) (by omega) okn ((kn_fit (s := s) h0 h).trans hk)
    obtain ⟨d, rfl⟩ : ∃ d, n = x.length + d := ⟨n - x.length, by omega⟩
    have e := zv_ext x s h0 d
    rw [e] at b1 b2
    exact ⟨b2.trans a2.symm, b1.trans a1.symm⟩
end Go.Proofs.YtognpmggfplekaaDoor
