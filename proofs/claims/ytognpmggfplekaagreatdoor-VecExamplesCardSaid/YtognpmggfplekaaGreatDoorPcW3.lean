/-
  The contracts of the program's operators in one form: a vector of the call's own, its length a name of its own. No conditions beyond those of the contracts.
-/
import Derived.Test.YtognpmggfplekaaGreatDoorPcQo
import Derived.Test.YtognpmggfplekaaGreatDoorPcQg
import Derived.Test.YtognpmggfplekaaGreatDoorPcQk
import Derived.Test.YtognpmggfplekaaGreatDoorPcQl
import Derived.Test.YtognpmggfplekaaGreatDoorPcQn
import Derived.Test.YtognpmggfplekaaGreatDoorPcQj
import Derived.Test.YtognpmggfplekaaGreatDoorPcQi
set_option maxRecDepth 100000
namespace Go.Proofs.YtognpmggfplekaaGreatDoor
open Go Go.RowKit

def RetW (w : World) (v : V) (e : Ending) (w' : World) : Prop := ∃ A n c, e = .returned (.agg #[.slice A n c, .bool v.s]) ∧ n ≤ c ∧ n ≤ 1000 ∧ Nb w' w.heap.size A n c v.l ∧ Below w.heap.size w w'
def RetX (w : World) (v : V) (er : Int) (e : Ending) (w' : World) : Prop := ∃ A n c, e = .returned (.tuple #[.agg #[.slice A n c, .bool v.s], .int .i64 er]) ∧ n ≤ c ∧ n ≤ 1000 ∧ Nb w' w.heap.size A n c v.l ∧ Below w.heap.size w w'
theorem RetV.w {w w' : World} {v : V} {e : Ending} (h : RetV w v e w') (hl : v.l.length ≤ 128) : RetW w v e w' := by
  obtain ⟨A, c, rfl, hN, hB⟩ := h
  exact ⟨A, _, c, rfl, hN.le, by omega, hN, hB⟩
theorem RetE.w {w w' : World} {v : V} {er : Int} {e : Ending} (h : RetE w v er e w') (hl : v.l.length ≤ 128) : RetX w v er e w' := by
  obtain ⟨A, c, rfl, hN, hB⟩ := h
  exact ⟨A, _, c, rfl, hN.le, by omega, hN, hB⟩
theorem RetX.er {w w' : World} {v : V} {er z : Int} {e : Ending} (h : RetX w v er e w') (k : er = z) : RetX w v z e w' := k ▸ h
theorem len_one {b : Int} : (one1 b).l.length ≤ 128 := by show 1 ≤ 128; decide
theorem len_nil : nilV.l.length ≤ 128 := by decide
theorem len_all (b : Int) (n : Nat) (s : Bool) : (allV b n s).l.length = n := tab_len _ _
theorem len_bw (f : Int → Int → Int) (a b : V) : (bwV f a b).l.length ≤ 128 := by unfold bwV; rw [tab_len]; exact (balN_bd a b).2
theorem len_cond (c a b : V) : (condV c a b).l.length ≤ 128 := len_bw _ _ _
theorem len_ar (f : Nat → Nat → Nat → Option Nat) (a b : V) : (arV f a b).l.length ≤ 128 := by
  have := (balN_bd a b).2
  unfold arV
  split
  · split
    · rw [frN_len]; exact this
    · rw [len_all]; exact this
  · rw [len_all]; exact this
theorem len_div (f : Bool) (a b : V) : (divV f a b).l.length ≤ 128 := len_ar _ _ _
theorem len_not (a : V) : (notV a).l.length ≤ 128 := by unfold notV; rw [tab_len]; exact (nrm_len a).2
theorem len_neg (a : V) : (negV a).l.length ≤ 128 := len_ar _ _ _
theorem len_powZ (ok : Bool) (z : Int) (N : Nat) (S : Bool) (p : Nat) : (powZ ok z N S p).l.length = N := by
  unfold powZ
  split
  · exact len_all _ _ _
  · split
    · exact len_all _ _ _
    · exact frN_len _ _
theorem len_pow (a b : V) : (powV a b).l.length ≤ 128 := by
  have := (nrm_len a).2
  unfold powV
  split
  · split
    · rw [len_powZ]; exact this
    · rw [frN_len]; exact this
  · rw [len_all]; exact this
theorem len_sh (f : Int → Int → Int) (z : Int) (a b : V) : (shV f z a b).l.length ≤ 128 := by
  have := (nrm_len a).2
  unfold shV
  split
  · rw [tab_len]; exact this
  · rw [len_all]; exact this
theorem len_unk (m : Int) (s : Bool) : (unkV m s).l.length ≤ 128 := by
  unfold unkV
  split
  · rename_i h; obtain ⟨k, rfl, _, h2⟩ := vw_of h; rw [len_all, Int.toNat_natCast]; exact h2
  · exact len_nil
theorem len_from (z m : Int) (s : Bool) : (fromV z m s).l.length ≤ 128 := by
  unfold fromV
  split
  · rename_i h; obtain ⟨k, rfl, _, h2⟩ := vw_of h; rw [frN_len, Int.toNat_natCast]; exact h2
  · exact len_nil
theorem len_fit (v : V) (n : Nat) : (fitV v n).l.length = n := tab_len _ _
theorem len_res (v : V) (m : Int) : (resV v m).l.length ≤ 128 := by
  unfold resV
  split
  · rename_i h; obtain ⟨k, rfl, _, h2⟩ := vw_of h; rw [len_fit, Int.toNat_natCast]; exact h2
  · exact len_nil
theorem len_sl (v : V) (hi lo : Int) : (slV v hi lo).l.length ≤ 128 := by
  unfold slV
  split
  · rename_i h; obtain ⟨k, h1, _, h2, _⟩ := spW_ok h; rw [tab_len, h1, Int.toNat_natCast]; exact h2
  · exact len_nil
theorem len_put (a : V) (hi lo : Int) (b : V) : (putV a hi lo b).l.length ≤ 128 := by
  unfold putV
  split
  · rw [tab_len]; exact (nrm_len a).2
  · exact len_nil
theorem len_re (v : V) (m : Int) : (reV v m).l.length ≤ 128 := by
  unfold reV
  split
  · rename_i h
    unfold reE at h
    split at h
    · cases h
    · split at h
      · cases h
      · rename_i h1 h2
        rw [rp_len]
        have h3 : m.toNat ≤ 128 / (nrm v).l.length := by omega
        exact Nat.le_trans (Nat.mul_le_mul_left _ h3) (Nat.mul_div_le _ _)
  · exact len_nil
theorem len_co (n : Nat) (v : Nat → V) : (coV n v).l.length ≤ 128 := by
  unfold coV
  split
  · rename_i h
    unfold coE at h
    split at h
    · cases h
    · split at h
      · cases h
      · simp only; omega
  · exact len_nil
theorem RedAnd_any_w (A : Option Addr) (n c : Nat) (s : Bool) (l : List Int) (w : World) (h : Rb w A n l) (hcap : n ≤ c) (TT : Tabs w) : Calls Tryz.prog 66 #[.agg #[.slice A n c, .bool s]] w (RetW w (one1 (red andI ⟨l, s⟩))) := (RedAnd_any A n c s l w h hcap TT).mono fun _ _ hr => hr.w (len_one)
theorem RedOr_any_w (A : Option Addr) (n c : Nat) (s : Bool) (l : List Int) (w : World) (h : Rb w A n l) (hcap : n ≤ c) (TT : Tabs w) : Calls Tryz.prog 67 #[.agg #[.slice A n c, .bool s]] w (RetW w (one1 (red orI ⟨l, s⟩))) := (RedOr_any A n c s l w h hcap TT).mono fun _ _ hr => hr.w (len_one)
theorem RedXor_any_w (A : Option Addr) (n c : Nat) (s : Bool) (l : List Int) (w : World) (h : Rb w A n l) (hcap : n ≤ c) (TT : Tabs w) : Calls Tryz.prog 68 #[.agg #[.slice A n c, .bool s]] w (RetW w (one1 (red xorI ⟨l, s⟩))) := (RedXor_any A n c s l w h hcap TT).mono fun _ _ hr => hr.w (len_one)
theorem RedNand_any_w (A : Option Addr) (n c : Nat) (s : Bool) (l : List Int) (w : World) (h : Rb w A n l) (hcap : n ≤ c) (TT : Tabs w) : Calls Tryz.prog 69 #[.agg #[.slice A n c, .bool s]] w (RetW w (one1 (notI (red andI ⟨l, s⟩)))) := (RedNand_any A n c s l w h hcap TT).mono fun _ _ hr => hr.w (len_one)
theorem RedNor_any_w (A : Option Addr) (n c : Nat) (s : Bool) (l : List Int) (w : World) (h : Rb w A n l) (hcap : n ≤ c) (TT : Tabs w) : Calls Tryz.prog 70 #[.agg #[.slice A n c, .bool s]] w (RetW w (one1 (notI (red orI ⟨l, s⟩)))) := (RedNor_any A n c s l w h hcap TT).mono fun _ _ hr => hr.w (len_one)
theorem RedXnor_any_w (A : Option Addr) (n c : Nat) (s : Bool) (l : List Int) (w : World) (h : Rb w A n l) (hcap : n ≤ c) (TT : Tabs w) : Calls Tryz.prog 71 #[.agg #[.slice A n c, .bool s]] w (RetW w (one1 (notI (red xorI ⟨l, s⟩)))) := (RedXnor_any A n c s l w h hcap TT).mono fun _ _ hr => hr.w (len_one)
theorem not_v_w (A : Option Addr) (n c : Nat) (s : Bool) (l : List Int) (w : World) (h : Rb w A n l) (TT : Tabs w) : Calls Tryz.prog 55 #[.agg #[.slice A n c, .bool s]] w (RetW w (notV ⟨l, s⟩)) := (not_v A n c s l w h TT).mono fun _ _ hr => hr.w (len_not _)
theorem neg_v_w (A : Option Addr) (n c : Nat) (s : Bool) (l : List Int) (w : World) (h : Rb w A n l) : Calls Tryz.prog 75 #[.agg #[.slice A n c, .bool s]] w (RetW w (negV ⟨l, s⟩)) := (neg_v A n c s l w h).mono fun _ _ hr => hr.w (len_neg _)
theorem lnot_any_w (A : Option Addr) (n c : Nat) (s : Bool) (l : List Int) (w : World) (h : Rb w A n l) (hcap : n ≤ c) (TT : Tabs w) : Calls Tryz.prog 72 #[.agg #[.slice A n c, .bool s]] w (RetW w (one1 (notI (truth ⟨l, s⟩)))) := (lnot_any A n c s l w h hcap TT).mono fun _ _ hr => hr.w (len_one)
theorem vAnd_any_w (A B : Option Addr) (n m c d : Nat) (s t : Bool) (l k : List Int) (w : World) (h : Rb w A n l) (h' : Rb w B m k) (TT : Tabs w) : Calls Tryz.prog 88 #[.agg #[.slice A n c, .bool s], .agg #[.slice B m d, .bool t]] w (RetW w (bwV andI ⟨l, s⟩ ⟨k, t⟩)) := (vAnd_any A B n m c d s t l k w h h' TT).mono fun _ _ hr => hr.w (len_bw _ _ _)
theorem vOr_any_w (A B : Option Addr) (n m c d : Nat) (s t : Bool) (l k : List Int) (w : World) (h : Rb w A n l) (h' : Rb w B m k) (TT : Tabs w) : Calls Tryz.prog 57 #[.agg #[.slice A n c, .bool s], .agg #[.slice B m d, .bool t]] w (RetW w (bwV orI ⟨l, s⟩ ⟨k, t⟩)) := (vOr_any A B n m c d s t l k w h h' TT).mono fun _ _ hr => hr.w (len_bw _ _ _)
theorem vAdd_any_w (A Y : Option Addr) (n m c d : Nat) (s t : Bool) (l k : List Int) (w : World) (h : Rb w A n l) (h' : Rb w Y m k) : Calls Tryz.prog 56 #[.agg #[.slice A n c, .bool s], .agg #[.slice Y m d, .bool t]] w (RetW w (arV fAdd ⟨l, s⟩ ⟨k, t⟩)) := (vAdd_any A Y n m c d s t l k w h h').mono fun _ _ hr => hr.w (len_ar _ _ _)
theorem vDiv_any_w (A Y : Option Addr) (n m c d : Nat) (s t : Bool) (l k : List Int) (w : World) (h : Rb w A n l) (h' : Rb w Y m k) : Calls Tryz.prog 58 #[.agg #[.slice A n c, .bool s], .agg #[.slice Y m d, .bool t]] w (RetW w (divV true ⟨l, s⟩ ⟨k, t⟩)) := (vDiv_any A Y n m c d s t l k w h h').mono fun _ _ hr => hr.w (len_div _ _ _)
theorem vMod_any_w (A Y : Option Addr) (n m c d : Nat) (s t : Bool) (l k : List Int) (w : World) (h : Rb w A n l) (h' : Rb w Y m k) : Calls Tryz.prog 60 #[.agg #[.slice A n c, .bool s], .agg #[.slice Y m d, .bool t]] w (RetW w (divV false ⟨l, s⟩ ⟨k, t⟩)) := (vMod_any A Y n m c d s t l k w h h').mono fun _ _ hr => hr.w (len_div _ _ _)
theorem pow_v_w (A Y : Option Addr) (n m c d : Nat) (s t : Bool) (l k : List Int) (w : World) (h : Rb w A n l) (h' : Rb w Y m k) : Calls Tryz.prog 61 #[.agg #[.slice A n c, .bool s], .agg #[.slice Y m d, .bool t]] w (RetW w (powV ⟨l, s⟩ ⟨k, t⟩)) := (pow_v A Y n m c d s t l k w h h').mono fun _ _ hr => hr.w (len_pow _ _)
theorem eq_v_w (A B : Option Addr) (n m c d : Nat) (s t : Bool) (l k : List Int) (w : World) (h : Rb w A n l) (h' : Rb w B m k) (TT : Tabs w) : Calls Tryz.prog 91 #[.agg #[.slice A n c, .bool s], .agg #[.slice B m d, .bool t]] w (RetW w (one1 (eqV ⟨l, s⟩ ⟨k, t⟩))) := (eq_v A B n m c d s t l k w h h' TT).mono fun _ _ hr => hr.w (len_one)
theorem ne_v_w (A B : Option Addr) (n m c d : Nat) (s t : Bool) (l k : List Int) (w : World) (h : Rb w A n l) (h' : Rb w B m k) (TT : Tabs w) : Calls Tryz.prog 80 #[.agg #[.slice A n c, .bool s], .agg #[.slice B m d, .bool t]] w (RetW w (one1 (notI (eqV ⟨l, s⟩ ⟨k, t⟩)))) := (ne_v A B n m c d s t l k w h h' TT).mono fun _ _ hr => hr.w (len_one)
theorem vLt_any_w (A Y : Option Addr) (n m c d : Nat) (s t : Bool) (l k : List Int) (w : World) (h : Rb w A n l) (h' : Rb w Y m k) : Calls Tryz.prog 76 #[.agg #[.slice A n c, .bool s], .agg #[.slice Y m d, .bool t]] w (RetW w (one1 (cmpV pLt ⟨l, s⟩ ⟨k, t⟩))) := (vLt_any A Y n m c d s t l k w h h').mono fun _ _ hr => hr.w (len_one)
theorem vLe_any_w (A Y : Option Addr) (n m c d : Nat) (s t : Bool) (l k : List Int) (w : World) (h : Rb w A n l) (h' : Rb w Y m k) : Calls Tryz.prog 78 #[.agg #[.slice A n c, .bool s], .agg #[.slice Y m d, .bool t]] w (RetW w (one1 (cmpV pLe ⟨l, s⟩ ⟨k, t⟩))) := (vLe_any A Y n m c d s t l k w h h').mono fun _ _ hr => hr.w (len_one)
theorem vGt_any_w (A Y : Option Addr) (n m c d : Nat) (s t : Bool) (l k : List Int) (w : World) (h : Rb w A n l) (h' : Rb w Y m k) : Calls Tryz.prog 79 #[.agg #[.slice A n c, .bool s], .agg #[.slice Y m d, .bool t]] w (RetW w (one1 (cmpV pGt ⟨l, s⟩ ⟨k, t⟩))) := (vGt_any A Y n m c d s t l k w h h').mono fun _ _ hr => hr.w (len_one)
theorem vGe_any_w (A Y : Option Addr) (n m c d : Nat) (s t : Bool) (l k : List Int) (w : World) (h : Rb w A n l) (h' : Rb w Y m k) : Calls Tryz.prog 77 #[.agg #[.slice A n c, .bool s], .agg #[.slice Y m d, .bool t]] w (RetW w (one1 (cmpV pGe ⟨l, s⟩ ⟨k, t⟩))) := (vGe_any A Y n m c d s t l k w h h').mono fun _ _ hr => hr.w (len_one)
theorem LAnd_any_w (A B : Option Addr) (n m c d : Nat) (s t : Bool) (l k : List Int) (w : World) (h : Rb w A n l) (h' : Rb w B m k) (hcap : n ≤ c) (hcap2 : m ≤ d) (TT : Tabs w) : Calls Tryz.prog 73 #[.agg #[.slice A n c, .bool s], .agg #[.slice B m d, .bool t]] w (RetW w (one1 (andI (truth ⟨l, s⟩) (truth ⟨k, t⟩)))) := (LAnd_any A B n m c d s t l k w h h' hcap hcap2 TT).mono fun _ _ hr => hr.w (len_one)
theorem LOr_any_w (A B : Option Addr) (n m c d : Nat) (s t : Bool) (l k : List Int) (w : World) (h : Rb w A n l) (h' : Rb w B m k) (hcap : n ≤ c) (hcap2 : m ≤ d) (TT : Tabs w) : Calls Tryz.prog 74 #[.agg #[.slice A n c, .bool s], .agg #[.slice B m d, .bool t]] w (RetW w (one1 (orI (truth ⟨l, s⟩) (truth ⟨k, t⟩)))) := (LOr_any A B n m c d s t l k w h h' hcap hcap2 TT).mono fun _ _ hr => hr.w (len_one)
theorem vShl_any_w (A Y : Option Addr) (n m c d : Nat) (s t : Bool) (l k : List Int) (w : World) (h : Rb w A n l) (h' : Rb w Y m k) : Calls Tryz.prog 62 #[.agg #[.slice A n c, .bool s], .agg #[.slice Y m d, .bool t]] w (RetW w (shV frL 0 ⟨l, s⟩ ⟨k, t⟩)) := (vShl_any A Y n m c d s t l k w h h').mono fun _ _ hr => hr.w (len_sh _ _ _ _)
theorem vShr_any_w (A Y : Option Addr) (n m c d : Nat) (s t : Bool) (l k : List Int) (w : World) (h : Rb w A n l) (h' : Rb w Y m k) : Calls Tryz.prog 63 #[.agg #[.slice A n c, .bool s], .agg #[.slice Y m d, .bool t]] w (RetW w (shV frR 0 ⟨l, s⟩ ⟨k, t⟩)) := (vShr_any A Y n m c d s t l k w h h').mono fun _ _ hr => hr.w (len_sh _ _ _ _)
theorem vAShl_any_w (A Y : Option Addr) (n m c d : Nat) (s t : Bool) (l k : List Int) (w : World) (h : Rb w A n l) (h' : Rb w Y m k) : Calls Tryz.prog 65 #[.agg #[.slice A n c, .bool s], .agg #[.slice Y m d, .bool t]] w (RetW w (shV frL 0 ⟨l, s⟩ ⟨k, t⟩)) := (vAShl_any A Y n m c d s t l k w h h').mono fun _ _ hr => hr.w (len_sh _ _ _ _)
theorem vAShr_any_w (A Y : Option Addr) (n m c d : Nat) (s t : Bool) (l k : List Int) (w : World) (h : Rb w A n l) (h' : Rb w Y m k) : Calls Tryz.prog 64 #[.agg #[.slice A n c, .bool s], .agg #[.slice Y m d, .bool t]] w (RetW w (shV frR (fill (nrm ⟨l, s⟩)) ⟨l, s⟩ ⟨k, t⟩)) := (vAShr_any A Y n m c d s t l k w h h').mono fun _ _ hr => hr.w (len_sh _ _ _ _)
theorem caseEq_any_w (A Y : Option Addr) (n m c d : Nat) (s t : Bool) (l k : List Int) (w : World) (h : Rb w A n l) (h' : Rb w Y m k) : Calls Tryz.prog 81 #[.agg #[.slice A n c, .bool s], .agg #[.slice Y m d, .bool t]] w (RetW w (one1 (fromI (mtB noW ⟨l, s⟩ ⟨k, t⟩)))) := (caseEq_any A Y n m c d s t l k w h h').mono fun _ _ hr => hr.w (len_one)
theorem caseNe_any_w (A Y : Option Addr) (n m c d : Nat) (s t : Bool) (l k : List Int) (w : World) (h : Rb w A n l) (h' : Rb w Y m k) (TT : Tabs w) : Calls Tryz.prog 82 #[.agg #[.slice A n c, .bool s], .agg #[.slice Y m d, .bool t]] w (RetW w (one1 (notI (fromI (mtB noW ⟨l, s⟩ ⟨k, t⟩))))) := (caseNe_any A Y n m c d s t l k w h h' TT).mono fun _ _ hr => hr.w (len_one)
theorem cond_any_w (Z : Option Addr) (q e : Nat) (r : Bool) (j : List Int) (A Y : Option Addr) (n m c d : Nat) (s t : Bool) (l k : List Int) (w : World) (h : Rb w A n l) (h' : Rb w Y m k) (h2 : Rb w Z q j) (hcap : q ≤ e) (TT : Tabs w) : Calls Tryz.prog 51 #[.agg #[.slice Z q e, .bool r], .agg #[.slice A n c, .bool s], .agg #[.slice Y m d, .bool t]] w (RetW w (condV ⟨j, r⟩ ⟨l, s⟩ ⟨k, t⟩)) := (cond_any Z q e r j A Y n m c d s t l k w h h' h2 hcap TT).mono fun _ _ hr => hr.w (len_cond _ _ _)
theorem withSign_any_w (A : Option Addr) (n c : Nat) (s t : Bool) (l : List Int) (w : World) (h : Rb w A n l) : Calls Tryz.prog 26 #[.agg #[.slice A n c, .bool s], .bool t] w (RetW w ⟨(nrm ⟨l, s⟩).l, t⟩) := (withSign_any A n c s t l w h).mono fun _ _ hr => hr.w ((nrm_len _).2)
theorem unknown_v_w (m : Int) (s : Bool) (w : World) : Calls Tryz.prog 39 #[.int .i64 m, .bool s] w (RetX w (unkV m s) (vwE m)) := (unknown_v m s w).mono fun _ _ hr => hr.w (len_unk _ _)
theorem fromInt_v_w (z m : Int) (s : Bool) (w : World) (hz : -9223372036854775808 ≤ z ∧ z ≤ 9223372036854775807) : Calls Tryz.prog 37 #[.int .i64 z, .int .i64 m, .bool s] w (RetX w (fromV z m s) (vwE m)) := (fromInt_v z m s w hz).mono fun _ _ hr => hr.w (len_from _ _ _)
theorem resize_v_w (A : Option Addr) (n c : Nat) (s : Bool) (l : List Int) (m : Int) (w : World) (h : Rb w A n l) : Calls Tryz.prog 41 #[.agg #[.slice A n c, .bool s], .int .i64 m] w (RetX w (resV ⟨l, s⟩ m) (vwE m)) := (resize_v A n c s l m w h).mono fun _ _ hr => hr.w (len_res _ _)
theorem concat_v_w (X : Option Addr) (n c : Nat) (f : Nat → Cv) (v : Nat → V) (w : World) (hV : Vs w.heap.size w X n f) (hR : Rv w f v) (hn : n ≤ 1000) : Calls Tryz.prog 43 #[.slice X n c] w (RetX w (coV n v) (coE n v)) := (concat_v X n c f v w hV hR hn).mono fun _ _ hr => hr.w (len_co _ _)
theorem repeat_v_w (A : Option Addr) (n c : Nat) (s : Bool) (l : List Int) (m : Int) (w : World) (h : Rb w A n l) : Calls Tryz.prog 45 #[.agg #[.slice A n c, .bool s], .int .i64 m] w (RetX w (reV ⟨l, s⟩ m) (reE ⟨l, s⟩ m)) := (repeat_v A n c s l m w h).mono fun _ _ hr => hr.w (len_re _ _)
theorem slice_v_w (A : Option Addr) (n c : Nat) (s : Bool) (l : List Int) (hi lo : Int) (w : World) (h : Rb w A n l) (hh : I64 hi) (hl : I64 lo) : Calls Tryz.prog 47 #[.agg #[.slice A n c, .bool s], .int .i64 hi, .int .i64 lo] w (RetX w (slV ⟨l, s⟩ hi lo) (spE hi lo)) := (slice_v A n c s l hi lo w h hh hl).mono fun _ _ hr => hr.w (len_sl _ _ _)
theorem put_v_w (A Y : Option Addr) (n m c d : Nat) (s t : Bool) (l k : List Int) (hi lo : Int) (w : World) (h : Rb w A n l) (h' : Rb w Y m k) (hh : I64 hi) (hl : I64 lo) : Calls Tryz.prog 49 #[.agg #[.slice A n c, .bool s], .int .i64 hi, .int .i64 lo, .agg #[.slice Y m d, .bool t]] w (RetX w (putV ⟨l, s⟩ hi lo ⟨k, t⟩) (spE hi lo)) := (put_v A Y n m c d s t l k hi lo w h h' hh hl).mono fun _ _ hr => hr.w (len_put _ _ _ _)
end Go.Proofs.YtognpmggfplekaaGreatDoor
