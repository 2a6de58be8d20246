/-
  The contracts of the program's operators in one form: a vector of the call's own, its length a name of its own. No conditions beyond those of the contracts.
-/
import Derived.Test.YtgojnpblhfbdpaaGreatDoorQq
namespace Go.Proofs.YtgojnpblhfbdpaaGreatDoor
open Go Go.RowKit

/-- What a call leaves that returns a vector of its own, its length hidden. -/
def RetW (w : World) (v : V) (e : Ending) (w' : World) : Prop := ∃ A n c, e = .returned (.agg #[.slice A n c, .bool v.s]) ∧ n ≤ c ∧ n ≤ 1000 ∧ Nb w' w.heap.size A n c v.l ∧ Below w.heap.size w w'
/-- .. and an error beside it. -/
def RetX (w : World) (v : V) (er : Int) (e : Ending) (w' : World) : Prop := ∃ A n c, e = .returned (.tuple #[.agg #[.slice A n c, .bool v.s], .int .i64 er]) ∧ n ≤ c ∧ n ≤ 1000 ∧ Nb w' w.heap.size A n c v.l ∧ Below w.heap.size w w'
set_option maxRecDepth 100000 in
theorem RetV.w {w w' : World} {v : V} {e : Ending} (h : RetV w v e w') (hl : v.l.length ≤ 128) : RetW w v e w' := by
  obtain ⟨A, c, rfl, hN, hB⟩ := h
  exact ⟨A, _, c, rfl, hN.le, by omega, hN, hB⟩
set_option maxRecDepth 100000 in
theorem RetE.w {w w' : World} {v : V} {er : Int} {e : Ending} (h : RetE w v er e w') (hl : v.l.length ≤ 128) : RetX w v er e w' := by
  obtain ⟨A, c, rfl, hN, hB⟩ := h
  exact ⟨A, _, c, rfl, hN.le, by omega, hN, hB⟩
set_option maxRecDepth 100000 in
theorem RetX.er {w w' : World} {v : V} {er z : Int} {e : Ending} (h : RetX w v er e w') (k : er = z) : RetX w v z e w' := k ▸ h
set_option maxRecDepth 100000 in
theorem len_one {b : Int} : (one1 b).l.length ≤ 128 := by show 1 ≤ 128; decide
set_option maxRecDepth 100000 in
theorem len_nil : nilV.l.length ≤ 128 := by decide
set_option maxRecDepth 100000 in
theorem len_all (b : Int) (n : Nat) (s : Bool) : (allV b n s).l.length = n := tab_len _ _
set_option maxRecDepth 100000 in
theorem len_bw (f : Int → Int → Int) (a b : V) : (bwV f a b).l.length ≤ 128 := by unfold bwV; rw [tab_len]; exact (balN_bd a b).2
set_option maxRecDepth 100000 in
theorem len_cond (c a b : V) : (condV c a b).l.length ≤ 128 := len_bw _ _ _
set_option maxRecDepth 100000 in
theorem len_ar (f : Nat → Nat → Nat → Option Nat) (a b : V) : (arV f a b).l.length ≤ 128 := by
  have := (balN_bd a b).2
  unfold arV
  split
  · split
    · rw [frN_len]; exact this
    · rw [len_all]; exact this
  · rw [len_all]; exact this
set_option maxRecDepth 100000 in
theorem len_div (f : Bool) (a b : V) : (divV f a b).l.length ≤ 128 := len_ar _ _ _
set_option maxRecDepth 100000 in
theorem len_not (a : V) : (notV a).l.length ≤ 128 := by unfold notV; rw [tab_len]; exact (nrm_len a).2
set_option maxRecDepth 100000 in
theorem len_neg (a : V) : (negV a).l.length ≤ 128 := len_ar _ _ _
set_option maxRecDepth 100000 in
theorem len_powZ (ok : Bool) (z : Int) (N : Nat) (S : Bool) (p : Nat) : (powZ ok z N S p).l.length = N := by
  unfold powZ
  split
  · exact len_all _ _ _
  · split
    · exact len_all _ _ _
    · exact frN_len _ _
set_option maxRecDepth 100000 in
theorem len_pow (a b : V) : (powV a b).l.length ≤ 128 := by
  have := (nrm_len a).2
  unfold powV
  split
  · split
    · rw [len_powZ]; exact this
    · rw [frN_len]; exact this
  · rw [len_all]; exact this
set_option maxRecDepth 100000 in
theorem len_sh (f : Int → Int → Int) (z : Int) (a b : V) : (shV f z a b).l.length ≤ 128 := by
  have := (nrm_len a).2
  unfold shV
  split
  · rw [tab_len]; exact this
  · rw [len_all]; exact this
set_option maxRecDepth 100000 in
theorem len_unk (m : Int) (s : Bool) : (unkV m s).l.length ≤ 128 := by
  unfold unkV
  split
  · rename_i h; obtain ⟨k, rfl, _, h2⟩ := vw_of h; rw [len_all, Int.toNat_natCast]; exact h2
  · exact len_nil
set_option maxRecDepth 100000 in
theorem len_from (z m : Int) (s : Bool) : (fromV z m s).l.length ≤ 128 := by
  unfold fromV
  split
  · rename_i h; obtain ⟨k, rfl, _, h2⟩ := vw_of h; rw [frN_len, Int.toNat_natCast]; exact h2
  · exact len_nil
set_option maxRecDepth 100000 in
theorem len_fit (v : V) (n : Nat) : (fitV v n).l.length = n := tab_len _ _
set_option maxRecDepth 100000 in
theorem len_res (v : V) (m : Int) : (resV v m).l.length ≤ 128 := by
  unfold resV
  split
  · rename_i h; obtain ⟨k, rfl, _, h2⟩ := vw_of h; rw [len_fit, Int.toNat_natCast]; exact h2
  · exact len_nil
set_option maxRecDepth 100000 in
theorem len_sl (v : V) (hi lo : Int) : (slV v hi lo).l.length ≤ 128 := by
  unfold slV
  split
  · rename_i h; obtain ⟨k, h1, _, h2, _⟩ := spW_ok h; rw [tab_len, h1, Int.toNat_natCast]; exact h2
  · exact len_nil
set_option maxRecDepth 100000 in
theorem len_put (a : V) (hi lo : Int) (b : V) : (putV a hi lo b).l.length ≤ 128 := by
  unfold putV
  split
  · rw [tab_len]; exact (nrm_len a).2
  · exact len_nil
set_option maxRecDepth 100000 in
theorem len_re (v : V) (m : Int) : (reV v m).l.length ≤ 128 := by
  unfold reV
  split
  · rename_i h
    unfold reE at h
    split at h
    · cases h
    · split at h
      · cases h
      · rename_i h1 h2
        rw [rp_len]
        have h3 : m.toNat ≤ 128 / (nrm v).l.length := by omega
        exact Nat.le_trans (Nat.mul_le_mul_left _ h3) (Nat.mul_div_le _ _)
  · exact len_nil
set_option maxRecDepth 100000 in
theorem len_co (n : Nat) (v : Nat → V) : (coV n v).l.length ≤ 128 := by
  unfold coV
  split
  · rename_i h
    unfold coE at h
    split at h
    · cases h
    · split at h
      · cases h
      · simp only; omega
  · exact len_nil
set_option maxRecDepth 100000 in
theorem withSign_any_w (A : Option Addr) (n c : Nat) (s t : Bool) (l : List Int) (w : World) (h : Rb w A n l) : Calls Tryz.prog 32 #[.agg #[.slice A n c, .bool s], .bool t] w (RetW w ⟨(nrm ⟨l, s⟩).l, t⟩) := (withSign_any A n c s t l w h).mono fun _ _ hr => hr.w ((nrm_len _).2)
set_option maxRecDepth 100000 in
theorem fromInt_v_w (z m : Int) (s : Bool) (w : World) (hz : -9223372036854775808 ≤ z ∧ z ≤ 9223372036854775807) : Calls Tryz.prog 34 #[.int .i64 z, .int .i64 m, .bool s] w (RetX w (fromV z m s) (vwE m)) := (fromInt_v z m s w hz).mono fun _ _ hr => hr.w (len_from _ _ _)
set_option maxRecDepth 100000 in
theorem resize_v_w (A : Option Addr) (n c : Nat) (s : Bool) (l : List Int) (m : Int) (w : World) (h : Rb w A n l) : Calls Tryz.prog 33 #[.agg #[.slice A n c, .bool s], .int .i64 m] w (RetX w (resV ⟨l, s⟩ m) (vwE m)) := (resize_v A n c s l m w h).mono fun _ _ hr => hr.w (len_res _ _)
set_option maxRecDepth 100000 in
theorem rNorm_any_w (A : Option Addr) (n c : Nat) (s : Bool) (l : List Int) (w : World) (h : Rb w A n l) (hn : n ≤ 1000000) : Calls Tryz.prog 104 #[.agg #[.slice A n c, .bool s]] w (RetW w (nrm ⟨l, s⟩)) := (rNorm_any A n c s l w h hn).mono fun _ _ hr => hr.w ((nrm_len _).2)
set_option maxRecDepth 100000 in
theorem rFromInt_v_w (z m : Int) (s : Bool) (w : World) : Calls Tryz.prog 39 #[.int .i64 z, .int .i64 m, .bool s] w (RetX w (fromV z m s) (vwE m)) := (rFromInt_v z m s w).mono fun _ _ hr => hr.w (len_from _ _ _)
end Go.Proofs.YtgojnpblhfbdpaaGreatDoor
