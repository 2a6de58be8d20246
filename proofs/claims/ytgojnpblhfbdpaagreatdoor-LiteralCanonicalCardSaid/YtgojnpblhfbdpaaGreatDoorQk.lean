/-
  Contracts of the program's shifts. No conditions.
  Contracts of the program's shift operators. No conditions.
  Contracts of the program's Int and Neg. No conditions.
  Contracts of the program's FromInt, Unknown, Resize, Same, Leq. No conditions.
-/
import Derived.Test.YtgojnpblhfbdpaaGreatDoorQi
import Derived.Test.YtgojnpblhfbdpaaGreatDoorQg
import Derived.Test.YtgojnpblhfbdpaaGreatDoorQj
import Derived.Test.YtgojnpblhfbdpaaGreatDoorQh

namespace Go.Proofs.YtgojnpblhfbdpaaGreatDoor
open Go Go.RowKit

def FrI (g : Nat) (fr : Int → Int → Int) : Prop := ∀ (W : World) (i n : Nat), i ≤ 1000 → n ≤ 1000 → Calls Tryz.prog g (#[.int .i64 i, .int .i64 n] ++ #[]) W fun e w' => e = .returned (.int .i64 (fr i n)) ∧ Below W.heap.size W w'
def shN (v N : Nat) : Nat := if v < N then v else N
def shV (fr : Int → Int → Int) (z : Int) (a b : V) : V := if knL (nrm b).l then ⟨tab (nrm a).l.length fun i => atI (nrm a).l (fr i (shN (num (nrm b).l) (nrm a).l.length)) z, (nrm a).s⟩ else allV 2 (nrm a).l.length (nrm a).s
set_option maxRecDepth 100000 in
theorem atI_nn {l : List Int} (h : nnL l) {z : Int} (hz : 0 ≤ z) (k : Int) : 0 ≤ atI l k z := by unfold atI; split; exact h.nth _; exact hz
end Go.Proofs.YtgojnpblhfbdpaaGreatDoor

namespace Go.Proofs.YtgojnpblhfbdpaaGreatDoor
open Go Go.RowKit

def frL (i n : Int) : Int := i - n
def frR (i n : Int) : Int := i + n
end Go.Proofs.YtgojnpblhfbdpaaGreatDoor

namespace Go.Proofs.YtgojnpblhfbdpaaGreatDoor
open Go Go.RowKit

set_option maxRecDepth 100000 in
theorem kn_true {l : List Int} {s : Bool} (h : kn ⟨l, s⟩ = true) : okB l = true := by
  cases e : okB l
  · unfold kn at h
    rw [nrm_no (v := ⟨l, s⟩) e] at h
    exact absurd h (by decide)
  · rfl
def iVal (v : V) : Int := if kn v then B.iVal ((nrm v).l.length + 1) (num (fitV (nrm v) ((nrm v).l.length + 1)).l) else 0
def iOk (v : V) : Bool := kn v && B.iOk ((nrm v).l.length + 1) (num (fitV (nrm v) ((nrm v).l.length + 1)).l)
set_option maxRecDepth 100000 in
set_option maxHeartbeats 2000000 in
theorem int_v (A : Option Addr) (n c : Nat) (s : Bool) (l : List Int) (w : World) (h : Rb w A n l) :
    Calls Tryz.prog 139 #[.agg #[.slice A n c, .bool s]] w fun e w' => e = .returned (.tuple #[.int .i64 (iVal ⟨l, s⟩), .bool (iOk ⟨l, s⟩)]) ∧ Below w.heap.size w w' := by
  have O0 := (Own.at1 w 26 #[.slice A n c, .bool s] (g := w.heap.size) (by simp))
  have BB := (below_new (Below.refl w.heap.size w) (.cells #[.slice A n c, .bool s] 26))
  have HK := Lib.hid (known_v A n c s l _ (h.step BB))
  unfold iVal iOk
  cases hk : kn ⟨l, s⟩
  · rw [hk] at HK
    simp only [Bool.false_eq_true, if_false, Bool.false_and]
    clear hk h
    go_enter Tryz.func139, Tryz.ntmps139
    go_wp2_with (go_at_call 31; refine HK.out.mono ?_; rintro e w1 ⟨rfl, hb1⟩)
    go_ret2
    exact ⟨rfl, below_step BB hb1⟩
  · rw [hk] at HK
    have ok := kn_true hk
    rw [nrm_of (v := ⟨l, s⟩) ok]
    simp only [if_true, Bool.true_and, h.len]
    have hl := ok_len ok
    rw [h.len] at hl
    have HF := Lib.hid (fun (u : World) (hb : Below w.heap.size w u) => fit_any A n c s l (n + 1) u (h.step hb) (by omega) hl.1 (by omega))
    have HL : (fitV ⟨l, s⟩ (n + 1)).l.length = n + 1 := tab_len _ _
    generalize fitV ⟨l, s⟩ (n + 1) = x at *
    obtain ⟨lx, sx⟩ := x
    simp only at HL ⊢
    replace HL := Lib.hid HL
    clear hk h ok
    go_enter Tryz.func139, Tryz.ntmps139
    go_wp2_with (first
      | (go_at_call 31; refine HK.out.mono ?_; rintro e w1 ⟨rfl, hb1⟩; replace BB := below_step BB hb1; replace O0 := O0.step hb1; have q0 := O0.cell 0; have q1 := O0.cell 1)
      | (go_at_call 69; refine (HF.out _ BB).mono ?_; rintro e w2 ⟨A2, c2, rfl, n2, hb2⟩; simp only [HL.out] at n2 ⊢; replace BB := below_step BB hb2)
      | (go_at_call 178; refine (number_any A2 (n + 1) c2 sx lx _ n2.rd (by omega)).mono ?_; rintro e w3 ⟨X3, x3, rfl, nn3, hb3⟩; replace BB := below_step BB hb3)
      | (go_at_call 177; refine (B.int_any X3 (n + 1) x3 (num lx) _ nn3.rd (by omega)).mono ?_; rintro e w4 ⟨rfl, rfl⟩))
    go_ret2
    exact ⟨rfl, BB⟩
def negV (v : V) : V := arV fSub (allV 0 (nrm v).l.length (nrm v).s) (nrm v)
end Go.Proofs.YtgojnpblhfbdpaaGreatDoor

namespace Go.Proofs.YtgojnpblhfbdpaaGreatDoor
open Go Go.RowKit

def vwB (m : Int) : Bool := decide (1 ≤ m) && decide (m ≤ 128)
set_option maxRecDepth 100000 in
theorem validWidth_any (m : Int) (w : World) : Calls Tryz.prog 68 #[.int .i64 m] w fun e w' => e = .returned (.bool (vwB m)) ∧ w = w' := by
  unfold vwB
  by_cases h1 : 1 ≤ m
  · have d1 : decide (1 ≤ m) = true := by simpa using h1
    rw [d1, Bool.true_and]
    go_enter Tryz.func68, Tryz.ntmps68
    go_wp2
    go_ret
    exact ⟨rfl, rfl⟩
  · have d1 : decide (1 ≤ m) = false := by simpa using h1
    rw [d1, Bool.false_and]
    go_enter Tryz.func68, Tryz.ntmps68
    go_wp2
    go_ret
    exact ⟨rfl, rfl⟩
/-- The vector that stands beside an error. -/
def nilV : V := ⟨[], false⟩
set_option maxRecDepth 100000 in
theorem vw_of {m : Int} (h : vwB m = true) : ∃ k : Nat, m = k ∧ 1 ≤ k ∧ k ≤ 128 := by
  unfold vwB at h
  simp only [Bool.and_eq_true, decide_eq_true_eq] at h
  exact ⟨m.toNat, by omega, by omega, by omega⟩
def unkV (m : Int) (s : Bool) : V := if vwB m then allV 2 m.toNat s else nilV
def vwE (m : Int) : Int := if vwB m then 0 else 12
def fromV (z m : Int) (s : Bool) : V := if vwB m then ⟨frN m.toNat (B.fi z m.toNat), s⟩ else nilV
set_option maxRecDepth 100000 in
set_option maxHeartbeats 1000000 in
theorem fromInt_v (z m : Int) (s : Bool) (w : World) (hz : -9223372036854775808 ≤ z ∧ z ≤ 9223372036854775807) : Calls Tryz.prog 34 #[.int .i64 z, .int .i64 m, .bool s] w (RetE w (fromV z m s) (vwE m)) := by
  have O0 := (Own.at1 w 26 #[.slice none 0 0, .bool false] (g := w.heap.size) (by simp))
  have BB := (below_new (Below.refl w.heap.size w) (.cells #[.slice none 0 0, .bool false] 26))
  have HW := Lib.hid (validWidth_any m (w.alloc (.cells #[.slice none 0 0, .bool false] 26)))
  unfold fromV vwE
  have qO00 := O0.cell 0; have qO01 := O0.cell 1; have fO00 := O0.free 0; have fO01 := O0.free 1
  cases hv : vwB m
  · rw [hv] at HW
    simp only [Bool.false_eq_true, if_false]
    clear hv
    go_enter Tryz.func34, Tryz.ntmps34
    go_wp2_with (go_at_call 68; refine HW.out.mono ?_; rintro e w1 ⟨rfl, rfl⟩)
    exact ret_vecE Tryz.results34 rfl rfl rfl O0 (RetE.mk' (v := nilV) (Nb.nil _ _) BB)
  · rw [hv] at HW
    simp only [if_true]
    obtain ⟨k, rfl, hk1, hk2⟩ := vw_of hv
    clear hv
    simp only [Int.toNat_natCast]
    have HF := Lib.hid (fun (u : World) => B.fromInt_any z k u hz hk2)
    generalize B.fi z k = x at *
    clear hz
    go_enter Tryz.func34, Tryz.ntmps34
    go_wp2_with (first
      | (go_at_call 68; refine HW.out.mono ?_; rintro e w1 ⟨rfl, rfl⟩)
      | (go_at_call 70; refine (HF.out _).mono ?_; rintro e w2 ⟨X2, x2, rfl, nn2, hb2⟩; replace BB := below_step BB hb2; replace O0 := O0.step hb2)
      | (go_at_call 71; refine (fromNumber_any X2 k x2 x s _ nn2.rd (by omega)).mono ?_; rintro e w9 ⟨A9, c9, rfl, n9, hb9⟩; simp only [frN_len] at n9 ⊢; have L1 := O0.lt; have W2 := O0.step hb9; have qW20 := W2.cell 0; have qW21 := W2.cell 1; have fW20 := W2.free 0; have fW21 := W2.free 1))
    exact ret_vecE Tryz.results34 rfl rfl rfl (W2.put2 _ _) (RetE.mk' (v := ⟨frN k x, s⟩) ((n9.far2 L1 _ _).mono BB.size) (below_set2 (below_step BB hb9) (by omega) _ _))
def resV (v : V) (m : Int) : V := if vwB m then fitV (nrm v) m.toNat else nilV
set_option maxRecDepth 100000 in
set_option maxHeartbeats 1000000 in
theorem resize_v (A : Option Addr) (n c : Nat) (s : Bool) (l : List Int) (m : Int) (w : World) (h : Rb w A n l) : Calls Tryz.prog 33 #[.agg #[.slice A n c, .bool s], .int .i64 m] w (RetE w (resV ⟨l, s⟩ m) (vwE m)) := by
  have O0 := ((Own.at1 w 26 #[.slice A n c, .bool s] (g := w.heap.size) (by simp)).alloc (.cells #[.slice none 0 0, .bool false] 26))
  have O1 := (Own.at1 (w.alloc (.cells #[.slice A n c, .bool s] 26)) 26 #[.slice none 0 0, .bool false] (g := w.heap.size + 1) (by simp))
  have BB := (below_new (below_new (Below.refl w.heap.size w) (.cells #[.slice A n c, .bool s] 26)) (.cells #[.slice none 0 0, .bool false] 26))
  have HW := Lib.hid (validWidth_any m ((w.alloc (.cells #[.slice A n c, .bool s] 26)).alloc (.cells #[.slice none 0 0, .bool false] 26)))
  have HA := Lib.hid (operand_any A n c s l _ (h.step BB))
  have hlen := nrm_len ⟨l, s⟩
  unfold resV vwE
  generalize nrm ⟨l, s⟩ = x at *
  have qO10 := O1.cell 0; have qO11 := O1.cell 1; have fO10 := O1.free 0; have fO11 := O1.free 1
  cases hv : vwB m
  · rw [hv] at HW
    simp only [Bool.false_eq_true, if_false]
    clear hv
    go_enter Tryz.func33, Tryz.ntmps33
    go_wp2_with (go_at_call 68; refine HW.out.mono ?_; rintro e w1 ⟨rfl, rfl⟩)
    exact ret_vecE Tryz.results33 rfl rfl rfl O1 (RetE.mk' (v := nilV) (Nb.nil _ _) BB)
  · rw [hv] at HW
    simp only [if_true]
    obtain ⟨k, rfl, hk1, hk2⟩ := vw_of hv
    clear hv
    simp only [Int.toNat_natCast]
    have HF := Lib.hid (fun (u : World) (A1 : Option Addr) (c1 : Nat) (r : Rb u A1 x.l.length x.l) => fit_any A1 _ c1 x.s x.l k u r (by omega) hlen.1 (by omega))
    have hx : (⟨x.l, x.s⟩ : V) = x := rfl
    rw [hx] at HF
    have HL : (fitV x k).l.length = k := tab_len _ _
    generalize fitV x k = y at *
    replace HL := Lib.hid HL
    clear h hlen hx
    go_enter Tryz.func33, Tryz.ntmps33
    go_wp2_with (first
      | (go_at_call 68; refine HW.out.mono ?_; rintro e w1 ⟨rfl, rfl⟩)
      | (go_at_call 66; refine HA.out.mono ?_; rintro e w1 ⟨A1, c1, rfl, r1, hb1⟩; replace BB := below_step BB hb1; replace O1 := O1.step hb1)
      | (go_at_call 69; refine (HF.out _ A1 c1 r1).mono ?_; rintro e w9 ⟨A9, c9, rfl, n9, hb9⟩; have L1 := O1.lt; have W2 := O1.step hb9; have qW20 := W2.cell 0; have qW21 := W2.cell 1; have fW20 := W2.free 0; have fW21 := W2.free 1))
    exact ret_vecE Tryz.results33 rfl rfl rfl (W2.put2 _ _) (RetE.mk' (v := y) ((n9.far2 L1 _ _).mono BB.size) (below_set2 (below_step BB hb9) (by omega) _ _))
end Go.Proofs.YtgojnpblhfbdpaaGreatDoor
