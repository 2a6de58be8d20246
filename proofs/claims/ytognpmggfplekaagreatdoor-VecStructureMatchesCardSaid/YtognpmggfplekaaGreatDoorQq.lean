/-
  Contracts of the reference's Int and window. Conditions: at most a million bits.
  Contracts of the reference's Slice. Conditions: at most a million bits.
  Contracts of the reference's Put. Conditions: at most a million bits.
  Contracts of the reference's Concat. Conditions: at most a thousand vectors of at most a million bits.
  Contracts of the reference's Cond. Conditions: at most a million bits.
  Contracts of the reference's Match. Conditions: at most a million bits.
-/
import Derived.Test.YtognpmggfplekaaGreatDoorQp
import Derived.Test.YtognpmggfplekaaGreatDoorQk
import Derived.Test.YtognpmggfplekaaGreatDoorQl
import Derived.Test.YtognpmggfplekaaGreatDoorQo
import Derived.Test.YtognpmggfplekaaGreatDoorQn
import Derived.Test.YtognpmggfplekaaGreatDoorQj
import Derived.Test.YtognpmggfplekaaGreatDoorQi

namespace Go.Proofs.YtognpmggfplekaaGreatDoor
open Go Go.RowKit

set_option maxRecDepth 100000 in
theorem fit_snoc {l : List Int} {n : Nat} (hl : l.length = n) (s : Bool) : (fitV ⟨l, s⟩ (n + 1)).l = l ++ [fill ⟨l, s⟩] := by
  unfold fitV
  rw [tab_snoc]
  have e1 : tab n (ext ⟨l, s⟩) = l := by
    have h2 : tab n (ext ⟨l, s⟩) = tab n (nth l) := tab_congr fun i hi => by unfold ext; rw [if_pos (show i < l.length by omega)]
    rw [h2, ← hl, tab_nth]
  rw [e1]
  congr 1
  unfold ext
  rw [if_neg (show ¬ n < l.length by omega)]
set_option maxRecDepth 100000 in
theorem iVal_ext {n x : Nat} (h : x < 2 ^ n) (_h0 : 0 < n) : B.sval (n + 1) (x + 2 ^ n * (B.neg n x).toNat) = B.sval n x := by
  have hneg : B.neg (n + 1) (x + 2 ^ n * (B.neg n x).toNat) = B.neg n x := by
    show (x + 2 ^ n * (B.neg n x).toNat).testBit (n + 1 - 1) = B.neg n x
    rw [Nat.add_sub_cancel]
    generalize B.neg n x = b
    cases b
    · rw [show (false : Bool).toNat = 0 from rfl, Nat.mul_zero, Nat.add_zero]
      exact Nat.testBit_lt_two_pow h
    · rw [show (true : Bool).toNat = 1 from rfl, Nat.mul_one, Nat.testBit_eq_decide_div_mod_eq, Nat.add_div_right _ (Nat.two_pow_pos n), Nat.div_eq_of_lt h]
      rfl
  have hp : 2 ^ (n + 1) = 2 ^ n + 2 ^ n := by rw [Nat.pow_succ]; omega
  cases hb : B.neg n x
  · rw [hb] at hneg
    rw [B.sval_pos hneg, B.sval_pos hb]
    simp
  · rw [hb] at hneg
    rw [B.sval_neg hneg, B.sval_neg hb, hp, show (true : Bool).toNat = 1 from rfl, Nat.mul_one]
    push_cast
    omega
set_option maxRecDepth 100000 in
theorem neg_num {l : List Int} {n : Nat} (_hl : l.length = n) : B.neg n (num l) = (nth l (n - 1) == 1) := by
  show (num l).testBit (n - 1) = _
  rw [num_bit]
set_option maxRecDepth 100000 in
theorem int_signed {l : List Int} {n : Nat} (hl : l.length = n) (h0 : 0 < n) : B.iVal (n + 1) (num (fitV ⟨l, true⟩ (n + 1)).l) = B.iVal n (num l) ∧ B.iOk (n + 1) (num (fitV ⟨l, true⟩ (n + 1)).l) = B.iOk n (num l) := by
  have e : num (fitV ⟨l, true⟩ (n + 1)).l = num l + 2 ^ n * (B.neg n (num l)).toNat := by
    rw [fit_snoc hl, num_snoc, hl, neg_num hl]
    show num l + 2 ^ n * (nth l (l.length - 1) == 1).toNat = _
    rw [hl]
  have hs := iVal_ext (num_lt' hl) h0
  rw [e]
  have hi : B.iFit (n + 1) (num l + 2 ^ n * (B.neg n (num l)).toNat) ↔ B.iFit n (num l) := by unfold B.iFit; rw [hs]
  exact ⟨by unfold B.iVal; simp only [hi, hs], by unfold B.iOk; simp only [hi]⟩
set_option maxRecDepth 100000 in
theorem int_unsigned {l : List Int} {n : Nat} (hl : l.length = n) : num (fitV ⟨l, false⟩ (n + 1)).l = num l := by
  rw [fit_snoc hl, num_snoc]
  show num l + 2 ^ l.length * ((0 : Int) == 1).toNat = _
  rw [show ((0 : Int) == 1) = false from rfl]
  simp
set_option maxRecDepth 100000 in
set_option maxHeartbeats 2000000 in
theorem rInt_v (A : Option Addr) (n c : Nat) (s : Bool) (l : List Int) (w : World) (h : Rb w A n l) (hn : n ≤ 1000000) :
    Calls Tryz.prog 25 #[.agg #[.slice A n c, .bool s]] w fun e w' => e = .returned (.tuple #[.int .i64 (iVal ⟨l, s⟩), .bool (iOk ⟨l, s⟩)]) ∧ Below w.heap.size w w' := by
  have O0 := (Own.at1 w 24 #[.slice A n c, .bool s] (g := w.heap.size) (by simp))
  have BB := (below_new (Below.refl w.heap.size w) (.cells #[.slice A n c, .bool s] 24))
  have HN := Lib.hid (rNorm_any A n c s l _ (h.step BB) hn)
  have hlen := nrm_len ⟨l, s⟩
  have hok := nrm_ok ⟨l, s⟩
  unfold iVal iOk kn
  generalize nrm ⟨l, s⟩ = x at *
  obtain ⟨lx, sx⟩ := x
  simp only at *
  have hid := nrm_of (v := ⟨lx, sx⟩) hok
  obtain ⟨N, hN⟩ : ∃ N, lx.length = N := ⟨_, rfl⟩
  rw [hN] at hlen ⊢
  have HK := Lib.hid (fun (u : World) (A1 : Option Addr) (c1 : Nat) (r : Rb u A1 N lx) => rKnown_any A1 N c1 sx lx u r (by omega))
  unfold kn at HK
  rw [hid] at HK
  simp only at HK
  clear h hn hid hok
  cases hk : knL lx
  · rw [hk] at HK
    simp only [Bool.false_eq_true, if_false, Bool.false_and]
    clear hk
    replace hN := Lib.hid hN
    go_enter Tryz.func25, Tryz.ntmps25
    go_wp2_with (first
      | (go_at_call 93; refine HN.out.mono ?_; rintro e w1 ⟨A1, c1, rfl, n1, hb1⟩; simp only [hN.out] at n1 ⊢; replace BB := below_step BB hb1; replace O0 := O0.step hb1; have qO00 := O0.cell 0; have qO01 := O0.cell 1; have fO00 := O0.free 0; have fO01 := O0.free 1; have B1 := below_set2 BB (Nat.le_refl _) (.slice A1 N c1) (.bool sx); have U0 := O0.put2 (.slice A1 N c1) (.bool sx); have n2 := (n1.setT O0 (by decide) 0 (.slice A1 N c1)).setT (O0.put 0 _) (by decide) 1 (.bool sx); have r2 := n2.rd; have q0 := U0.cell 0; have q1 := U0.cell 1)
      | (go_at_call 32; refine (HK.out _ _ _ r2).mono ?_; rintro e w2 ⟨rfl, hb2⟩))
    go_ret2
    exact ⟨rfl, below_step B1 hb2⟩
  · rw [hk] at HK
    simp only [if_true, Bool.true_and]
    have HB := Lib.hid (fun (u : World) (A1 : Option Addr) (c1 : Nat) (r : Rb u A1 N lx) => rBools_any A1 N c1 sx lx u r (by omega))
    have hnu := num_lt' hN
    cases sx
    · rw [int_unsigned hN]
      have hnu2 : num lx + 2 ^ N * 0 = num lx := by omega
      replace hN := Lib.hid hN
      replace hnu2 := Lib.hid hnu2
      generalize num lx = y at *
      clear hk hnu
      go_enter Tryz.func25, Tryz.ntmps25
      go_wp2_with (first
        | (go_at_call 93; refine HN.out.mono ?_; rintro e w1 ⟨A1, c1, rfl, n1, hb1⟩; simp only [hN.out] at n1 ⊢; replace BB := below_step BB hb1; replace O0 := O0.step hb1; have qO00 := O0.cell 0; have qO01 := O0.cell 1; have fO00 := O0.free 0; have fO01 := O0.free 1; have B1 := below_set2 BB (Nat.le_refl _) (.slice A1 N c1) (.bool false); have U0 := O0.put2 (.slice A1 N c1) (.bool false); have n2 := (n1.setT O0 (by decide) 0 (.slice A1 N c1)).setT (O0.put 0 _) (by decide) 1 (.bool false); have r2 := n2.rd; have q0 := U0.cell 0; have q1 := U0.cell 1)
        | (go_at_call 32; refine (HK.out _ _ _ r2).mono ?_; rintro e w2 ⟨rfl, hb2⟩; replace B1 := below_step B1 hb2; replace U0 := U0.step hb2; have y0 := U0.cell 0; have y1 := U0.cell 1; have r3 := r2.step hb2)
        | (go_at_call 114; refine (HB.out _ _ _ r3).mono ?_; rintro e w3 ⟨X3, x3, rfl, nn3, hb3⟩; have B3 := below_step B1 hb3; have V0 := U0.step hb3; have z1 := V0.cell 1; have Bz := hb3)
        | (at_builtin; refine B.wpList_push rfl (.tmp 15) (.tmp 16) rfl rfl Bz rfl nn3 _ rfl false rfl (by omega) ?_; intro A9 c9 w9 hN9 hb9)
        | (go_at_call 115; refine (B.rInt_any A9 (N + 1) c9 y _ (by have := hN9.rd; rwa [show (false : Bool).toNat = 0 from rfl, hnu2.out] at this) (by omega) hN9.le).mono ?_; rintro e w4 ⟨rfl, hb4⟩))
      go_ret2
      exact ⟨rfl, below_step (below_step B1 hb9) hb4⟩
    · rw [(int_signed hN hlen.1).1, (int_signed hN hlen.1).2]
      replace hN := Lib.hid hN
      generalize num lx = y at *
      clear hk hnu
      go_enter Tryz.func25, Tryz.ntmps25
      go_wp2_with (first
        | (go_at_call 93; refine HN.out.mono ?_; rintro e w1 ⟨A1, c1, rfl, n1, hb1⟩; simp only [hN.out] at n1 ⊢; replace BB := below_step BB hb1; replace O0 := O0.step hb1; have qO00 := O0.cell 0; have qO01 := O0.cell 1; have fO00 := O0.free 0; have fO01 := O0.free 1; have B1 := below_set2 BB (Nat.le_refl _) (.slice A1 N c1) (.bool true); have U0 := O0.put2 (.slice A1 N c1) (.bool true); have n2 := (n1.setT O0 (by decide) 0 (.slice A1 N c1)).setT (O0.put 0 _) (by decide) 1 (.bool true); have r2 := n2.rd; have q0 := U0.cell 0; have q1 := U0.cell 1)
        | (go_at_call 32; refine (HK.out _ _ _ r2).mono ?_; rintro e w2 ⟨rfl, hb2⟩; replace B1 := below_step B1 hb2; replace U0 := U0.step hb2; have y0 := U0.cell 0; have y1 := U0.cell 1; have r3 := r2.step hb2)
        | (go_at_call 114; refine (HB.out _ _ _ r3).mono ?_; rintro e w3 ⟨X3, x3, rfl, nn3, hb3⟩; have B3 := below_step B1 hb3; have V0 := U0.step hb3; have z1 := V0.cell 1)
        | (go_at_call 115; refine (B.rInt_any X3 N x3 y _ nn3.rd (by omega) nn3.le).mono ?_; rintro e w4 ⟨rfl, hb4⟩))
      go_ret2
      exact ⟨rfl, below_step B3 hb4⟩
set_option maxRecDepth 100000 in
theorem window_any (hi lo : Int) (w : World) (hh : I64 hi) (hl : I64 lo) : Calls Tryz.prog 141 #[.int .i64 hi, .int .i64 lo] w fun e w' => e = .returned (.int .i64 (spE hi lo)) ∧ w = w' := by
  unfold spE
  by_cases h1 : hi < lo
  · rw [if_pos h1]
    clear hh hl
    go_enter Tryz.func141, Tryz.ntmps141
    go_wp2
    go_ret
    exact ⟨rfl, rfl⟩
  · rw [if_neg h1]
    have hd := dist_wrap hh hl (by omega)
    clear hh hl
    have d1 : decide (hi < lo) = false := by simpa using h1
    have hD : 0 ≤ hi - lo := by omega
    clear h1
    generalize hi - lo = D at *
    by_cases h2 : 128 ≤ D
    · rw [if_pos h2]
      go_enter Tryz.func141, Tryz.ntmps141
      go_wp2
      go_ret
      exact ⟨rfl, rfl⟩
    · rw [if_neg h2]
      go_enter Tryz.func141, Tryz.ntmps141
      go_wp2
      go_ret
      exact ⟨rfl, rfl⟩
end Go.Proofs.YtognpmggfplekaaGreatDoor

namespace Go.Proofs.YtognpmggfplekaaGreatDoor
open Go Go.RowKit

set_option maxRecDepth 100000 in
theorem slF_in {l : List Int} {lo : Int} {j p : Nat} (h : lo + (j : Int) = p) (hp : p < l.length) : slF l lo j = nth l p := by
  unfold slF atI
  rw [h, if_pos ⟨by omega, by omega⟩, Int.toNat_natCast]
set_option maxRecDepth 100000 in
theorem slF_out {l : List Int} {lo z : Int} {j : Nat} (h : lo + (j : Int) = z) (hp : z < 0 ∨ (l.length : Int) ≤ z) : slF l lo j = 2 := by
  unfold slF atI
  rw [h, if_neg (by rintro ⟨h1, h2⟩; omega)]
set_option maxRecDepth 100000 in
set_option maxHeartbeats 4000000 in
theorem rSlice_v (A : Option Addr) (n c : Nat) (s : Bool) (l : List Int) (hi lo : Int) (w : World) (h : Rb w A n l) (hn : n ≤ 1000000) (hh : I64 hi) (hl : I64 lo) : Calls Tryz.prog 48 #[.agg #[.slice A n c, .bool s], .int .i64 hi, .int .i64 lo] w (RetE w (slV ⟨l, s⟩ hi lo) (spE hi lo)) := by
  have O0 := ((Own.at1 w 24 #[.slice A n c, .bool s] (g := w.heap.size) (by simp)).alloc (.cells #[.slice none 0 0, .bool false] 24))
  have O1 := (Own.at1 (w.alloc (.cells #[.slice A n c, .bool s] 24)) 24 #[.slice none 0 0, .bool false] (g := w.heap.size + 1) (by simp))
  have BB := (below_new (below_new (Below.refl w.heap.size w) (.cells #[.slice A n c, .bool s] 24)) (.cells #[.slice none 0 0, .bool false] 24))
  have HS := Lib.hid (fun (u : World) => window_any hi lo u hh hl)
  have HN := Lib.hid (rNorm_any A n c s l _ (h.step BB) hn)
  have hlen := nrm_len ⟨l, s⟩
  have hnn := nrm_nn (v := ⟨l, s⟩) h.nn
  unfold slV
  generalize nrm ⟨l, s⟩ = x at *
  obtain ⟨lx, sx⟩ := x
  simp only at *
  obtain ⟨N, hN⟩ : ∃ N, lx.length = N := ⟨_, rfl⟩
  rw [hN] at hlen
  have qO10 := O1.cell 0; have qO11 := O1.cell 1; have fO10 := O1.free 0; have fO11 := O1.free 1
  by_cases he : spE hi lo = 0
  · rw [if_pos he]
    obtain ⟨K, hk, hk1, hk2, hk3⟩ := spW_ok he
    rw [he] at HS
    rw [he, hk, Int.toNat_natCast]
    obtain ⟨K', rfl⟩ : ∃ K', K = K' + 1 := ⟨K - 1, by omega⟩
    unfold I64 at hh hl
    have hw : IntKind.i64.wrap (hi - lo) = (K' : Int) := by rw [IntWalk.i64_in _ (by omega)]; omega
    replace hN := Lib.hid hN
    replace hk3 := Lib.hid hk3
    replace hh := Lib.hid hh
    replace hl := Lib.hid hl
    clear h he hk
    go_enter Tryz.func48, Tryz.ntmps48
    go_wp2_with (first
      | (go_at_call 141; refine (HS.out _).mono ?_; rintro e w0 ⟨rfl, rfl⟩)
      | (go_at_call 93; refine HN.out.mono ?_; rintro e w1 ⟨A1, c1, rfl, n1, hb1⟩; simp only [hN.out] at n1 ⊢; replace BB := below_step BB hb1; replace O0 := O0.step hb1; replace O1 := O1.step hb1; have qO00 := O0.cell 0; have qO01 := O0.cell 1; have fO00 := O0.free 0; have fO01 := O0.free 1; have B1 := below_set2 BB (Nat.le_refl _) (.slice A1 N c1) (.bool sx); have U0 := O0.put2 (.slice A1 N c1) (.bool sx); have n2 := (n1.setT O0 (by decide) 0 (.slice A1 N c1)).setT (O0.put 0 _) (by decide) 1 (.bool sx); have U1 := O1.far2 (g := w.heap.size) (by omega) (.slice A1 N c1) (.bool sx); skip))
    have L1 := hb1.size
    simp only [World.size_alloc] at L1
    have r2 := n2.rd
    obtain ⟨b1, o1, rfl, hl1, hc1⟩ := r2.2.2 hlen.1
    have hr9 : rdo w1.heap.size (some ⟨b1, o1, none⟩) N lx ((((w1.setCell ⟨w.heap.size, 0, none⟩ (.slice (some ⟨b1, o1, none⟩) N c1)).setCell ⟨w.heap.size, 1, none⟩ (.bool sx))).alloc (.cells #[.slice none 0 0, .bool false] 24)) := by
      have := rdo.of r2 (below_new (Below.refl _ _) (.cells #[.slice none 0 0, .bool false] 24))
      simpa only [World.size_setCell] using this
    have V0 := U0.alloc (.cells #[.slice none 0 0, .bool false] 24)
    have V1 := U1.alloc (.cells #[.slice none 0 0, .bool false] 24)
    have V9 := Own.at1 (((w1.setCell ⟨w.heap.size, 0, none⟩ (.slice (some ⟨b1, o1, none⟩) N c1)).setCell ⟨w.heap.size, 1, none⟩ (.bool sx))) 24 #[.slice none 0 0, .bool false] (g := w1.heap.size) (by simp)
    have B2 := below_new B1 (.cells #[.slice none 0 0, .bool false] 24)
    have hz0 : w1.heap.size ≤ ((((w1.setCell ⟨w.heap.size, 0, none⟩ (.slice (some ⟨b1, o1, none⟩) N c1)).setCell ⟨w.heap.size, 1, none⟩ (.bool sx))).alloc (.cells #[.slice none 0 0, .bool false] 24)).heap.size := by simp
    clear U0 U1 O0 O1 BB n1 n2 r2 hc1 hb1 B1
    generalize ((((w1.setCell ⟨w.heap.size, 0, none⟩ (.slice (some ⟨b1, o1, none⟩) N c1)).setCell ⟨w.heap.size, 1, none⟩ (.bool sx))).alloc (.cells #[.slice none 0 0, .bool false] 24)) = W0 at *
    generalize w1.heap.size = g9 at *
    go_loopw [10] (fun i wr => ∃ (j : Nat) (A' : Option Addr) (c' : Nat), j ≤ K' + 1 ∧ i = .int .i64 j ∧ Hid (Own wr w.heap.size 24 #[.slice (some ⟨b1, o1, none⟩) N c1, .bool sx]) ∧ Hid (Own wr (w.heap.size + 1) 24 #[.slice none 0 0, .bool false]) ∧ Hid (Own wr g9 24 #[.slice A' j c', .bool false]) ∧ Hid (Nb wr g9 A' j c' (tab j (slF lx lo))) ∧ Hid (rdo g9 (some ⟨b1, o1, none⟩) N lx wr ∧ g9 ≤ wr.heap.size ∧ Below w.heap.size w wr)) (fun i _ => K' + 1 - (intOf i).toNat)
    case atStart => exact ⟨0, none, 0, Nat.zero_le _, rfl, Lib.hid V0, Lib.hid V1, Lib.hid V9, Lib.hid (Nb.nil _ _), Lib.hid ⟨hr9, hz0, B2⟩⟩
    case round =>
      clear V0 V1 V9 hr9 B2 hz0
      obtain ⟨j, A', c', hj, rfl, H0, H1, H9, HN9, HB⟩ := hrel
      have p0 := H0.out.cell 0
      have p1 := H0.out.cell 1
      by_cases hlt : j ≤ K'
      · have d1 : decide (j ≤ K') = true := by simpa using hlt
        have hS0 : owns w.heap.size #[.slice (some ⟨b1, o1, none⟩) N c1, .bool sx] wr.drew ∧ (owns (w.heap.size + 1) #[.slice none 0 0, .bool false] wr.drew ∧ (rdo g9 (some ⟨b1, o1, none⟩) N lx wr.drew ∧ (szW g9 wr.drew ∧ blw w wr.drew))) := ⟨H0.out, H1.out, HB.out.1, HB.out.2.1, HB.out.2.2.drew⟩
        have hP1 : nbs g9 A' j c' (tab j (slF lx lo)) wr.drew := HN9.out
        have hP2 : owns g9 #[.slice A' j c', .bool false] wr.drew := H9.out
        haveI : Over w g9 := ⟨by omega⟩
        haveI : LeB w g9 := ⟨by omega⟩
        haveI : Apart g9 w.heap.size := ⟨by omega⟩
        haveI : Apart g9 (w.heap.size + 1) := ⟨by omega⟩
        obtain ⟨z, hzz⟩ : ∃ z, lo + (j : Int) = z := ⟨_, rfl⟩
        have hz : IntKind.i64.wrap (lo + (j : Int)) = z := by rw [IntWalk.i64_in _ (by have := hk3.out; have := hh.out; have := hl.out; omega)]; exact hzz
        by_cases hin : 0 ≤ z ∧ z < N
        · obtain ⟨p, rfl⟩ : ∃ p : Nat, z = p := ⟨z.toNat, by omega⟩
          have hpN : p < N := by omega
          have d2 : (0 : Int) ≤ p := by omega
          have d3 : (p : Int) < N := by omega
          have hext := Lib.hid (slF_in hzz (by rw [hN.out]; exact hpN))
          replace hzz := Lib.hid hzz
          clear H0 H1 H9 HN9 HB hin
          go_wp2
          refine region_k (by kernel_rfl) (fun u => owns w.heap.size #[.slice (some ⟨b1, o1, none⟩) N c1, .bool sx] u ∧ (owns (w.heap.size + 1) #[.slice none 0 0, .bool false] u ∧ (rdo g9 (some ⟨b1, o1, none⟩) N lx u ∧ (szW g9 u ∧ blw w u)))) [tru, tru, tru, tru, tru, tru, tru, tru, tru, tru, nbs g9 A' j c' (tab j (slF lx lo)), tru, owns g9 #[.slice A' j c', .bool false]] [isV (.pointer (some ⟨g9, 0, none⟩)), isV (.slice A' j c'), isV (.pointer (some ⟨w.heap.size, 0, none⟩)), isV (.slice (some ⟨b1, o1, none⟩) N c1), isV (.int .i64 lo), isV (.int .i64 j), isV (.int .i64 p), isV (.pointer (some ⟨b1, o1 + p, none⟩)), isV (.int .u8 (nth lx p)), isOne g9 (nth lx p), isNbL g9 (j + 1) (tab j (slF lx lo) ++ [(nth lx p)]), isV (.pointer (some ⟨g9, 0, none⟩)), didL g9 g9 (j + 1) (tab j (slF lx lo) ++ [(nth lx p)]) false] [some 40, some 41, some 42, some 43, some 44, some 45, some 46, some 47, some 48, some 49, some 50, some 51, none] [[], [0], [], [2], [], [], [4, 5], [3, 6], [7], [8], [1, 9], [0, 1, 2, 3, 4, 5, 6, 7, 8, 9, 10], [11, 10, 10, 0, 1, 2, 3, 4, 5, 6, 7, 8, 9, 10]] [[], [0], [], [2], [], [], [4, 5], [3, 6], [7], [8], [1, 9], [], [11, 10]] [[], [], [], [], [], [], [], [], [], [], [9], [], []] [[], [], [], [], [], [], [], [], [], [], [9, 12], [], []] (by kernel_rfl) (by kernel_rfl) (by kernel_rfl) (by kernel_rfl) (by kernel_rfl) rfl (by kernel_rfl) (by kernel_rfl) (by kernel_rfl) hS0 (by
            intro U hU
            simp only [List.mem_cons, List.not_mem_nil, or_false] at hU
            rcases hU with rfl | rfl | rfl | rfl | rfl | rfl | rfl | rfl | rfl | rfl | rfl | rfl | rfl
            all_goals first | trivial | exact hP1 | exact hP2) ?_ ?_
          · refine ⟨?_, ?_, ?_, ?_, ?_, ?_, ?_, ?_, ?_, ?_, ?_, ?_, ?_, trivial⟩
            · intro a w' hS hO hF' hP K hK
              have ha := hO 9 (by rfl)
              refine if_ok (by rfl) ?_
              refine wp_fa0 _ rfl (ev ha) ?_
              exact hK _ w' (fun h => by cases h) (keepK_same hS) rfl
            · intro a w' hS hO hF' hP K hK
              have O := hP 12 _ (by rfl) rfl
              obtain ⟨_, f0, rfl⟩ := (hF' 0 rfl).1 40 _ rfl rfl
              refine if_ok (by rfl) ?_
              refine wp_ldS _ rfl (ev f0) (O.cell 0) ?_
              exact hK _ w' (fun h => by cases h) (keepK_same hS) rfl
            · intro a w' hS hO hF' hP K hK
              have ha := hO 3 (by rfl)
              refine if_ok (by rfl) ?_
              refine wp_fa0 _ rfl (ev ha) ?_
              exact hK _ w' (fun h => by cases h) (keepK_same hS) rfl
            · intro a w' hS hO hF' hP K hK
              obtain ⟨_, f0, rfl⟩ := (hF' 2 rfl).1 42 _ rfl rfl
              refine if_ok (by rfl) ?_
              refine wp_ldS _ rfl (ev f0) (hS.1.cell 0) ?_
              exact hK _ w' (fun h => by cases h) (keepK_same hS) rfl
            · intro a w' hS hO hF' hP K hK
              have ha := hO 2 (by rfl)
              refine if_ok (by rfl) ?_
              unfold Oper.wp execOp
              simp only [Sem.run_pure, ev ha]
              exact hK _ w' (fun h => by cases h) (keepK_same hS) rfl
            · intro a w' hS hO hF' hP K hK
              have ha := hO 10 (by rfl)
              refine if_ok (by rfl) ?_
              unfold Oper.wp execOp
              simp only [Sem.run_pure, ev ha]
              exact hK _ w' (fun h => by cases h) (keepK_same hS) rfl
            · intro a w' hS hO hF' hP K hK
              obtain ⟨_, f0, rfl⟩ := (hF' 4 rfl).1 44 _ rfl rfl
              obtain ⟨_, f1, rfl⟩ := (hF' 5 rfl).1 45 _ rfl rfl
              refine if_ok (by rfl) ?_
              refine wp_add _ _ _ rfl (ev f0) (ev f1) ?_
              rw [hz]
              exact hK _ w' (fun h => by cases h) (keepK_same hS) rfl
            · intro a w' hS hO hF' hP K hK
              obtain ⟨_, f0, rfl⟩ := (hF' 3 rfl).1 43 _ rfl rfl
              obtain ⟨_, f1, rfl⟩ := (hF' 6 rfl).1 46 _ rfl rfl
              refine if_ok (by rfl) ?_
              refine wp_ix _ _ rfl (ev f0) (ev f1) hpN ?_
              exact hK _ w' (fun h => by cases h) (keepK_same hS) rfl
            · intro a w' hS hO hF' hP K hK
              obtain ⟨_, f0, rfl⟩ := (hF' 7 rfl).1 47 _ rfl rfl
              refine if_ok (by rfl) ?_
              refine wp_ldU _ rfl (ev f0) (rdo_cell hS.2.2.1 (k := p) hpN) ?_
              exact hK _ w' (fun h => by cases h) (keepK_same hS) rfl
            · intro a w' hS hO hF' hP K hK
              obtain ⟨_, f0, rfl⟩ := (hF' 8 rfl).1 48 _ rfl rfl
              have hsz := hS.2.2.2.1
              refine if_ok (by rfl) ?_
              refine wp_bs1 _ rfl (ev f0) ?_
              exact hK _ _ (fun h => by cases h) (keepK_below (below_new (Below.refl _ _) _) hS) ⟨_, rfl, Own.new _ _ _, hsz⟩
            · intro a w' hS hO hF' hP K hK
              obtain ⟨_, f0, rfl⟩ := (hF' 1 rfl).1 41 _ rfl rfl
              obtain ⟨_, f1, g0, rfl, hO1, hg1⟩ := (hF' 9 rfl).1 49 _ rfl rfl
              have hN := hP 10 _ (by rfl) rfl
              have hsz := hS.2.2.2.1
              refine if_ok (by rfl) ?_
              refine wp_cat _ _ rfl rfl hsz (ev f0) hN (ev f1) (Rb.of_own hO1 (nnL_one (hnn.nth _)) rfl) (by omega) ?_
              intro A9 c9 w9 hN9 hg9
              exact hK _ w9 (fun h => by cases h) (keepK_grown hN.rowB hg9 hsz inferInstance ⟨inferInstance, inferInstance, inferInstance, inferInstance, inferInstance, inferInstance, inferInstance, inferInstance, inferInstance, inferInstance, inferInstance, inferInstance, trivial⟩ ⟨.inr inferInstance, .inr inferInstance, .inr inferInstance, .inr inferInstance, .inr inferInstance, .inr inferInstance, .inr inferInstance, .inr inferInstance, .inr inferInstance, .inl rfl, .inl rfl, .inr inferInstance, .inl rfl, trivial⟩ hS) ⟨A9, c9, rfl, hN9⟩
            · intro a w' hS hO hF' hP K hK
              have ha := hO 9 (by rfl)
              refine if_ok (by rfl) ?_
              refine wp_fa0 _ rfl (ev ha) ?_
              exact hK _ w' (fun h => by cases h) (keepK_same hS) rfl
            · intro a w' hS hO hF' hP K hK
              obtain ⟨_, f0, rfl⟩ := (hF' 11 rfl).1 51 _ rfl rfl
              obtain ⟨_, f1, A9, c9, rfl, hN⟩ := (hF' 10 rfl).1 50 _ rfl rfl
              have O := hP 12 _ (by rfl) rfl
              refine if_ok (by rfl) ?_
              refine wp_st0 _ _ rfl (ev f0) (ev f1) O ?_
              exact hK _ _ (fun _ => rfl) (keepK_store O inferInstance ⟨inferInstance, inferInstance, inferInstance, inferInstance, inferInstance, inferInstance, inferInstance, inferInstance, inferInstance, inferInstance, inferInstance, inferInstance, trivial⟩ ⟨inferInstance, inferInstance, inferInstance, inferInstance, inferInstance, inferInstance, inferInstance, inferInstance, inferInstance, inferInstance, inferInstance, inferInstance, trivial⟩ hS) ⟨A9, c9, O.row, hN.row O⟩
          · intro vs u hl hS hV
            match vs, hl, hV with
            | [v0, v1, v2, v3, v4, v5, v6, v7, v8, v9, v10, v11, v12], _, hV =>
              simp only [puts, Act.put, List.setIfInBounds_toArray, List.set_cons_zero, List.set_cons_succ]
              obtain ⟨A9, c9, OU, hN9⟩ := hV 12 _ rfl rfl
              have hbx := hS.2.2.2.2
              have hsz := hS.2.2.2.1
              have hrd := hS.2.2.1
              have h0 := hS.1
              have h1 := hS.2.1
              clear hV hS
              go_wp2
              go_roundw
              case rel => exact ⟨j + 1, A9, c9, by omega, by go_num, Lib.hid h0, Lib.hid h1, Lib.hid OU, Lib.hid (by rw [tab_snoc, hext.out]; exact hN9), Lib.hid ⟨hrd, hsz, hbx⟩⟩
              case measure => simp [intOf]; omega
        · skip
          have hext := Lib.hid (slF_out (l := lx) hzz (by rw [hN.out]; omega))
          have k0 := H9.out.cell 0
          have U9 := H9.out.alloc (.cells #[.int .u8 2] 48)
          have U1 := H1.out.alloc (.cells #[.int .u8 2] 48)
          have U0 := H0.out.alloc (.cells #[.int .u8 2] 48)
          have UN := HN9.out.alloc (.cells #[.int .u8 2] 48)
          have RB : Rb (wr.alloc (.cells #[.int .u8 2] 48)) (some ⟨wr.heap.size, 0, none⟩) 1 [2] := Rb.of_own (Own.new wr _ _) (nnL_one (by decide)) rfl
          have hB1 := below_new HB.out.2.2 (.cells #[.int .u8 2] 48)
          have hr1 := (show Stb (rdo g9 (some ⟨b1, o1, none⟩) N lx) from inferInstance).st _ _ (below_new (Below.refl _ _) (.cells #[.int .u8 2] 48)) HB.out.1
          have hsz : g9 ≤ (wr.alloc (.cells #[.int .u8 2] 48)).heap.size := Nat.le_trans HB.out.2.1 (by simp)
          have L9 := L1
          clear hS0 hP1 hP2 H0 H1 H9 HN9 HB
          replace hzz := Lib.hid hzz
          have hgg : ∀ A9 c9 w9, Nb w9 g9 A9 (j + 1) c9 (tab j (slF lx lo) ++ [2]) → (wr.alloc (.cells #[.int .u8 2] 48)).grownBy w9 (Value.slice A' j c').ownBlock → Own w9 w.heap.size 24 #[.slice (some ⟨b1, o1, none⟩) N c1, .bool sx] ∧ Own w9 (w.heap.size + 1) 24 #[.slice none 0 0, .bool false] ∧ Own w9 g9 24 #[.slice A' j c', .bool false] ∧ rdo g9 (some ⟨b1, o1, none⟩) N lx w9 ∧ g9 ≤ w9.heap.size ∧ Below w.heap.size w w9 := fun A9 c9 w9 hN9 hg9 =>
            ⟨U0.catG (by decide) UN hg9, U1.catG (by decide) UN hg9, U9.catG (by decide) UN hg9, (show Sgr g9 (rdo g9 (some ⟨b1, o1, none⟩) N lx) from inferInstance).st _ _ _ UN.rowB hg9 hsz hr1, Nat.le_trans hsz hg9.size, Below.grown hB1 hg9 hB1.size (fun k hk => Nat.le_trans (by omega) (UN.rowB k hk).1)⟩
          replace hgg := Lib.hid hgg
          clear U0 U1 hr1 hB1 L9
          rcases (show z < 0 ∨ (0 ≤ z ∧ (N : Int) ≤ z) by omega) with hz1 | ⟨hz1, hz2⟩
          · have d2 : decide (0 ≤ z) = false := by simp; omega
            clear hin hz1
            go_wp2_with (at_builtin; refine wpList_catG rfl (.tmp 53) (.tmp 54) rfl rfl hsz rfl UN rfl RB (by omega) ?_; intro A9 c9 w9 hN9 hg9; obtain ⟨V0, V1, V9, hr9, hs9, hb9⟩ := hgg.out _ _ _ hN9 hg9; have v0 := V9.cell 0; have v1 := V9.free 0)
            rw [set0_row V9]
            go_roundw
            case rel =>
              haveI : Over w g9 := ⟨by omega⟩
              exact ⟨j + 1, A9, c9, by omega, by go_num, Lib.hid (V0.rowFar (by omega)), Lib.hid (V1.rowFar (by omega)), Lib.hid V9.row, Lib.hid (by rw [tab_snoc, hext.out]; exact hN9.row V9), Lib.hid ⟨(show Sst g9 (rdo g9 (some ⟨b1, o1, none⟩) N lx) from inferInstance).st _ _ _ _ _ _ V9 hr9, by simpa [World.setRow] using hs9, below_row hb9 (by omega) _⟩⟩
            case measure => simp [intOf]; omega
          · have d2 : decide (0 ≤ z) = true := by simpa using hz1
            have d3 : decide (z < (N : Int)) = false := by simp; omega
            clear hin hz1 hz2
            go_wp2_with (at_builtin; refine wpList_catG rfl (.tmp 53) (.tmp 54) rfl rfl hsz rfl UN rfl RB (by omega) ?_; intro A9 c9 w9 hN9 hg9; obtain ⟨V0, V1, V9, hr9, hs9, hb9⟩ := hgg.out _ _ _ hN9 hg9; have v0 := V9.cell 0; have v1 := V9.free 0)
            rw [set0_row V9]
            go_roundw
            case rel =>
              haveI : Over w g9 := ⟨by omega⟩
              exact ⟨j + 1, A9, c9, by omega, by go_num, Lib.hid (V0.rowFar (by omega)), Lib.hid (V1.rowFar (by omega)), Lib.hid V9.row, Lib.hid (by rw [tab_snoc, hext.out]; exact hN9.row V9), Lib.hid ⟨(show Sst g9 (rdo g9 (some ⟨b1, o1, none⟩) N lx) from inferInstance).st _ _ _ _ _ _ V9 hr9, by simpa [World.setRow] using hs9, below_row hb9 (by omega) _⟩⟩
            case measure => simp [intOf]; omega
      · obtain rfl : j = K' + 1 := by omega
        have d1 : decide (K' + 1 ≤ K') = false := by simp
        have g0 := H1.out.cell 0
        have g1 := H1.out.cell 1
        have g2 := H1.out.free 0
        have g3 := H1.out.free 1
        have k0 := H9.out.cell 0
        have k1 := H9.out.cell 1
        have HBo := HB.out.2.2
        clear hlt
        go_wp2
        exact ret_vecE Tryz.results48 rfl rfl rfl (H1.out.put2 _ _) (RetE.mk' (v := ⟨tab (K' + 1) (slF lx lo), false⟩) (((HN9.out.setT H1.out (by decide) 0 _).setT (H1.out.put 0 _) (by decide) 1 _).mono (by omega)) (below_set2 HBo (Nat.le_succ _) _ _))
  · rw [if_neg he]
    have he' : (spE hi lo != 0) = true := by simpa using he
    generalize spE hi lo = er at *
    clear h hh hl hlen he
    go_enter Tryz.func48, Tryz.ntmps48
    go_wp2_with (go_at_call 141; refine (HS.out _).mono ?_; rintro e w0 ⟨rfl, rfl⟩)
    exact ret_vecE Tryz.results48 rfl rfl rfl O1 (RetE.mk' (v := nilV) (Nb.nil _ _) BB)
end Go.Proofs.YtognpmggfplekaaGreatDoor

namespace Go.Proofs.YtognpmggfplekaaGreatDoor
open Go Go.RowKit

def rowV (B g n c : Nat) (l : List Int) : Value → World → Prop := fun _ u => Nb u B (some ⟨g, 0, none⟩) n c l
instance (B g n c : Nat) (l : List Int) : StV (rowV B g n c l) := ⟨fun _ _ _ hb h => Nb.step h hb⟩
/-- j bits put from place lo on. -/
def ptJ (x y : List Int) (lo : Int) (j N : Nat) : List Int := tab N fun i => if lo ≤ i ∧ (i : Int) < lo + j then nth y (i - lo).toNat else nth x i
set_option maxRecDepth 100000 in
theorem ptJ_zero {x y : List Int} {lo : Int} {N : Nat} (hx : x.length = N) : ptJ x y lo 0 N = x := by
  unfold ptJ
  rw [show tab N (fun i => if lo ≤ i ∧ (i : Int) < lo + (0 : Nat) then nth y (i - lo).toNat else nth x i) = tab N (nth x) from tab_congr fun i _ => by rw [if_neg (by omega)], ← hx, tab_nth]
set_option maxRecDepth 100000 in
theorem ptJ_len (x y : List Int) (lo : Int) (j N : Nat) : (ptJ x y lo j N).length = N := tab_len _ _
set_option maxRecDepth 100000 in
theorem ptJ_in {x y : List Int} {lo : Int} {j N p : Nat} (h : lo + (j : Int) = p) (hp : p < N) : ptJ x y lo (j + 1) N = (ptJ x y lo j N).set p (nth y j) := by
  apply list_ext (by rw [List.length_set, ptJ_len, ptJ_len])
  intro i hi
  rw [ptJ_len] at hi
  have e1 : nth (ptJ x y lo (j + 1) N) i = if lo ≤ i ∧ (i : Int) < lo + (j + 1 : Nat) then nth y (i - lo).toNat else nth x i := nth_tab _ hi
  have e2 : nth (ptJ x y lo j N) i = if lo ≤ i ∧ (i : Int) < lo + j then nth y (i - lo).toNat else nth x i := nth_tab _ hi
  rw [e1]
  by_cases hip : i = p
  · subst hip
    rw [if_pos (by omega), show ((i : Int) - lo).toNat = j by omega]
    unfold nth
    rw [List.getD_eq_getElem?_getD, List.getD_eq_getElem?_getD, List.getElem?_set_self (by rw [ptJ_len]; exact hi)]
    simp
  · have e3 : nth ((ptJ x y lo j N).set p (nth y j)) i = nth (ptJ x y lo j N) i := by
      unfold nth
      rw [List.getD_eq_getElem?_getD, List.getElem?_set_ne (Ne.symm hip), List.getD_eq_getElem?_getD]
    rw [e3, e2]
    by_cases hc : lo ≤ i ∧ (i : Int) < lo + j
    · rw [if_pos hc, if_pos (by omega)]
    · rw [if_neg hc, if_neg (by omega)]
set_option maxRecDepth 100000 in
theorem ptJ_out {x y : List Int} {lo z : Int} {j N : Nat} (h : lo + (j : Int) = z) (hp : z < 0 ∨ (N : Int) ≤ z) : ptJ x y lo (j + 1) N = ptJ x y lo j N := tab_congr fun i hi => by
  by_cases hc : lo ≤ i ∧ (i : Int) < lo + j
  · rw [if_pos hc, if_pos (by omega)]
  · rw [if_neg hc, if_neg (by omega)]
set_option maxRecDepth 100000 in
theorem ptJ_all {x y : List Int} {lo hi : Int} {j N : Nat} (h : hi = lo + j - 1) : ptJ x y lo j N = tab N (ptF x y hi lo) := tab_congr fun i _ => by
  unfold ptF
  by_cases hc : lo ≤ i ∧ (i : Int) < lo + j
  · rw [if_pos hc, if_neg (by omega)]
  · rw [if_neg hc, if_pos (by omega)]
set_option maxRecDepth 100000 in
set_option maxHeartbeats 4000000 in
theorem rPut_v (A Y : Option Addr) (n m c d : Nat) (s t : Bool) (l k : List Int) (hi lo : Int) (w : World) (h : Rb w A n l) (h' : Rb w Y m k) (hn : n ≤ 1000000) (hm : m ≤ 1000000) (hh : I64 hi) (hl : I64 lo) : Calls Tryz.prog 50 #[.agg #[.slice A n c, .bool s], .int .i64 hi, .int .i64 lo, .agg #[.slice Y m d, .bool t]] w (RetE w (putV ⟨l, s⟩ hi lo ⟨k, t⟩) (spE hi lo)) := by
  have O0 := (((Own.at1 w 24 #[.slice A n c, .bool s] (g := w.heap.size) (by simp)).alloc (.cells #[.slice Y m d, .bool t] 24)).alloc (.cells #[.slice none 0 0, .bool false] 24))
  have O1 := ((Own.at1 (w.alloc (.cells #[.slice A n c, .bool s] 24)) 24 #[.slice Y m d, .bool t] (g := w.heap.size + 1) (by simp)).alloc (.cells #[.slice none 0 0, .bool false] 24))
  have O2 := (Own.at1 ((w.alloc (.cells #[.slice A n c, .bool s] 24)).alloc (.cells #[.slice Y m d, .bool t] 24)) 24 #[.slice none 0 0, .bool false] (g := w.heap.size + 1 + 1) (by simp))
  have BB := (below_new (below_new (below_new (Below.refl w.heap.size w) (.cells #[.slice A n c, .bool s] 24)) (.cells #[.slice Y m d, .bool t] 24)) (.cells #[.slice none 0 0, .bool false] 24))
  have HS := Lib.hid (fun (u : World) => window_any hi lo u hh hl)
  have HNa := Lib.hid (rNorm_any A n c s l _ (h.step BB) hn)
  have HNb := Lib.hid (fun (u : World) (hb : Below w.heap.size w u) => rNorm_any Y m d t k u (h'.step hb) hm)
  have hlen := nrm_len ⟨l, s⟩
  have hlen2 := nrm_len ⟨k, t⟩
  unfold putV
  generalize nrm ⟨l, s⟩ = x at *
  generalize nrm ⟨k, t⟩ = y at *
  obtain ⟨lx, sx⟩ := x
  obtain ⟨ly0, sy⟩ := y
  simp only at *
  obtain ⟨N, hN⟩ : ∃ N, lx.length = N := ⟨_, rfl⟩
  obtain ⟨M, hM⟩ : ∃ M, ly0.length = M := ⟨_, rfl⟩
  rw [hN] at hlen
  rw [hM] at hlen2
  have qO20 := O2.cell 0; have qO21 := O2.cell 1; have fO20 := O2.free 0; have fO21 := O2.free 1
  by_cases he : spE hi lo = 0
  · rw [if_pos he]
    obtain ⟨K, hk, hk1, hk2, hk3⟩ := spW_ok he
    rw [he] at HS
    rw [he, hk, Int.toNat_natCast, hN]
    obtain ⟨K', rfl⟩ : ∃ K', K = K' + 1 := ⟨K - 1, by omega⟩
    have HF := Lib.hid (fun (u : World) (A2 : Option Addr) (c2 : Nat) (r : Rb u A2 M ly0) => show Calls Tryz.prog 134 #[.agg #[.slice A2 M c2, .bool sy], .int .i64 ((K' : Int) + 1)] u (RetV u (fitV ⟨ly0, sy⟩ (K' + 1))) by
      have := rfit_any A2 M c2 (K' + 1) sy ly0 u r hlen2.1 (by omega) (by omega)
      push_cast at this
      exact this)
    have hlf : (fitV ⟨ly0, sy⟩ (K' + 1)).l.length = K' + 1 := tab_len _ _
    have hsf : (fitV ⟨ly0, sy⟩ (K' + 1)).s = sy := rfl
    generalize fitV ⟨ly0, sy⟩ (K' + 1) = yf at *
    obtain ⟨ly, sf⟩ := yf
    simp only at hlf hsf ⊢
    obtain rfl : sy = sf := hsf.symm
    unfold I64 at hh hl
    have hw : IntKind.i64.wrap (hi - lo) = (K' : Int) := by rw [IntWalk.i64_in _ (by omega)]; omega
    have hall := Lib.hid (ptJ_all (x := lx) (y := ly) (N := N) hk3)
    replace hN := Lib.hid hN
    replace hM := Lib.hid hM
    replace hk3 := Lib.hid hk3
    replace hh := Lib.hid hh
    replace hl := Lib.hid hl
    replace hlf := Lib.hid hlf
    clear h h' he hk
    go_enter Tryz.func50, Tryz.ntmps50
    go_wp2_with (first
      | (go_at_call 141; refine (HS.out _).mono ?_; rintro e w0 ⟨rfl, rfl⟩)
      | (go_at_call 93; (with_reducible refine HNa.out.mono ?_); rintro e w1 ⟨A1, c1, rfl, n1, hb1⟩; simp only [hN.out] at n1 ⊢; replace BB := below_step BB hb1; replace O0 := O0.step hb1; replace O1 := O1.step hb1; replace O2 := O2.step hb1; have qO00 := O0.cell 0; have qO01 := O0.cell 1; have fO00 := O0.free 0; have fO01 := O0.free 1; have B1 := below_set2 BB (Nat.le_refl _) (.slice A1 N c1) (.bool sx); have U0 := O0.put2 (.slice A1 N c1) (.bool sx); have n2 := (n1.setT O0 (by decide) 0 (.slice A1 N c1)).setT (O0.put 0 _) (by decide) 1 (.bool sx); have U1 := O1.far2 (g := w.heap.size) (by omega) (.slice A1 N c1) (.bool sx); have U2 := O2.far2 (g := w.heap.size) (by omega) (.slice A1 N c1) (.bool sx); have qU10 := U1.cell 0; have qU11 := U1.cell 1; have fU10 := U1.free 0; have fU11 := U1.free 1)
      | (go_at_call 93; (with_reducible refine (HNb.out _ B1).mono ?_); rintro e w2 ⟨A2, c2, rfl, m1, hb2⟩; simp only [hM.out] at m1 ⊢; replace B1 := below_step B1 hb2; replace U0 := U0.step hb2; replace U1 := U1.step hb2; replace U2 := U2.step hb2; replace n2 := n2.step hb2)
      | (go_at_call 134; refine (HF.out _ A2 c2 m1.rd).mono ?_; rintro e w3 ⟨A3, c3, rfl, f1, hb3⟩; simp only [hlf.out] at f1 ⊢; replace B1 := below_step B1 hb3; replace U0 := U0.step hb3; replace U1 := U1.step hb3; replace U2 := U2.step hb3; have n3 := n2.step hb3; have qU10 := U1.cell 0; have qU11 := U1.cell 1; have fU10 := U1.free 0; have fU11 := U1.free 1))
    obtain ⟨gA, csA, rfl, hgA, OA, _⟩ := n3.own hlen.1
    obtain ⟨gB, csB, rfl, hgB, OB, _⟩ := f1.own (by omega)
    have hgn : gB ≠ gA := by
      obtain ⟨cs, O, _⟩ := n2.own1 hlen.1
      have := O.lt
      omega
    have V0 := U0.far2 (g := w.heap.size + 1) (by omega) (.slice (some ⟨gB, 0, none⟩) (K' + 1) c3) (.bool sy)
    have V1 := U1.put2 (.slice (some ⟨gB, 0, none⟩) (K' + 1) c3) (.bool sy)
    have V2 := U2.far2 (g := w.heap.size + 1) (by omega) (.slice (some ⟨gB, 0, none⟩) (K' + 1) c3) (.bool sy)
    have NA := ((n3.setT U1 (by decide) 0 (.slice (some ⟨gB, 0, none⟩) (K' + 1) c3)).setT (U1.put 0 _) (by decide) 1 (.bool sy)).mono (B' := w.heap.size) (by simp only [World.size_alloc]; omega)
    have RB : rdx gA (some ⟨gB, 0, none⟩) (K' + 1) ly ((w3.setCell ⟨w.heap.size + 1, 0, none⟩ (.slice (some ⟨gB, 0, none⟩) (K' + 1) c3)).setCell ⟨w.heap.size + 1, 1, none⟩ (.bool sy)) := ⟨((f1.setT U1 (by decide) 0 (.slice (some ⟨gB, 0, none⟩) (K' + 1) c3)).setT (U1.put 0 _) (by decide) 1 (.bool sy)).rd, fun b o e _ => by
      have e1 := Option.some.inj e
      simp only [Addr.mk.injEq, and_true] at e1
      rw [← e1.1]; exact hgn⟩
    have B3 := below_set2 B1 (Nat.le_succ _) (.slice (some ⟨gB, 0, none⟩) (K' + 1) c3) (.bool sy)
    rw [← ptJ_zero (y := ly) (lo := lo) hN.out] at NA
    have hnn2 := f1.nn
    have hgw : w.heap.size ≤ gA := by simp only [World.size_alloc] at hgA; omega
    clear U0 U1 U2 O0 O1 O2 BB n1 n2 n3 m1 f1 B1 OA OB hb1 hb2 hb3
    generalize ((w3.setCell ⟨w.heap.size + 1, 0, none⟩ (.slice (some ⟨gB, 0, none⟩) (K' + 1) c3)).setCell ⟨w.heap.size + 1, 1, none⟩ (.bool sy)) = W0 at *
    go_loopw [11] (fun i wr => ∃ (j : Nat), j ≤ K' + 1 ∧ i = .int .i64 j ∧ Hid (Own wr w.heap.size 24 #[.slice (some ⟨gA, 0, none⟩) N c1, .bool sx]) ∧ Hid (Own wr (w.heap.size + 1) 24 #[.slice (some ⟨gB, 0, none⟩) (K' + 1) c3, .bool sy]) ∧ Hid (Own wr (w.heap.size + 1 + 1) 24 #[.slice none 0 0, .bool false]) ∧ Hid (Nb wr w.heap.size (some ⟨gA, 0, none⟩) N c1 (ptJ lx ly lo j N)) ∧ Hid (rdx gA (some ⟨gB, 0, none⟩) (K' + 1) ly wr ∧ Below w.heap.size w wr)) (fun i _ => K' + 1 - (intOf i).toNat)
    case atStart => exact ⟨0, Nat.zero_le _, rfl, Lib.hid V0, Lib.hid V1, Lib.hid V2, Lib.hid NA, Lib.hid ⟨RB, B3⟩⟩
    case round =>
      clear V0 V1 V2 NA RB B3
      obtain ⟨j, hj, rfl, H0, H1, H2, HN, HB⟩ := hrel
      have p0 := H0.out.cell 0
      have p1 := H0.out.cell 1
      by_cases hlt : j ≤ K'
      · have d1 : decide (j ≤ K') = true := by simpa using hlt
        have hS0 : owns w.heap.size #[.slice (some ⟨gA, 0, none⟩) N c1, .bool sx] wr.drew ∧ (owns (w.heap.size + 1) #[.slice (some ⟨gB, 0, none⟩) (K' + 1) c3, .bool sy] wr.drew ∧ (owns (w.heap.size + 1 + 1) #[.slice none 0 0, .bool false] wr.drew ∧ (rdx gA (some ⟨gB, 0, none⟩) (K' + 1) ly wr.drew ∧ blw w wr.drew))) := ⟨H0.out, H1.out, H2.out, HB.out.1, HB.out.2.drew⟩
        have hP1 : nbs w.heap.size (some ⟨gA, 0, none⟩) N c1 (ptJ lx ly lo j N) wr.drew := HN.out
        have hy := hnn2.nth j
        haveI : Over w gA := ⟨hgw⟩
        obtain ⟨z, hzz⟩ : ∃ z, lo + (j : Int) = z := ⟨_, rfl⟩
        have hz : IntKind.i64.wrap (lo + (j : Int)) = z := by rw [IntWalk.i64_in _ (by have := hk3.out; have := hh.out; have := hl.out; omega)]; exact hzz
        by_cases hin : 0 ≤ z ∧ z < N
        · obtain ⟨p, rfl⟩ : ∃ p : Nat, z = p := ⟨z.toNat, by omega⟩
          have hpN : p < N := by omega
          have d2 : (0 : Int) ≤ p := by omega
          have d3 : (p : Int) < N := by omega
          have hnx := Lib.hid (ptJ_in (x := lx) (y := ly) hzz hpN)
          replace hzz := Lib.hid hzz
          clear H0 H1 H2 HN HB hin
          go_wp2
          refine region_k (by kernel_rfl) (fun u => owns w.heap.size #[.slice (some ⟨gA, 0, none⟩) N c1, .bool sx] u ∧ (owns (w.heap.size + 1) #[.slice (some ⟨gB, 0, none⟩) (K' + 1) c3, .bool sy] u ∧ (owns (w.heap.size + 1 + 1) #[.slice none 0 0, .bool false] u ∧ (rdx gA (some ⟨gB, 0, none⟩) (K' + 1) ly u ∧ blw w u)))) [tru, tru, tru, tru, tru, tru, tru, tru, tru, tru, tru, nbs w.heap.size (some ⟨gA, 0, none⟩) N c1 (ptJ lx ly lo j N)] [isV (.pointer (some ⟨w.heap.size, 0, none⟩)), isV (.slice (some ⟨gA, 0, none⟩) N c1), isV (.int .i64 lo), isV (.int .i64 j), isV (.int .i64 p), isV (.pointer (some ⟨(w.heap.size + 1), 0, none⟩)), isV (.slice (some ⟨gB, 0, none⟩) (K' + 1) c3), isV (.int .i64 j), isV (.pointer (some ⟨gB, 0 + j, none⟩)), isV (.int .u8 (nth ly j)), isV (.pointer (some ⟨gA, p, none⟩)), rowV w.heap.size gA N c1 ((ptJ lx ly lo j N).set p (nth ly j))] [some 48, some 49, some 50, some 51, some 52, some 53, some 54, some 55, some 56, some 57, some 58, none] [[], [0], [], [], [2, 3], [], [5], [], [6, 7], [8], [1, 4, 0, 1, 2, 3, 4, 5, 6, 7, 8, 9], [10, 9, 0, 1, 2, 3, 4, 5, 6, 7, 8, 9]] [[], [0], [], [], [2, 3], [], [5], [], [6, 7], [8], [1, 4], [10, 9]] [[], [], [], [], [], [], [], [], [], [], [], []] [[], [], [], [], [], [], [], [], [], [], [], []] (by kernel_rfl) (by kernel_rfl) (by kernel_rfl) (by kernel_rfl) (by kernel_rfl) rfl (by kernel_rfl) (by kernel_rfl) (by kernel_rfl) hS0 (by
            intro U hU
            simp only [List.mem_cons, List.not_mem_nil, or_false] at hU
            rcases hU with rfl | rfl | rfl | rfl | rfl | rfl | rfl | rfl | rfl | rfl | rfl | rfl
            all_goals first | trivial | exact hP1) ?_ ?_
          · refine ⟨?_, ?_, ?_, ?_, ?_, ?_, ?_, ?_, ?_, ?_, ?_, ?_, trivial⟩
            · intro a w' hS hO hF' hP K hK
              have ha := hO 4 (by rfl)
              refine if_ok (by rfl) ?_
              refine wp_fa0 _ rfl (ev ha) ?_
              exact hK _ w' (fun h => by cases h) (keepK_same hS) rfl
            · intro a w' hS hO hF' hP K hK
              obtain ⟨_, f0, rfl⟩ := (hF' 0 rfl).1 48 _ rfl rfl
              refine if_ok (by rfl) ?_
              refine wp_ldS _ rfl (ev f0) (hS.1.cell 0) ?_
              exact hK _ w' (fun h => by cases h) (keepK_same hS) rfl
            · intro a w' hS hO hF' hP K hK
              have ha := hO 2 (by rfl)
              refine if_ok (by rfl) ?_
              unfold Oper.wp execOp
              simp only [Sem.run_pure, ev ha]
              exact hK _ w' (fun h => by cases h) (keepK_same hS) rfl
            · intro a w' hS hO hF' hP K hK
              have ha := hO 11 (by rfl)
              refine if_ok (by rfl) ?_
              unfold Oper.wp execOp
              simp only [Sem.run_pure, ev ha]
              exact hK _ w' (fun h => by cases h) (keepK_same hS) rfl
            · intro a w' hS hO hF' hP K hK
              obtain ⟨_, f0, rfl⟩ := (hF' 2 rfl).1 50 _ rfl rfl
              obtain ⟨_, f1, rfl⟩ := (hF' 3 rfl).1 51 _ rfl rfl
              refine if_ok (by rfl) ?_
              refine wp_add _ _ _ rfl (ev f0) (ev f1) ?_
              rw [hz]
              exact hK _ w' (fun h => by cases h) (keepK_same hS) rfl
            · intro a w' hS hO hF' hP K hK
              have ha := hO 7 (by rfl)
              refine if_ok (by rfl) ?_
              refine wp_fa0 _ rfl (ev ha) ?_
              exact hK _ w' (fun h => by cases h) (keepK_same hS) rfl
            · intro a w' hS hO hF' hP K hK
              obtain ⟨_, f0, rfl⟩ := (hF' 5 rfl).1 53 _ rfl rfl
              refine if_ok (by rfl) ?_
              refine wp_ldS _ rfl (ev f0) (hS.2.1.cell 0) ?_
              exact hK _ w' (fun h => by cases h) (keepK_same hS) rfl
            · intro a w' hS hO hF' hP K hK
              have ha := hO 11 (by rfl)
              refine if_ok (by rfl) ?_
              unfold Oper.wp execOp
              simp only [Sem.run_pure, ev ha]
              exact hK _ w' (fun h => by cases h) (keepK_same hS) rfl
            · intro a w' hS hO hF' hP K hK
              obtain ⟨_, f0, rfl⟩ := (hF' 6 rfl).1 54 _ rfl rfl
              obtain ⟨_, f1, rfl⟩ := (hF' 7 rfl).1 55 _ rfl rfl
              refine if_ok (by rfl) ?_
              refine wp_ix _ _ rfl (ev f0) (ev f1) (by omega) ?_
              exact hK _ w' (fun h => by cases h) (keepK_same hS) rfl
            · intro a w' hS hO hF' hP K hK
              obtain ⟨_, f0, rfl⟩ := (hF' 8 rfl).1 56 _ rfl rfl
              refine if_ok (by rfl) ?_
              refine wp_ldU _ rfl (ev f0) (rdx_cell hS.2.2.2.1 (k := j) (by omega)) ?_
              exact hK _ w' (fun h => by cases h) (keepK_same hS) rfl
            · intro a w' hS hO hF' hP K hK
              obtain ⟨_, f0, rfl⟩ := (hF' 1 rfl).1 49 _ rfl rfl
              obtain ⟨_, f1, rfl⟩ := (hF' 4 rfl).1 52 _ rfl rfl
              refine if_ok (by rfl) ?_
              refine wp_ix _ _ rfl (ev f0) (ev f1) hpN ?_
              rw [Nat.zero_add]
              exact hK _ w' (fun h => by cases h) (keepK_same hS) rfl
            · intro a w' hS hO hF' hP K hK
              obtain ⟨_, f0, rfl⟩ := (hF' 10 rfl).1 58 _ rfl rfl
              obtain ⟨_, f1, rfl⟩ := (hF' 9 rfl).1 57 _ rfl rfl
              have hN := hP 11 _ (by rfl) rfl
              obtain ⟨cs, O, _⟩ := hN.own1 (by omega)
              refine if_ok (by rfl) ?_
              refine wp_stU _ _ rfl (ev f0) (ev f1) hN hpN ?_
              exact hK _ _ (fun _ => rfl) (keepK_bit O inferInstance ⟨inferInstance, inferInstance, inferInstance, inferInstance, inferInstance, inferInstance, inferInstance, inferInstance, inferInstance, inferInstance, inferInstance, trivial⟩ ⟨inferInstance, inferInstance, inferInstance, inferInstance, inferInstance, inferInstance, inferInstance, inferInstance, inferInstance, inferInstance, inferInstance, trivial⟩ hS) (hN.put hpN hy)
          · intro vs u hl hS hV
            match vs, hl, hV with
            | [v0, v1, v2, v3, v4, v5, v6, v7, v8, v9, v10, v11], _, hV =>
              simp only [puts, Act.put, List.setIfInBounds_toArray, List.set_cons_zero, List.set_cons_succ]
              have hN9 := hV 11 _ rfl rfl
              have h0 := hS.1
              have h1 := hS.2.1
              have h2 := hS.2.2.1
              have h3 := hS.2.2.2
              clear hV hS
              go_wp2
              go_roundw
              case rel => exact ⟨j + 1, by omega, by go_num, Lib.hid h0, Lib.hid h1, Lib.hid h2, Lib.hid (by rw [hnx.out]; exact hN9), Lib.hid h3⟩
              case measure => simp [intOf]; omega
        · have hnx := Lib.hid (ptJ_out (x := lx) (y := ly) (N := N) hzz (by omega))
          clear hS0 hP1
          replace hzz := Lib.hid hzz
          rcases (show z < 0 ∨ (0 ≤ z ∧ (N : Int) ≤ z) by omega) with hz1 | ⟨hz1, hz2⟩
          · have d2 : decide (0 ≤ z) = false := by simp; omega
            clear hin hz1
            go_wp2
            go_roundw
            case rel => exact ⟨j + 1, by omega, by go_num, H0, H1, H2, Lib.hid (by rw [hnx.out]; exact HN.out), HB⟩
            case measure => simp [intOf]; omega
          · have d2 : decide (0 ≤ z) = true := by simpa using hz1
            have d3 : decide (z < (N : Int)) = false := by simp; omega
            clear hin hz1 hz2
            go_wp2
            go_roundw
            case rel => exact ⟨j + 1, by omega, by go_num, H0, H1, H2, Lib.hid (by rw [hnx.out]; exact HN.out), HB⟩
            case measure => simp [intOf]; omega
      · obtain rfl : j = K' + 1 := by omega
        have d1 : decide (K' + 1 ≤ K') = false := by simp
        have g0 := H2.out.cell 0
        have g1 := H2.out.cell 1
        have g2 := H2.out.free 0
        have g3 := H2.out.free 1
        have HNo := HN.out
        rw [hall.out] at HNo
        have HBo := HB.out.2
        clear hlt
        go_wp2
        exact ret_vecE Tryz.results50 rfl rfl rfl (H2.out.put2 _ _) (RetE.mk' (v := ⟨tab N (ptF lx ly hi lo), sx⟩) ((HNo.setT H2.out (by decide) 0 _).setT (H2.out.put 0 _) (by decide) 1 _) (below_set2 HBo (by omega) _ _))
  · rw [if_neg he]
    have he' : (spE hi lo != 0) = true := by simpa using he
    generalize spE hi lo = er at *
    clear h h' hh hl hlen hlen2 he
    go_enter Tryz.func50, Tryz.ntmps50
    go_wp2_with (go_at_call 141; refine (HS.out _).mono ?_; rintro e w0 ⟨rfl, rfl⟩)
    exact ret_vecE Tryz.results50 rfl rfl rfl O2 (RetE.mk' (v := nilV) (Nb.nil _ _) BB)
end Go.Proofs.YtognpmggfplekaaGreatDoor

namespace Go.Proofs.YtognpmggfplekaaGreatDoor
open Go Go.RowKit

instance (g n : Nat) (l : List Int) : SsV g (isSl n l) := ⟨fun _ _ _ _ _ _ _ O ⟨A, c, h1, h2⟩ => ⟨A, c, h1, h2.row O⟩⟩
section
variable {o : Oper} {a : Act} {w : World} {K : Act → World → Prop} {Q : Exit → Act → World → Prop}
set_option maxRecDepth 100000 in
theorem run_ixV (b p n c k : Nat) (hk : k < n) (W : World) : (Instr.indexAt 58 (.slice (some ⟨b, p, none⟩) n c) (.int .i64 k)).run Tryz.prog W = .ok (.pointer (some ⟨b, p + k * 2, none⟩)) W := by
  have i1 : (k : Int) < n := by omega
  have i0 : (0 : Int) ≤ k := by omega
  simp [go_sem, i0, i1]
set_option maxRecDepth 100000 in
theorem wp_ixV (x y : Operand) (ho : o.op = .indexAddr 58 x y) {b p n c k : Nat} (hx : a.eval x = .slice (some ⟨b, p, none⟩) n c) (hy : a.eval y = .int .i64 k) (hk : k < n) (h : K (a.put o.dst (.pointer (some ⟨b, p + k * 2, none⟩))) w) : o.wp Tryz.prog a w K Q := by
  refine wp_val ?_ h
  unfold execOp
  simp only [ho, hx, hy, Sem.run_bind, run_ixV _ _ _ _ _ hk, Result.andThen_ok, Sem.run_pure]
set_option maxRecDepth 100000 in
theorem run_ldV {b p : Nat} {x y : Value} (h1 : w.cell? ⟨b, p, none⟩ = some x) (h2 : w.cell? ⟨b, p + 1, none⟩ = some y) : (Instr.loadAt 24 (.pointer (some ⟨b, p, none⟩))).run Tryz.prog w = .ok (.agg #[x, y]) w := by simp [go_sem, h1, h2]
set_option maxRecDepth 100000 in
theorem wp_ldV (x : Operand) (ho : o.op = .load 24 x) {b p : Nat} (hx : a.eval x = .pointer (some ⟨b, p, none⟩)) {q r : Value} (h1 : w.cell? ⟨b, p, none⟩ = some q) (h2 : w.cell? ⟨b, p + 1, none⟩ = some r) (h : K (a.put o.dst (.agg #[q, r])) w) : o.wp Tryz.prog a w K Q := by
  refine wp_val ?_ h
  unfold execOp
  simp only [ho, hx, Sem.run_bind, run_ldV h1 h2, Result.andThen_ok, Sem.run_pure]
end
set_option maxRecDepth 100000 in
set_option maxHeartbeats 4000000 in
theorem rConcat_v (X : Option Addr) (n c : Nat) (f : Nat → Cv) (v : Nat → V) (w : World) (hV : Vs w.heap.size w X n f) (hR : Rv w f v) (hfn : ∀ j, (f j).n ≤ 1000000) (hn : n ≤ 1000) :
    Calls Tryz.prog 44 #[.slice X n c] w (RetE w (coV n v) (coE n v)) := by
  by_cases hn0 : n = 0
  · subst hn0
    have O0 := (Own.at1 w 24 #[.slice none 0 0, .bool false] (g := w.heap.size) (by simp))
    have BB := (below_new (Below.refl w.heap.size w) (.cells #[.slice none 0 0, .bool false] 24))
    have e1 : coE 0 v = 4 := rfl
    have e2 : coV 0 v = nilV := rfl
    rw [e1, e2]
    have qO00 := O0.cell 0; have qO01 := O0.cell 1; have fO00 := O0.free 0; have fO01 := O0.free 1
    clear hV hR
    go_enter Tryz.func44, Tryz.ntmps44
    go_wp2
    exact ret_vecE Tryz.results44 rfl rfl rfl O0 (RetE.mk' (v := nilV) (Nb.nil _ _) BB)
  · obtain ⟨b, o, rfl, hbl, hcc⟩ := hV (by omega)
    have O0 := ((Own.at1 w 24 #[.slice none 0 0, .bool false] (g := w.heap.size) (by simp)).alloc (.cells #[.slice none 0 0, .bool false] 24))
    have O1 := (Own.at1 (w.alloc (.cells #[.slice none 0 0, .bool false] 24)) 24 #[.slice none 0 0, .bool false] (g := w.heap.size + 1) (by simp))
    have BB := (below_new (below_new (Below.refl w.heap.size w) (.cells #[.slice none 0 0, .bool false] 24)) (.cells #[.slice none 0 0, .bool false] 24))
    have e0 : ((n : Int) == 0) = false := by simpa using hn0
    have qO10 := O1.cell 0; have qO11 := O1.cell 1; have fO10 := O1.free 0; have fO11 := O1.free 1
    replace hcc := Lib.hid hcc
    clear hV
    replace hn0 := hn0
    go_enter Tryz.func44, Tryz.ntmps44
    go_wp2
    go_loopw [5] (fun i wr => ∃ (k : Nat) (A1 : Option Addr) (m1 d1 : Nat), k ≤ n ∧ i = .int .i64 ((n : Int) - 1 - k) ∧ m1 ≤ 128 ∧ Hid (Own wr w.heap.size 24 #[.slice none 0 0, .bool false]) ∧ Hid (Own wr (w.heap.size + 1) 24 #[.slice A1 m1 d1, .bool false]) ∧ Hid (Nb wr w.heap.size A1 m1 d1 (catL v (dn n k))) ∧ Hid (Below w.heap.size w wr)) (fun i _ => (intOf i + 1).toNat)
    case atStart => exact ⟨0, none, 0, 0, Nat.zero_le _, by go_num, Nat.zero_le _, Lib.hid O0, Lib.hid O1, Lib.hid (Nb.nil _ _), Lib.hid BB⟩
    case round =>
      clear O0 O1 BB
      obtain ⟨k, A1, m1, d1, hk, rfl, hm1, H0, H1, HN, HB⟩ := hrel
      by_cases hlt : k < n
      · obtain ⟨j, hj⟩ : ∃ j : Nat, n - 1 - k = j := ⟨_, rfl⟩
        have hi : (n : Int) - 1 - k = j := by omega
        rw [hi]
        have hjn : j < n := by omega
        have hlj := nrm_len (v j)
        have hcells := Lib.hid (fun (u : World) (hb : Below w.heap.size w u) => (⟨(hb.cell (p := ⟨b, o + j * 2, none⟩) hbl).trans (hcc.out j hjn).1, (hb.cell (p := ⟨b, o + j * 2 + 1, none⟩) hbl).trans (hcc.out j hjn).2⟩ : u.cell? ⟨b, o + j * 2, none⟩ = some (.slice (f j).A (f j).n (f j).c) ∧ u.cell? ⟨b, o + j * 2 + 1, none⟩ = some (.bool (f j).s)))
        have hrd := Lib.hid (fun (u : World) (hb : Below w.heap.size w u) => (hR j).1.step hb)
        have hnx := Lib.hid (show catL v (dn n (k + 1)) = catL v (dn n k) ++ (nrm (v j)).l by rw [dn_succ, catL_snoc, hj])
        have hS0 : owns w.heap.size #[.slice none 0 0, .bool false] wr.drew ∧ blw w wr.drew := ⟨H0.out, HB.out.drew⟩
        have hP1 : nbs w.heap.size A1 m1 d1 (catL v (dn n k)) wr.drew := HN.out
        have hP2 : owns (w.heap.size + 1) #[.slice A1 m1 d1, .bool false] wr.drew := H1.out
        haveI : Over w (w.heap.size + 1) := ⟨by omega⟩
        haveI : Apart (w.heap.size + 1) w.heap.size := ⟨by omega⟩
        have d0 : (0 : Int) ≤ j := by omega
        clear H0 H1 HN HB
        go_wp2
        refine region_k (by kernel_rfl) (fun u => owns w.heap.size #[.slice none 0 0, .bool false] u ∧ blw w u) [tru, tru, tru, tru, tru, tru, tru, tru, nbs w.heap.size A1 m1 d1 (catL v (dn n k)), tru, owns (w.heap.size + 1) #[.slice A1 m1 d1, .bool false]] [isV (.pointer (some ⟨(w.heap.size + 1), 0, none⟩)), isV (.slice A1 m1 d1), isV (.slice (some ⟨b, o, none⟩) n c), isV (.int .i64 j), isV (.pointer (some ⟨b, o + j * 2, none⟩)), isV (.agg #[.slice (f j).A (f j).n (f j).c, .bool (f j).s]), isR (nrm (v j)), isSl (nrm (v j)).l.length (nrm (v j)).l, isNbL w.heap.size (m1 + (nrm (v j)).l.length) (catL v (dn n k) ++ (nrm (v j)).l), isV (.pointer (some ⟨(w.heap.size + 1), 0, none⟩)), didL w.heap.size (w.heap.size + 1) (m1 + (nrm (v j)).l.length) (catL v (dn n k) ++ (nrm (v j)).l) false] [some 17, some 18, some 19, some 20, some 21, some 22, some 23, some 24, some 25, some 26, none] [[], [0], [], [], [2, 3], [4], [5], [6], [1, 7, 6], [0, 1, 2, 3, 4, 5, 6, 7, 8], [9, 8, 8, 0, 1, 2, 3, 4, 5, 6, 7, 8]] [[], [0], [], [], [2, 3], [4], [5], [6], [1, 7], [], [9, 8]] [[], [], [], [], [], [], [], [], [6, 7], [], []] [[], [], [], [], [], [], [], [], [6, 7, 10], [], []] (by kernel_rfl) (by kernel_rfl) (by kernel_rfl) (by kernel_rfl) (by kernel_rfl) rfl (by kernel_rfl) (by kernel_rfl) (by kernel_rfl) hS0 (by
          intro U hU
          simp only [List.mem_cons, List.not_mem_nil, or_false] at hU
          rcases hU with rfl | rfl | rfl | rfl | rfl | rfl | rfl | rfl | rfl | rfl | rfl
          all_goals first | trivial | exact hP1 | exact hP2) ?_ ?_
        · refine ⟨?_, ?_, ?_, ?_, ?_, ?_, ?_, ?_, ?_, ?_, ?_, trivial⟩
          · intro a w' hS hO hF' hP K hK
            have ha := hO 4 (by rfl)
            refine if_ok (by rfl) ?_
            refine wp_fa0 _ rfl (ev ha) ?_
            exact hK _ w' (fun h => by cases h) (keepK_same hS) rfl
          · intro a w' hS hO hF' hP K hK
            have O := hP 10 _ (by rfl) rfl
            obtain ⟨_, f0, rfl⟩ := (hF' 0 rfl).1 17 _ rfl rfl
            refine if_ok (by rfl) ?_
            refine wp_ldS _ rfl (ev f0) (O.cell 0) ?_
            exact hK _ w' (fun h => by cases h) (keepK_same hS) rfl
          · intro a w' hS hO hF' hP K hK
            have ha := hO 0 (by rfl)
            refine if_ok (by rfl) ?_
            unfold Oper.wp execOp
            simp only [Sem.run_pure, ev ha]
            exact hK _ w' (fun h => by cases h) (keepK_same hS) rfl
          · intro a w' hS hO hF' hP K hK
            have ha := hO 5 (by rfl)
            refine if_ok (by rfl) ?_
            unfold Oper.wp execOp
            simp only [Sem.run_pure, ev ha]
            exact hK _ w' (fun h => by cases h) (keepK_same hS) rfl
          · intro a w' hS hO hF' hP K hK
            obtain ⟨_, f0, rfl⟩ := (hF' 2 rfl).1 19 _ rfl rfl
            obtain ⟨_, f1, rfl⟩ := (hF' 3 rfl).1 20 _ rfl rfl
            refine if_ok (by rfl) ?_
            refine wp_ixV _ _ rfl (ev f0) (ev f1) hjn ?_
            exact hK _ w' (fun h => by cases h) (keepK_same hS) rfl
          · intro a w' hS hO hF' hP K hK
            obtain ⟨_, f0, rfl⟩ := (hF' 4 rfl).1 21 _ rfl rfl
            have hc := hcells.out _ hS.2
            refine if_ok (by rfl) ?_
            refine wp_ldV _ rfl (ev f0) hc.1 hc.2 ?_
            exact hK _ w' (fun h => by cases h) (keepK_same hS) rfl
          · intro a w' hS hO hF' hP K hK
            obtain ⟨_, f0, rfl⟩ := (hF' 5 rfl).1 22 _ rfl rfl
            refine if_ok (by rfl) ?_
            refine wp_calls rfl (enters_of Tryz.func93 (by kernel_rfl) rfl) (args := #[.agg #[.slice (f j).A (f j).n (f j).c, .bool (f j).s]]) (by simp [Act.eval, f0]) ?_
            rw [(hR j).2]
            refine (rNorm_any _ _ _ (v j).s (v j).l _ (hrd.out _ hS.2) (hfn j)).mono ?_
            rintro e w2 ⟨A2, c2, rfl, r2, hb2⟩
            exact ⟨_, rfl, hK _ w2 (fun h => by cases h) (keepK_below hb2 hS) ⟨A2, c2, rfl, r2.rd⟩⟩
          · intro a w' hS hO hF' hP K hK
            obtain ⟨_, f0, A2, c2, rfl, r2⟩ := (hF' 6 rfl).1 23 _ rfl rfl
            refine if_ok (by rfl) ?_
            unfold Oper.wp execOp
            simp only [ev f0, Sem.run_bind, field0, Result.andThen_ok, Sem.run_pure]
            exact hK _ w' (fun h => by cases h) (keepK_same hS) ⟨A2, c2, rfl, r2⟩
          · intro a w' hS hO hF' hP K hK
            obtain ⟨_, f0, rfl⟩ := (hF' 1 rfl).1 18 _ rfl rfl
            obtain ⟨_, f1, A2, c2, rfl, r2⟩ := (hF' 7 rfl).1 24 _ rfl rfl
            have hN := hP 8 _ (by rfl) rfl
            have hsz := hS.2.size
            refine if_ok (by rfl) ?_
            refine wp_cat _ _ rfl rfl hsz (ev f0) hN (ev f1) r2 (by omega) ?_
            intro A9 c9 w9 hN9 hg9
            exact hK _ w9 (fun h => by cases h) (keepK_grown hN.rowB hg9 hsz inferInstance ⟨inferInstance, inferInstance, inferInstance, inferInstance, inferInstance, inferInstance, inferInstance, inferInstance, inferInstance, inferInstance, trivial⟩ ⟨.inr inferInstance, .inr inferInstance, .inr inferInstance, .inr inferInstance, .inr inferInstance, .inr inferInstance, .inl rfl, .inl rfl, .inl rfl, .inr inferInstance, .inl rfl, trivial⟩ hS) ⟨A9, c9, rfl, hN9⟩
          · intro a w' hS hO hF' hP K hK
            have ha := hO 4 (by rfl)
            refine if_ok (by rfl) ?_
            refine wp_fa0 _ rfl (ev ha) ?_
            exact hK _ w' (fun h => by cases h) (keepK_same hS) rfl
          · intro a w' hS hO hF' hP K hK
            obtain ⟨_, f0, rfl⟩ := (hF' 9 rfl).1 26 _ rfl rfl
            obtain ⟨_, f1, A9, c9, rfl, hN⟩ := (hF' 8 rfl).1 25 _ rfl rfl
            have O := hP 10 _ (by rfl) rfl
            refine if_ok (by rfl) ?_
            refine wp_st0 _ _ rfl (ev f0) (ev f1) O ?_
            refine hK _ _ (fun _ => rfl) (keepK_store O inferInstance ⟨inferInstance, inferInstance, inferInstance, inferInstance, inferInstance, inferInstance, inferInstance, inferInstance, inferInstance, inferInstance, trivial⟩ ⟨inferInstance, inferInstance, inferInstance, inferInstance, inferInstance, inferInstance, inferInstance, inferInstance, inferInstance, inferInstance, trivial⟩ hS) ⟨A9, c9, O.row, hN.row O⟩
        · intro vs u hl hS hV
          match vs, hl, hV with
          | [v0, v1, v2, v3, v4, v5, v6, v7, v8, v9, v10], _, hV =>
            simp only [puts, Act.put, List.setIfInBounds_toArray, List.set_cons_zero, List.set_cons_succ]
            obtain ⟨A9, c9, OU, hN9⟩ := hV 10 _ rfl rfl
            have h0 := hS.1
            have hb := hS.2
            clear hV hS
            obtain ⟨M, hM⟩ : ∃ M, m1 + (nrm (v j)).l.length = M := ⟨_, rfl⟩
            rw [hM] at OU hN9
            rw [← hnx.out] at hN9
            have k0 := OU.cell 0
            have g0 := h0.cell 0
            have g1 := h0.cell 1
            have g2 := h0.free 0
            have g3 := h0.free 1
            by_cases hB : 128 < M
            · have t1 : decide ((128 : Int) < M) = true := by simp; omega
              have hlM := hN9.len
              have e1 : coE n v = 12 := by unfold coE; rw [if_neg hn0, if_pos (Nat.lt_of_lt_of_le (by rw [hlM]; exact hB) (catL_mono v n (k + 1) n (by omega)))]
              have e2 : coV n v = nilV := by unfold coV; rw [if_neg (by rw [e1]; decide)]
              clear hB hlM
              replace e1 := Lib.hid e1
              replace e2 := Lib.hid e2
              go_wp2
              refine ret_vecE Tryz.results44 rfl rfl rfl (h0.put2 _ _) ?_
              rw [e1.out, e2.out]
              exact RetE.mk' (v := nilV) (Nb.nil _ _) (below_set2 hb (Nat.le_refl _) _ _)
            · have t1 : decide ((128 : Int) < M) = false := by simp; omega
              have hB' : M ≤ 128 := by omega
              clear hB
              replace hB' := Lib.hid hB'
              go_wp2
              go_roundw
              case rel => exact ⟨k + 1, A9, M, c9, by omega, by go_num, hB'.out, Lib.hid h0, Lib.hid OU, Lib.hid hN9, Lib.hid hb⟩
              case measure => simp [intOf] <;> omega
      · obtain rfl : k = n := by omega
        rw [show (k : Int) - 1 - k = -1 by omega]
        have g0 := H0.out.cell 0
        have g1 := H0.out.cell 1
        have g2 := H0.out.free 0
        have g3 := H0.out.free 1
        have k0 := H1.out.cell 0
        have k1 := H1.out.cell 1
        have HNo := HN.out
        have e1 : coE k v = 0 := by unfold coE; rw [if_neg hn0, if_neg (by rw [HNo.len]; omega)]
        have e2 : coV k v = ⟨catL v (dn k k), false⟩ := by unfold coV; rw [if_pos e1]
        replace e1 := Lib.hid e1
        replace e2 := Lib.hid e2
        go_wp2
        refine ret_vecE Tryz.results44 rfl rfl rfl (H0.out.put2 _ _) ?_
        rw [e1.out, e2.out]
        exact RetE.mk' (v := ⟨catL v (dn k k), false⟩) ((HNo.setT H0.out (by decide) 0 _).setT (H0.out.put 0 _) (by decide) 1 _) (below_set2 HB.out (Nat.le_refl _) _ _)
end Go.Proofs.YtognpmggfplekaaGreatDoor

namespace Go.Proofs.YtognpmggfplekaaGreatDoor
open Go Go.RowKit

set_option maxRecDepth 100000 in
theorem row_cell {B g n c j : Nat} {l : List Int} {u : World} {x : Int} (h : nbs B (some ⟨g, 0, none⟩) n c l u) (hj : j < n) (hx : nth l j = x) : u.cell? ⟨g, 0 + j, none⟩ = some (.int .u8 x) := by
  obtain ⟨b, o, e, _, hc⟩ := (Nb.rd h).at_ hj
  have e1 := Option.some.inj e
  simp only [Addr.mk.injEq, and_true] at e1
  obtain ⟨rfl, rfl⟩ := e1
  rw [hc, hx]
def cel (g p : Nat) (q : Value) : World → Prop := fun u => u.cell? ⟨g, p, none⟩ = some q
instance (g p : Nat) (q : Value) : Stb (cel g p q) := ⟨fun _ _ hb h => cell_step hb h⟩
/-- The first j bits combined in place. -/
def pwJ (f : Int → Int → Int) (x y : List Int) (j N : Nat) : List Int := tab N fun i => if i < j then f (nth x i) (nth y i) else nth x i
set_option maxRecDepth 100000 in
theorem pwJ_zero {f : Int → Int → Int} {x y : List Int} {N : Nat} (hx : x.length = N) : pwJ f x y 0 N = x := by
  unfold pwJ
  rw [show tab N (fun i => if i < 0 then f (nth x i) (nth y i) else nth x i) = tab N (nth x) from tab_congr fun i _ => by rw [if_neg (by omega)], ← hx, tab_nth]
set_option maxRecDepth 100000 in
theorem pwJ_at {f : Int → Int → Int} {x y : List Int} {j N : Nat} (h : j < N) : nth (pwJ f x y j N) j = nth x j := by
  unfold pwJ; rw [nth_tab _ h, if_neg (by omega)]
set_option maxRecDepth 100000 in
theorem pwJ_next {f : Int → Int → Int} {x y : List Int} {j N : Nat} (h : j < N) : pwJ f x y (j + 1) N = (pwJ f x y j N).set j (f (nth x j) (nth y j)) := by
  apply list_ext (by rw [List.length_set]; unfold pwJ; rw [tab_len, tab_len])
  intro i hi
  have hi' : i < N := by unfold pwJ at hi; rwa [tab_len] at hi
  have e1 : nth (pwJ f x y (j + 1) N) i = if i < j + 1 then f (nth x i) (nth y i) else nth x i := nth_tab _ hi'
  have e2 : nth (pwJ f x y j N) i = if i < j then f (nth x i) (nth y i) else nth x i := nth_tab _ hi'
  rw [e1]
  by_cases hij : i = j
  · subst hij
    rw [if_pos (by omega)]
    unfold nth
    rw [List.getD_eq_getElem?_getD (l := List.set _ _ _), List.getElem?_set_self (by unfold pwJ; rw [tab_len]; exact h)]
    simp
  · have e3 : nth ((pwJ f x y j N).set j (f (nth x j) (nth y j))) i = nth (pwJ f x y j N) i := by
      unfold nth
      rw [List.getD_eq_getElem?_getD, List.getElem?_set_ne (Ne.symm hij), List.getD_eq_getElem?_getD]
    rw [e3, e2]
    by_cases hc : i < j
    · rw [if_pos hc, if_pos (by omega)]
    · rw [if_neg hc, if_neg (by omega)]
set_option maxRecDepth 100000 in
theorem pwJ_all (f : Int → Int → Int) (x y : List Int) (N : Nat) : pwJ f x y N N = tab N fun i => f (nth x i) (nth y i) := tab_congr fun i hi => by rw [if_pos hi]
set_option maxRecDepth 100000 in
set_option maxHeartbeats 4000000 in
theorem rCond_any (Z : Option Addr) (q e : Nat) (r : Bool) (jz : List Int) (A Y : Option Addr) (n m c d : Nat) (s t : Bool) (l k : List Int) (w : World) (h : Rb w A n l) (h' : Rb w Y m k) (h2 : Rb w Z q jz) (hn : n ≤ 1000000) (hm : m ≤ 1000000) (hq : q ≤ 1000000) :
    Calls Tryz.prog 52 #[.agg #[.slice Z q e, .bool r], .agg #[.slice A n c, .bool s], .agg #[.slice Y m d, .bool t]] w (RetV w (condV ⟨jz, r⟩ ⟨l, s⟩ ⟨k, t⟩)) := by
  have O0 := ((((Own.at1 w 24 #[.slice Z q e, .bool r] (g := w.heap.size) (by simp)).alloc (.cells #[.slice A n c, .bool s] 24)).alloc (.cells #[.slice Y m d, .bool t] 24)).alloc (.cells #[.slice none 0 0, .bool false] 24))
  have O1 := (((Own.at1 (w.alloc (.cells #[.slice Z q e, .bool r] 24)) 24 #[.slice A n c, .bool s] (g := w.heap.size + 1) (by simp)).alloc (.cells #[.slice Y m d, .bool t] 24)).alloc (.cells #[.slice none 0 0, .bool false] 24))
  have O2 := ((Own.at1 ((w.alloc (.cells #[.slice Z q e, .bool r] 24)).alloc (.cells #[.slice A n c, .bool s] 24)) 24 #[.slice Y m d, .bool t] (g := w.heap.size + 1 + 1) (by simp)).alloc (.cells #[.slice none 0 0, .bool false] 24))
  have O3 := (Own.at1 (((w.alloc (.cells #[.slice Z q e, .bool r] 24)).alloc (.cells #[.slice A n c, .bool s] 24)).alloc (.cells #[.slice Y m d, .bool t] 24)) 24 #[.slice none 0 0, .bool false] (g := w.heap.size + 1 + 1 + 1) (by simp))
  have BB := (below_new (below_new (below_new (below_new (Below.refl w.heap.size w) (.cells #[.slice Z q e, .bool r] 24)) (.cells #[.slice A n c, .bool s] 24)) (.cells #[.slice Y m d, .bool t] 24)) (.cells #[.slice none 0 0, .bool false] 24))
  have HB := Lib.hid (rBalance_q A Y n m c d s t l k _ (h.step BB) (h'.step BB) hn hm)
  have HT := Lib.hid (fun (u : World) (hb : Below w.heap.size w u) => rTruth_any Z q e r jz u (h2.step hb) hq)
  have hbd := balN_bd ⟨l, s⟩ ⟨k, t⟩
  unfold condV bwV
  have hlx := (bal_len ⟨l, s⟩ ⟨k, t⟩).1
  have hly := (bal_len ⟨l, s⟩ ⟨k, t⟩).2
  generalize (balL ⟨l, s⟩ ⟨k, t⟩).l = lx at *
  generalize (balR ⟨l, s⟩ ⟨k, t⟩).l = ly at *
  generalize balN ⟨l, s⟩ ⟨k, t⟩ = N at *
  generalize balS ⟨l, s⟩ ⟨k, t⟩ = sy at *
  generalize truth ⟨jz, r⟩ = z at *
  clear h h' h2
  by_cases hz1 : z = 1
  · subst hz1
    have e9 : (tab N fun i => cdF 1 (nth lx i) (nth ly i)) = lx := by
      rw [show (tab N fun i => cdF 1 (nth lx i) (nth ly i)) = tab N (nth lx) from tab_congr fun i _ => rfl, ← hlx, tab_nth]
    rw [e9]
    clear e9
    have hlx' := Lib.hid hlx
    clear hly hlx
    go_enter Tryz.func52, Tryz.ntmps52
    go_wp2_with (first
      | (go_at_call 103; refine HB.out.mono ?_; rintro e w1 ⟨A1, c1, A2, c2, rfl, n1, n2, hb1⟩; have L1 := hb1.size; replace BB := below_new (below_new (below_step BB hb1) (.cells #[.slice A1 N c1, .bool sy] 24)) (.cells #[.slice A2 N c2, .bool sy] 24); replace O0 := ((O0.step hb1).alloc (.cells #[.slice A1 N c1, .bool sy] 24)).alloc (.cells #[.slice A2 N c2, .bool sy] 24); replace O3 := ((O3.step hb1).alloc (.cells #[.slice A1 N c1, .bool sy] 24)).alloc (.cells #[.slice A2 N c2, .bool sy] 24); have O7 := (Own.at1 w1 24 #[.slice A1 N c1, .bool sy] (g := w1.heap.size) rfl).alloc (.cells #[.slice A2 N c2, .bool sy] 24); have O8 := Own.at1 (w1.alloc (.cells #[.slice A1 N c1, .bool sy] 24)) 24 #[.slice A2 N c2, .bool sy] (g := w1.heap.size + 1) (by simp); have hlt1 := n1.own hbd.1; have hlt2 := n2.own hbd.1; replace n1 := (n1.alloc (.cells #[.slice A1 N c1, .bool sy] 24)).alloc (.cells #[.slice A2 N c2, .bool sy] 24); replace n2 := (n2.alloc (.cells #[.slice A1 N c1, .bool sy] 24)).alloc (.cells #[.slice A2 N c2, .bool sy] 24); have qO00 := O0.cell 0; have qO01 := O0.cell 1; have fO00 := O0.free 0; have fO01 := O0.free 1)
      | (go_at_call 36; refine (HT.out _ BB).mono ?_; rintro e w2 ⟨rfl, hb2⟩; replace BB := below_step BB hb2; replace O3 := O3.step hb2; replace O7 := O7.step hb2; replace O8 := O8.step hb2; replace n1 := n1.step hb2; replace n2 := n2.step hb2; have qO30 := O3.cell 0; have qO31 := O3.cell 1; have fO30 := O3.free 0; have fO31 := O3.free 1; have qO70 := O7.cell 0; have qO71 := O7.cell 1; have fO70 := O7.free 0; have fO71 := O7.free 1; have qO80 := O8.cell 0; have qO81 := O8.cell 1; have fO80 := O8.free 0; have fO81 := O8.free 1))
    exact ret_vec Tryz.results52 rfl rfl (O3.put2 _ _) (RetV.mk' (v := ⟨lx, sy⟩) (((n1.setT O3 (by decide) 0 _).setT (O3.put 0 _) (by decide) 1 _).mono (by simp only [World.size_alloc]; omega)) (below_set2 BB (by omega) _ _))
  · by_cases hz0 : z = 0
    · subst hz0
      have e9 : (tab N fun i => cdF 0 (nth lx i) (nth ly i)) = ly := by
        rw [show (tab N fun i => cdF 0 (nth lx i) (nth ly i)) = tab N (nth ly) from tab_congr fun i _ => rfl, ← hly, tab_nth]
      rw [e9]
      clear e9 hly hlx hz1
      go_enter Tryz.func52, Tryz.ntmps52
      go_wp2_with (first
        | (go_at_call 103; refine HB.out.mono ?_; rintro e w1 ⟨A1, c1, A2, c2, rfl, n1, n2, hb1⟩; have L1 := hb1.size; replace BB := below_new (below_new (below_step BB hb1) (.cells #[.slice A1 N c1, .bool sy] 24)) (.cells #[.slice A2 N c2, .bool sy] 24); replace O0 := ((O0.step hb1).alloc (.cells #[.slice A1 N c1, .bool sy] 24)).alloc (.cells #[.slice A2 N c2, .bool sy] 24); replace O3 := ((O3.step hb1).alloc (.cells #[.slice A1 N c1, .bool sy] 24)).alloc (.cells #[.slice A2 N c2, .bool sy] 24); have O7 := (Own.at1 w1 24 #[.slice A1 N c1, .bool sy] (g := w1.heap.size) rfl).alloc (.cells #[.slice A2 N c2, .bool sy] 24); have O8 := Own.at1 (w1.alloc (.cells #[.slice A1 N c1, .bool sy] 24)) 24 #[.slice A2 N c2, .bool sy] (g := w1.heap.size + 1) (by simp); have hlt1 := n1.own hbd.1; have hlt2 := n2.own hbd.1; replace n1 := (n1.alloc (.cells #[.slice A1 N c1, .bool sy] 24)).alloc (.cells #[.slice A2 N c2, .bool sy] 24); replace n2 := (n2.alloc (.cells #[.slice A1 N c1, .bool sy] 24)).alloc (.cells #[.slice A2 N c2, .bool sy] 24); have qO00 := O0.cell 0; have qO01 := O0.cell 1; have fO00 := O0.free 0; have fO01 := O0.free 1)
        | (go_at_call 36; refine (HT.out _ BB).mono ?_; rintro e w2 ⟨rfl, hb2⟩; replace BB := below_step BB hb2; replace O3 := O3.step hb2; replace O7 := O7.step hb2; replace O8 := O8.step hb2; replace n1 := n1.step hb2; replace n2 := n2.step hb2; have qO30 := O3.cell 0; have qO31 := O3.cell 1; have fO30 := O3.free 0; have fO31 := O3.free 1; have qO70 := O7.cell 0; have qO71 := O7.cell 1; have fO70 := O7.free 0; have fO71 := O7.free 1; have qO80 := O8.cell 0; have qO81 := O8.cell 1; have fO80 := O8.free 0; have fO81 := O8.free 1))
      exact ret_vec Tryz.results52 rfl rfl (O3.put2 _ _) (RetV.mk' (v := ⟨ly, sy⟩) (((n2.setT O3 (by decide) 0 _).setT (O3.put 0 _) (by decide) 1 _).mono (by simp only [World.size_alloc]; omega)) (below_set2 BB (by omega) _ _))
    · have d1 : (z == 1) = false := by simpa using hz1
      have d0 : (z == 0) = false := by simpa using hz0
      have e9 : (tab N fun i => cdF z (nth lx i) (nth ly i)) = pwJ (muxI 2) lx ly N N := by
        rw [pwJ_all]
        exact tab_congr fun i _ => by unfold cdF; rw [if_neg hz1, if_neg hz0]
      rw [e9]
      clear e9 hz0 hz1
      have hlx' := Lib.hid hlx
      clear hly hlx
      go_enter Tryz.func52, Tryz.ntmps52
      go_wp2_with (first
        | (go_at_call 103; refine HB.out.mono ?_; rintro e w1 ⟨A1, c1, A2, c2, rfl, n1, n2, hb1⟩; have L1 := hb1.size; replace BB := below_new (below_new (below_step BB hb1) (.cells #[.slice A1 N c1, .bool sy] 24)) (.cells #[.slice A2 N c2, .bool sy] 24); replace O0 := ((O0.step hb1).alloc (.cells #[.slice A1 N c1, .bool sy] 24)).alloc (.cells #[.slice A2 N c2, .bool sy] 24); replace O3 := ((O3.step hb1).alloc (.cells #[.slice A1 N c1, .bool sy] 24)).alloc (.cells #[.slice A2 N c2, .bool sy] 24); have O7 := (Own.at1 w1 24 #[.slice A1 N c1, .bool sy] (g := w1.heap.size) rfl).alloc (.cells #[.slice A2 N c2, .bool sy] 24); have O8 := Own.at1 (w1.alloc (.cells #[.slice A1 N c1, .bool sy] 24)) 24 #[.slice A2 N c2, .bool sy] (g := w1.heap.size + 1) (by simp); have hlt1 := n1.own hbd.1; have hlt2 := n2.own hbd.1; replace n1 := (n1.alloc (.cells #[.slice A1 N c1, .bool sy] 24)).alloc (.cells #[.slice A2 N c2, .bool sy] 24); replace n2 := (n2.alloc (.cells #[.slice A1 N c1, .bool sy] 24)).alloc (.cells #[.slice A2 N c2, .bool sy] 24); have qO00 := O0.cell 0; have qO01 := O0.cell 1; have fO00 := O0.free 0; have fO01 := O0.free 1)
        | (go_at_call 36; refine (HT.out _ BB).mono ?_; rintro e w2 ⟨rfl, hb2⟩; replace BB := below_step BB hb2; replace O3 := O3.step hb2; replace O7 := O7.step hb2; replace O8 := O8.step hb2; replace n1 := n1.step hb2; replace n2 := n2.step hb2; have qO30 := O3.cell 0; have qO31 := O3.cell 1; have fO30 := O3.free 0; have fO31 := O3.free 1; have qO70 := O7.cell 0; have qO71 := O7.cell 1; have fO70 := O7.free 0; have fO71 := O7.free 1; have qO80 := O8.cell 0; have qO81 := O8.cell 1; have fO80 := O8.free 0; have fO81 := O8.free 1))
      obtain ⟨gA, csA, rfl, hgA, OA, _⟩ := n1.own hbd.1
      obtain ⟨gB, csB, rfl, hgB, OB, _⟩ := n2.own hbd.1
      have hgw : w.heap.size ≤ gA := by simp only [World.size_alloc] at hgA; omega
      have NA := n1.mono (B' := w.heap.size) (by simp only [World.size_alloc]; omega)
      rw [← pwJ_zero (f := muxI 2) (y := ly) hlx'.out] at NA
      have RB : rdj gB N ly 0 w2 := fun i _ hi => by
        obtain ⟨b, o, e, _, hc⟩ := n2.rd.at_ hi
        have e1 := Option.some.inj e
        simp only [Addr.mk.injEq, and_true] at e1
        obtain ⟨rfl, rfl⟩ := e1
        exact hc
      have hnx1 := n1.nn
      have hny1 := n2.nn
      simp only [World.size_alloc] at L1
      clear O0 O1 O2 n1 n2 OA OB hb1 hb2 hlt1 hlt2 hgA hgB
      generalize w1.heap.size = g7 at *
      go_loopw [9] (fun i wr => ∃ (j : Nat), j ≤ N ∧ i = .int .i64 j ∧ Hid (Own wr (w.heap.size + 1 + 1 + 1) 24 #[.slice none 0 0, .bool false]) ∧ Hid (Own wr g7 24 #[.slice (some ⟨gA, 0, none⟩) N c1, .bool sy]) ∧ Hid (Own wr (g7 + 1) 24 #[.slice (some ⟨gB, 0, none⟩) N c2, .bool sy]) ∧ Hid (Nb wr w.heap.size (some ⟨gA, 0, none⟩) N c1 (pwJ (muxI 2) lx ly j N)) ∧ Hid (rdj gB N ly j wr ∧ Below w.heap.size w wr)) (fun i _ => N - (intOf i).toNat)
      case atStart => exact ⟨0, Nat.zero_le _, rfl, Lib.hid O3, Lib.hid O7, Lib.hid O8, Lib.hid NA, Lib.hid ⟨RB, BB⟩⟩
      case round =>
        clear O3 O7 O8 NA RB BB
        obtain ⟨j, hj, rfl, H3, H7, H8, HN, HB⟩ := hrel
        have p0 := H7.out.cell 0
        have p1 := H7.out.cell 1
        by_cases hlt : j < N
        · have i1 : (j : Int) < N := by omega
          have hS0 : owns (w.heap.size + 1 + 1 + 1) #[.slice none 0 0, .bool false] wr.drew ∧ (owns g7 #[.slice (some ⟨gA, 0, none⟩) N c1, .bool sy] wr.drew ∧ (owns (g7 + 1) #[.slice (some ⟨gB, 0, none⟩) N c2, .bool sy] wr.drew ∧ (rdj gB N ly (j + 1) wr.drew ∧ blw w wr.drew))) := ⟨H3.out, H7.out, H8.out, fun i h1 h2 => HB.out.1 i (by omega) h2, HB.out.2.drew⟩
          have hP1 : nbs w.heap.size (some ⟨gA, 0, none⟩) N c1 (pwJ (muxI 2) lx ly j N) wr.drew ∧ cel gB (0 + j) (.int .u8 (nth ly j)) wr.drew := ⟨HN.out, HB.out.1 j (Nat.le_refl _) hlt⟩
          have hnx := pwJ_at (f := muxI 2) (x := lx) (y := ly) hlt
          have hstep := Lib.hid (pwJ_next (f := muxI 2) (x := lx) (y := ly) hlt)
          have hx0 := hnx1.nth j
          have hy0 := hny1.nth j
          have hF1 := (muxI_bd 2 (nth lx j) (nth ly j)).1
          haveI : Over w gA := ⟨hgw⟩
          clear H3 H7 H8 HN HB
          go_wp2
          refine region_k (by kernel_rfl) (fun u => owns (w.heap.size + 1 + 1 + 1) #[.slice none 0 0, .bool false] u ∧ (owns g7 #[.slice (some ⟨gA, 0, none⟩) N c1, .bool sy] u ∧ (owns (g7 + 1) #[.slice (some ⟨gB, 0, none⟩) N c2, .bool sy] u ∧ (rdj gB N ly (j + 1) u ∧ blw w u)))) [tru, tru, tru, tru, tru, tru, tru, tru, tru, tru, tru, tru, tru, tru, tru, (fun u => nbs w.heap.size (some ⟨gA, 0, none⟩) N c1 (pwJ (muxI 2) lx ly j N) u ∧ cel gB (0 + j) (.int .u8 (nth ly j)) u)] [isV (.pointer (some ⟨g7, 0, none⟩)), isV (.slice (some ⟨gA, 0, none⟩) N c1), isV (.int .i64 j), isV (.pointer (some ⟨g7, 0, none⟩)), isV (.slice (some ⟨gA, 0, none⟩) N c1), isV (.int .i64 j), isV (.pointer (some ⟨gA, 0 + j, none⟩)), isV (.int .u8 (nth lx j)), isV (.pointer (some ⟨(g7 + 1), 0, none⟩)), isV (.slice (some ⟨gB, 0, none⟩) N c2), isV (.int .i64 j), isV (.pointer (some ⟨gB, 0 + j, none⟩)), isV (.int .u8 (nth ly j)), isV (.int .u8 (muxI 2 (nth lx j) (nth ly j))), isV (.pointer (some ⟨gA, j, none⟩)), rowV w.heap.size gA N c1 ((pwJ (muxI 2) lx ly j N).set j (muxI 2 (nth lx j) (nth ly j)))] [some 31, some 32, some 33, some 34, some 35, some 36, some 37, some 38, some 39, some 40, some 41, some 42, some 43, some 44, some 45, none] [[], [0], [], [], [3], [], [4, 5], [6], [], [8], [], [9, 10], [11], [7, 12], [1, 2, 0, 1, 2, 3, 4, 5, 6, 7, 8, 9, 10, 11, 12, 13], [14, 13, 13, 0, 1, 2, 3, 4, 5, 6, 7, 8, 9, 10, 11, 12, 13]] [[], [0], [], [], [3], [], [4, 5], [6], [], [8], [], [9, 10], [11], [7, 12], [1, 2], [14, 13]] [[], [], [], [], [], [], [], [], [], [], [], [], [], [], [], []] [[], [], [], [], [], [], [], [], [], [], [], [], [], [], [], []] (by kernel_rfl) (by kernel_rfl) (by kernel_rfl) (by kernel_rfl) (by kernel_rfl) rfl (by kernel_rfl) (by kernel_rfl) (by kernel_rfl) hS0 (by
            intro U hU
            simp only [List.mem_cons, List.not_mem_nil, or_false] at hU
            rcases hU with rfl | rfl | rfl | rfl | rfl | rfl | rfl | rfl | rfl | rfl | rfl | rfl | rfl | rfl | rfl | rfl
            all_goals first | trivial | exact hP1) ?_ ?_
          · refine ⟨?_, ?_, ?_, ?_, ?_, ?_, ?_, ?_, ?_, ?_, ?_, ?_, ?_, ?_, ?_, ?_, trivial⟩
            · intro a w' hS hO hF' hP K hK
              have ha := hO 7 (by rfl)
              refine if_ok (by rfl) ?_
              refine wp_fa0 _ rfl (ev ha) ?_
              exact hK _ w' (fun h => by cases h) (keepK_same hS) rfl
            · intro a w' hS hO hF' hP K hK
              obtain ⟨_, f0, rfl⟩ := (hF' 0 rfl).1 31 _ rfl rfl
              refine if_ok (by rfl) ?_
              refine wp_ldS _ rfl (ev f0) (hS.2.1.cell 0) ?_
              exact hK _ w' (fun h => by cases h) (keepK_same hS) rfl
            · intro a w' hS hO hF' hP K hK
              have ha := hO 9 (by rfl)
              refine if_ok (by rfl) ?_
              unfold Oper.wp execOp
              simp only [Sem.run_pure, ev ha]
              exact hK _ w' (fun h => by cases h) (keepK_same hS) rfl
            · intro a w' hS hO hF' hP K hK
              have ha := hO 7 (by rfl)
              refine if_ok (by rfl) ?_
              refine wp_fa0 _ rfl (ev ha) ?_
              exact hK _ w' (fun h => by cases h) (keepK_same hS) rfl
            · intro a w' hS hO hF' hP K hK
              obtain ⟨_, f0, rfl⟩ := (hF' 3 rfl).1 34 _ rfl rfl
              refine if_ok (by rfl) ?_
              refine wp_ldS _ rfl (ev f0) (hS.2.1.cell 0) ?_
              exact hK _ w' (fun h => by cases h) (keepK_same hS) rfl
            · intro a w' hS hO hF' hP K hK
              have ha := hO 9 (by rfl)
              refine if_ok (by rfl) ?_
              unfold Oper.wp execOp
              simp only [Sem.run_pure, ev ha]
              exact hK _ w' (fun h => by cases h) (keepK_same hS) rfl
            · intro a w' hS hO hF' hP K hK
              obtain ⟨_, f0, rfl⟩ := (hF' 4 rfl).1 35 _ rfl rfl
              obtain ⟨_, f1, rfl⟩ := (hF' 5 rfl).1 36 _ rfl rfl
              refine if_ok (by rfl) ?_
              refine wp_ix _ _ rfl (ev f0) (ev f1) hlt ?_
              exact hK _ w' (fun h => by cases h) (keepK_same hS) rfl
            · intro a w' hS hO hF' hP K hK
              have hN := (hP 15 _ (by rfl) rfl).1
              obtain ⟨_, f0, rfl⟩ := (hF' 6 rfl).1 37 _ rfl rfl
              refine if_ok (by rfl) ?_
              refine wp_ldU _ rfl (ev f0) (row_cell hN hlt hnx) ?_
              exact hK _ w' (fun h => by cases h) (keepK_same hS) rfl
            · intro a w' hS hO hF' hP K hK
              have ha := hO 8 (by rfl)
              refine if_ok (by rfl) ?_
              refine wp_fa0 _ rfl (ev ha) ?_
              exact hK _ w' (fun h => by cases h) (keepK_same hS) rfl
            · intro a w' hS hO hF' hP K hK
              obtain ⟨_, f0, rfl⟩ := (hF' 8 rfl).1 39 _ rfl rfl
              refine if_ok (by rfl) ?_
              refine wp_ldS _ rfl (ev f0) (hS.2.2.1.cell 0) ?_
              exact hK _ w' (fun h => by cases h) (keepK_same hS) rfl
            · intro a w' hS hO hF' hP K hK
              have ha := hO 9 (by rfl)
              refine if_ok (by rfl) ?_
              unfold Oper.wp execOp
              simp only [Sem.run_pure, ev ha]
              exact hK _ w' (fun h => by cases h) (keepK_same hS) rfl
            · intro a w' hS hO hF' hP K hK
              obtain ⟨_, f0, rfl⟩ := (hF' 9 rfl).1 40 _ rfl rfl
              obtain ⟨_, f1, rfl⟩ := (hF' 10 rfl).1 41 _ rfl rfl
              refine if_ok (by rfl) ?_
              refine wp_ix _ _ rfl (ev f0) (ev f1) hlt ?_
              exact hK _ w' (fun h => by cases h) (keepK_same hS) rfl
            · intro a w' hS hO hF' hP K hK
              have hY := (hP 15 _ (by rfl) rfl).2
              obtain ⟨_, f0, rfl⟩ := (hF' 11 rfl).1 42 _ rfl rfl
              refine if_ok (by rfl) ?_
              refine wp_ldU _ rfl (ev f0) hY ?_
              exact hK _ w' (fun h => by cases h) (keepK_same hS) rfl
            · intro a w' hS hO hF' hP K hK
              obtain ⟨_, f0, rfl⟩ := (hF' 7 rfl).1 38 _ rfl rfl
              obtain ⟨_, f1, rfl⟩ := (hF' 12 rfl).1 43 _ rfl rfl
              refine if_ok (by rfl) ?_
              refine wp_calls rfl (enters_of Tryz.func146 (by kernel_rfl) rfl) (args := #[.int .u8 2, .int .u8 (nth lx j), .int .u8 (nth ly j)]) (by simp [Act.eval, f0, f1]) ?_
              refine (r_mux _ (by decide) hx0 hy0).mono ?_
              rintro e w2 ⟨rfl, q, rfl⟩
              exact ⟨_, rfl, hK _ _ (fun h => by cases h) (keepK_below (below_drewN (Below.refl _ _) q) hS) rfl⟩
            · intro a w' hS hO hF' hP K hK
              obtain ⟨_, f0, rfl⟩ := (hF' 1 rfl).1 32 _ rfl rfl
              obtain ⟨_, f1, rfl⟩ := (hF' 2 rfl).1 33 _ rfl rfl
              refine if_ok (by rfl) ?_
              refine wp_ix _ _ rfl (ev f0) (ev f1) hlt ?_
              rw [Nat.zero_add]
              exact hK _ w' (fun h => by cases h) (keepK_same hS) rfl
            · intro a w' hS hO hF' hP K hK
              obtain ⟨_, f0, rfl⟩ := (hF' 14 rfl).1 45 _ rfl rfl
              obtain ⟨_, f1, rfl⟩ := (hF' 13 rfl).1 44 _ rfl rfl
              have hN := (hP 15 _ (by rfl) rfl).1
              obtain ⟨cs, O, _⟩ := hN.own1 (by omega)
              refine if_ok (by rfl) ?_
              refine wp_stU _ _ rfl (ev f0) (ev f1) hN hlt ?_
              exact hK _ _ (fun _ => rfl) (keepK_bit O inferInstance ⟨inferInstance, inferInstance, inferInstance, inferInstance, inferInstance, inferInstance, inferInstance, inferInstance, inferInstance, inferInstance, inferInstance, inferInstance, inferInstance, inferInstance, inferInstance, trivial⟩ ⟨inferInstance, inferInstance, inferInstance, inferInstance, inferInstance, inferInstance, inferInstance, inferInstance, inferInstance, inferInstance, inferInstance, inferInstance, inferInstance, inferInstance, inferInstance, trivial⟩ hS) (hN.put hlt hF1)
          · intro vs u hl hS hV
            match vs, hl, hV with
            | [v0, v1, v2, v3, v4, v5, v6, v7, v8, v9, v10, v11, v12, v13, v14, v15], _, hV =>
              simp only [puts, Act.put, List.setIfInBounds_toArray, List.set_cons_zero, List.set_cons_succ]
              have hN9 := hV 15 _ rfl rfl
              have h3 := hS.1
              have h7 := hS.2.1
              have h8 := hS.2.2.1
              have hr := hS.2.2.2.1
              have hb := hS.2.2.2.2
              clear hV hS
              go_wp2
              go_roundw
              case rel => exact ⟨j + 1, by omega, by go_num, Lib.hid h3, Lib.hid h7, Lib.hid h8, Lib.hid (by rw [hstep.out]; exact hN9), Lib.hid ⟨hr, hb⟩⟩
              case measure => simp [intOf]; omega
        · obtain rfl : j = N := by omega
          have g0 := H3.out.cell 0
          have g1 := H3.out.cell 1
          have g2 := H3.out.free 0
          have g3 := H3.out.free 1
          have HNo := HN.out
          have HBo := HB.out.2
          have hlj : (pwJ (muxI 2) lx ly j j).length = j := tab_len _ _
          replace hlj := Lib.hid hlj
          clear hlt
          go_wp2
          exact ret_vec Tryz.results52 rfl rfl (H3.out.put2 _ _) (RetV.mk' (v := ⟨pwJ (muxI 2) lx ly j j, sy⟩) ((HNo.setT H3.out (by decide) 0 _).setT (H3.out.put 0 _) (by decide) 1 _) (below_set2 HBo (by omega) _ _))
end Go.Proofs.YtognpmggfplekaaGreatDoor

namespace Go.Proofs.YtognpmggfplekaaGreatDoor
open Go Go.RowKit

def wl (fr : Bool) : Int → Bool := if fr then unkB else zW
set_option maxRecDepth 100000 in
theorem bit4 {p : Int} (h0 : 0 ≤ p) (h3 : p ≤ 3) : p = 0 ∨ p = 1 ∨ p = 2 ∨ p = 3 := by omega
set_option maxRecDepth 100000 in
theorem tst_val (fr : Bool) {p q : Int} (hp0 : 0 ≤ p) (hp3 : p ≤ 3) (hq0 : 0 ≤ q) (hq3 : q ≤ 3) : (sameB p q || (wl fr p || wl fr q)) = ((p == 3) || ((q == 3) || ((fr && ((p == 2) || (q == 2))) || (p == q)))) := by
  rcases bit4 hp0 hp3 with rfl | rfl | rfl | rfl <;> rcases bit4 hq0 hq3 with rfl | rfl | rfl | rfl <;> cases fr <;> rfl
set_option maxRecDepth 100000 in
theorem valid_le {l : List Int} {n i : Nat} (h : okB l = true) (hl : l.length = n) (hi : i < n) : nth l i ≤ 3 := by
  unfold okB at h
  simp only [Bool.and_eq_true, Bool.not_eq_true'] at h
  have h2 := List.any_eq_false.1 h.2 (nth l i) (by rw [nth, List.getD_eq_getElem?_getD, List.getElem?_eq_getElem (by omega)]; exact List.getElem_mem _)
  unfold badB validB at h2
  simpa using h2
set_option maxRecDepth 100000 in
set_option maxHeartbeats 4000000 in
theorem rMatch_any (A Y : Option Addr) (n m c d : Nat) (s t fr : Bool) (l k : List Int) (w : World) (h : Rb w A n l) (h' : Rb w Y m k) (hn : n ≤ 1000000) (hm : m ≤ 1000000) :
    Calls Tryz.prog 22 #[.agg #[.slice A n c, .bool s], .agg #[.slice Y m d, .bool t], .bool fr] w fun e w' => e = .returned (.bool (mtB (wl fr) ⟨l, s⟩ ⟨k, t⟩)) ∧ Below w.heap.size w w' := by
  have O0 := ((Own.at1 w 24 #[.slice A n c, .bool s] (g := w.heap.size) (by simp)).alloc (.cells #[.slice Y m d, .bool t] 24))
  have O1 := (Own.at1 (w.alloc (.cells #[.slice A n c, .bool s] 24)) 24 #[.slice Y m d, .bool t] (g := w.heap.size + 1) (by simp))
  have BB := (below_new (below_new (Below.refl w.heap.size w) (.cells #[.slice A n c, .bool s] 24)) (.cells #[.slice Y m d, .bool t] 24))
  have HB := Lib.hid (rBalance_q A Y n m c d s t l k _ (h.step BB) (h'.step BB) hn hm)
  have hbd := balN_bd ⟨l, s⟩ ⟨k, t⟩
  unfold mtB
  have okx := balL_ok ⟨l, s⟩ ⟨k, t⟩
  have oky := balR_ok ⟨l, s⟩ ⟨k, t⟩
  have hlx := (bal_len ⟨l, s⟩ ⟨k, t⟩).1
  have hly := (bal_len ⟨l, s⟩ ⟨k, t⟩).2
  generalize (balL ⟨l, s⟩ ⟨k, t⟩).l = lx at *
  generalize (balR ⟨l, s⟩ ⟨k, t⟩).l = ly at *
  generalize balN ⟨l, s⟩ ⟨k, t⟩ = N at *
  generalize balS ⟨l, s⟩ ⟨k, t⟩ = sy at *
  obtain ⟨z, hz⟩ : ∃ z, mtL (wl fr) lx ly N = z := ⟨_, rfl⟩
  rw [hz]
  replace hz := Lib.hid hz
  replace okx := Lib.hid okx
  replace oky := Lib.hid oky
  replace hlx := Lib.hid hlx
  replace hly := Lib.hid hly
  clear h h'
  go_enter Tryz.func22, Tryz.ntmps22
  go_wp2_with (go_at_call 103; refine HB.out.mono ?_; rintro e w1 ⟨A1, c1, A2, c2, rfl, n1, n2, hb1⟩; have L1 := hb1.size; replace BB := below_new (below_new (below_step BB hb1) (.cells #[.slice A1 N c1, .bool sy] 24)) (.cells #[.slice A2 N c2, .bool sy] 24); have O7 := (Own.at1 w1 24 #[.slice A1 N c1, .bool sy] (g := w1.heap.size) rfl).alloc (.cells #[.slice A2 N c2, .bool sy] 24); have O8 := Own.at1 (w1.alloc (.cells #[.slice A1 N c1, .bool sy] 24)) 24 #[.slice A2 N c2, .bool sy] (g := w1.heap.size + 1) (by simp); replace n1 := (n1.alloc (.cells #[.slice A1 N c1, .bool sy] 24)).alloc (.cells #[.slice A2 N c2, .bool sy] 24); replace n2 := (n2.alloc (.cells #[.slice A1 N c1, .bool sy] 24)).alloc (.cells #[.slice A2 N c2, .bool sy] 24))
  have r1 := n1.rd
  have r2 := n2.rd
  have hbW := Lib.hid BB
  clear O0 O1 BB n1 n2 hb1
  generalize ((w1.alloc (.cells #[.slice A1 N c1, .bool sy] 24)).alloc (.cells #[.slice A2 N c2, .bool sy] 24)) = W0 at *
  generalize w1.heap.size = g7 at *
  go_loopw [9, 10, 11] (fun i _ _ wr => ∃ j : Nat, j ≤ N ∧ i = .int .i64 j ∧ Hid (Below W0.heap.size W0 wr) ∧ Hid (∀ i, i < j → tst (wl fr) lx ly i = true)) (fun i _ _ _ => N - (intOf i).toNat)
  case atStart => exact ⟨0, Nat.zero_le _, rfl, Lib.hid (Below.refl _ _), Lib.hid fun j hj => absurd hj (Nat.not_lt_zero _)⟩
  case round =>
    obtain ⟨j, hj, rfl, HW, HT⟩ := hrel
    have p0 := (O7.step HW.out).cell 0
    have p1 := (O8.step HW.out).cell 0
    by_cases hlt : j < N
    · obtain ⟨b1, o1, rfl, hl1, hc1⟩ := (r1.step HW.out).at_ hlt
      obtain ⟨b2, o2, rfl, hl2, hc2⟩ := (r2.step HW.out).at_ hlt
      have i1 : (j : Int) < N := by omega
      have hT : tst (wl fr) lx ly j = _ := tst_val fr (r1.nn.nth j) (valid_le okx.out hlx.out hlt) (r2.nn.nth j) (valid_le oky.out hly.out hlt)
      replace O7 := Lib.hid O7
      replace O8 := Lib.hid O8
      replace r1 := Lib.hid r1
      replace r2 := Lib.hid r2
      generalize nth lx j = p at *
      generalize nth ly j = q at *
      cases ea : (p == 3)
      · rw [ea] at hT
        cases eb : (q == 3)
        · rw [eb] at hT
          cases fr
          · rw [Bool.false_and] at hT
            cases ee : (p == q)
            · rw [ee] at hT
              have em : (p != q) = true := by rw [bne, ee]; rfl
              clear ee
              have hno := Lib.hid ((mtL_no hlt (hT.trans (by simp))).symm.trans hz.out)
              clear hT
              go_wp2
              go_quiet (fail)
              all_goals go_wp2
              all_goals go_ret
              all_goals exact ⟨ret_b hno.out, below_step hbW.out (below_drewN HW.out _)⟩
            · rw [ee] at hT
              have em : (p != q) = false := by rw [bne, ee]; rfl
              clear ee
              have hnx := Lib.hid (all_next HT.out (hT.trans (by simp)))
              clear hT
              go_wp2
              go_quiet (fail)
              all_goals go_wp2
              all_goals go_roundw
              case rel => exact ⟨j + 1, by omega, by go_num, Lib.hid (below_drewN HW.out _), hnx⟩
              case measure => simp [intOf]; omega

          · cases ec : (p == 2)
            · rw [ec] at hT
              cases ed : (q == 2)
              · rw [ed] at hT
                cases ee : (p == q)
                · rw [ee] at hT
                  have em : (p != q) = true := by rw [bne, ee]; rfl
                  clear ee
                  have hno := Lib.hid ((mtL_no hlt (hT.trans (by simp))).symm.trans hz.out)
                  clear hT
                  go_wp2
                  go_quiet (fail)
                  all_goals go_wp2
                  all_goals go_ret
                  all_goals exact ⟨ret_b hno.out, below_step hbW.out (below_drewN HW.out _)⟩
                · rw [ee] at hT
                  have em : (p != q) = false := by rw [bne, ee]; rfl
                  clear ee
                  have hnx := Lib.hid (all_next HT.out (hT.trans (by simp)))
                  clear hT
                  go_wp2
                  go_quiet (fail)
                  all_goals go_wp2
                  all_goals go_roundw
                  case rel => exact ⟨j + 1, by omega, by go_num, Lib.hid (below_drewN HW.out _), hnx⟩
                  case measure => simp [intOf]; omega

              · rw [ed] at hT
                have hnx := Lib.hid (all_next HT.out (hT.trans (by simp)))
                clear hT
                go_wp2
                go_quiet (fail)
                all_goals go_wp2
                all_goals go_roundw
                case rel => exact ⟨j + 1, by omega, by go_num, Lib.hid (below_drewN HW.out _), hnx⟩
                case measure => simp [intOf]; omega
            · rw [ec] at hT
              have hnx := Lib.hid (all_next HT.out (hT.trans (by simp)))
              clear hT
              go_wp2
              go_quiet (fail)
              all_goals go_wp2
              all_goals go_roundw
              case rel => exact ⟨j + 1, by omega, by go_num, Lib.hid (below_drewN HW.out _), hnx⟩
              case measure => simp [intOf]; omega
        · rw [eb] at hT
          have hnx := Lib.hid (all_next HT.out (hT.trans (by simp)))
          clear hT
          go_wp2
          go_quiet (fail)
          all_goals go_wp2
          all_goals go_roundw
          case rel => exact ⟨j + 1, by omega, by go_num, Lib.hid (below_drewN HW.out _), hnx⟩
          case measure => simp [intOf]; omega
      · rw [ea] at hT
        have hnx := Lib.hid (all_next HT.out (hT.trans (by simp)))
        clear hT
        go_wp2
        go_quiet (fail)
        all_goals go_wp2
        all_goals go_roundw
        case rel => exact ⟨j + 1, by omega, by go_num, Lib.hid (below_drewN HW.out _), hnx⟩
        case measure => simp [intOf]; omega
    · obtain rfl : j = N := by omega
      have hl := Lib.hid ((mtL_all HT.out).symm.trans hz.out)
      clear r1 r2
      go_wp2
      go_ret
      exact ⟨ret_b hl.out, below_step hbW.out HW.out⟩
end Go.Proofs.YtognpmggfplekaaGreatDoor
