/-
  The walk of VecStructure: it returns true. Conditions: the tables of package bit read as the program lays them.
-/
import Derived.Test.YtognpmggfplekaaDoorSa
namespace Go.Proofs.YtognpmggfplekaaDoor
open Go Go.RowKit

set_option maxRecDepth 100000 in
theorem tmod_nat {a : Int} {n : Nat} (h : 0 ≤ a) (hn : 0 < n) : ∃ i : Nat, i < n ∧ Int.tmod a (n : Int) = (i : Int) := by
  obtain ⟨b, rfl⟩ := Int.eq_ofNat_of_zero_le h
  exact ⟨b % n, Nat.mod_lt _ hn, by rw [Int.tmod_eq_emod_of_nonneg (by omega)]; exact (Int.natCast_emod b n).symm⟩
set_option maxRecDepth 100000 in
set_option maxHeartbeats 16000000 in
theorem walk_VecStructure (A0 : Option Addr) (n0 c0 : Nat) (s0 : Bool) (l0 : List Int) (A1 : Option Addr) (n1 c1 : Nat) (s1 : Bool) (l1 : List Int) (a2 : Int) (a3 : Int) (w : World) (h0 : Rb w A0 n0 l0) (_hc0 : n0 ≤ c0) (h1 : Rb w A1 n1 l1) (_hc1 : n1 ≤ c1) (b2 : 0 ≤ a2 ∧ a2 ≤ 255) (b3 : 0 ≤ a3 ∧ a3 ≤ 255) (TT : Tabs w) : Calls Tryd.prog 3 #[.agg #[.slice A0 n0 c0, .bool s0], .agg #[.slice A1 n1 c1, .bool s1], .int .u8 a2, .int .u8 a3] w fun e w' => e = .returned (.bool true) ∧ Below w.heap.size w w' := by
  have O0 := ((Own.at1 w 24 #[.slice A0 n0 c0, .bool s0] (g := w.heap.size) (by simp)).alloc (.cells #[.slice A1 n1 c1, .bool s1] 24))
  have O1 := (Own.at1 (w.alloc (.cells #[.slice A0 n0 c0, .bool s0] 24)) 24 #[.slice A1 n1 c1, .bool s1] (g := w.heap.size + 1) (by simp))
  have BB := (below_new (below_new (Below.refl w.heap.size w) (.cells #[.slice A0 n0 c0, .bool s0] 24)) (.cells #[.slice A1 n1 c1, .bool s1] 24))
  have X4 := O0
  have X5 := O1
  clear O0
  clear O1
  have O4 := X4
  clear X4
  have O5 := X5
  clear X5
  replace TT := TT.step BB
  have r0 := h0.step BB
  have r1 := h1.step BB
  clear h0 h1
  replace BB := Lib.hid BB
  cases hl : lngB [n0, n1]
  · skip
    have hn := lng_no hl
    have hn0 : n0 ≤ 140 := hn n0 (by simp)
    have hn1 : n1 ≤ 140 := hn n1 (by simp)
    have HL := Lib.hid (long2_b _ A0 A1 n0 c0 n1 c1 s0 s1 hl)
    clear hl hn
    have q40 := O4.cell 0
    have q41 := O4.cell 1
    have q50 := O5.cell 0
    have q51 := O5.cell 1
    have HNx := Lib.hid (fun (u : World) (h : Rb u A0 n0 l0) => rNorm_any_w A0 n0 c0 s0 l0 u h (by omega))
    have HNy := Lib.hid (fun (u : World) (h : Rb u A1 n1 l1) => rNorm_any_w A1 n1 c1 s1 l1 u h (by omega))
    have hcc := conc2 A0 A1 n0 c0 n1 c1 s0 s1 l0 l1
    have hct := cat_two ⟨l0, s0⟩ ⟨l1, s1⟩
    have okx := nrm_ok ⟨l0, s0⟩
    have oky := nrm_ok ⟨l1, s1⟩
    unfold coV coE at hcc
    rw [hct] at hcc
    clear hct
    generalize nrm ⟨l0, s0⟩ = xx at *
    generalize nrm ⟨l1, s1⟩ = yy at *
    obtain ⟨lx, sx⟩ := xx
    obtain ⟨ly, sy⟩ := yy
    simp only at okx oky hcc
    obtain ⟨N, hlx⟩ : ∃ N, lx.length = N := ⟨_, rfl⟩
    obtain ⟨M, hly⟩ : ∃ M, ly.length = M := ⟨_, rfl⟩
    have hxl := ok_len okx
    have hyl := ok_len oky
    rw [hlx] at hxl
    rw [hly] at hyl
    rw [List.length_append, hlx, hly] at hcc
    have HW : ∀ (A : Option Addr) (c : Nat) (u : World), Rb u A M ly → Calls Tryd.prog 11 #[.agg #[.slice A M c, .bool sy], .bool false] u (RetW u ⟨ly, false⟩) := fun A c u h => by
      have := withSign_any_w A M c sy false ly u h
      rw [nrm_of (show okB (V.mk ly sy).l = true from oky)] at this
      exact this
    replace HW := Lib.hid HW
    have HV : ∀ (A : Option Addr) (c : Nat) (u : World), Rb u A N lx → Calls Tryd.prog 11 #[.agg #[.slice A N c, .bool sx], .bool false] u (RetW u ⟨lx, false⟩) := fun A c u h => by
      have := withSign_any_w A N c sx false lx u h
      rw [nrm_of (show okB (V.mk lx sx).l = true from okx)] at this
      exact this
    replace HV := Lib.hid HV
    have z0 : IntKind.i64.wrap ((N : Int) + (M : Int)) = (N : Int) + (M : Int) := IntWalk.i64_in _ (by omega)
    have z1 : IntKind.i64.wrap ((M : Int) + (N : Int)) = (M : Int) + (N : Int) := IntWalk.i64_in _ (by omega)
    obtain ⟨h1, eh1⟩ : ∃ h1 : Int, h1 = (M : Int) - 1 := ⟨_, rfl⟩
    obtain ⟨h2, eh2⟩ : ∃ h2 : Int, h2 = (M : Int) + (N : Int) - 1 := ⟨_, rfl⟩
    have z2 : IntKind.i64.wrap ((M : Int) - 1) = h1 := by rw [IntWalk.i64_in _ (by omega)]; exact eh1.symm
    have z3 : IntKind.i64.wrap ((M : Int) + (N : Int) - 1) = h2 := by rw [IntWalk.i64_in _ (by omega)]; exact eh2.symm
    have y0 : ((N : Int) == 0) = false := by simp; omega
    have y1 : IntKind.i64.wrap a2 = a2 := IntWalk.i64_in _ (by omega)
    have y2 : IntKind.i64.wrap a3 = a3 := IntWalk.i64_in _ (by omega)
    obtain ⟨i, hiN, y3⟩ := tmod_nat (a := a2) (n := N) b2.1 (by omega)
    obtain ⟨k, hkN, y4⟩ := tmod_nat (a := a3) (n := N) b3.1 (by omega)
    obtain ⟨hi, lo, hcase, hlohi, hhiN⟩ : ∃ hi lo : Nat, ((lo = i ∧ hi = k ∧ lo < hi) ∨ (hi = i ∧ lo = k ∧ lo < hi) ∨ (lo = i ∧ lo = k ∧ lo = hi)) ∧ lo ≤ hi ∧ hi < N := by
      rcases Nat.lt_trichotomy i k with h | h | h
      · exact ⟨k, i, .inl ⟨rfl, rfl, h⟩, by omega, hkN⟩
      · exact ⟨i, i, .inr (.inr ⟨rfl, h, rfl⟩), Nat.le_refl _, hiN⟩
      · exact ⟨i, k, .inr (.inl ⟨rfl, rfl, h⟩), by omega, hiN⟩
    clear hiN hkN
    obtain ⟨vp, hvp⟩ : ∃ v, v = slV ⟨lx, sx⟩ hi lo := ⟨_, rfl⟩
    have hpb := put_back (s := sx) okx (hi := hi) (lo := lo) (by omega) (by omega) (by rw [hlx]; omega)
    have HSl : ∀ (A : Option Addr) (c : Nat) (u : World), Rb u A N lx → Calls Tryd.prog 9 #[.agg #[.slice A N c, .bool sx], .int .i64 hi, .int .i64 lo] u (RetX u vp 0) := fun A c u h => by
      have := slice_v_w A N c sx lx hi lo u h (by unfold I64; omega) (by unfold I64; omega)
      rw [hpb.1, ← hvp] at this
      exact this
    have HPt : ∀ (A Y : Option Addr) (c m d : Nat) (u : World), Rb u A N lx → Rb u Y m vp.l → Calls Tryd.prog 12 #[.agg #[.slice A N c, .bool sx], .int .i64 hi, .int .i64 lo, .agg #[.slice Y m d, .bool vp.s]] u (RetX u ⟨lx, sx⟩ 0) := fun A Y c m d u h h' => by
      have := put_v_w A Y N m c d sx vp.s lx vp.l hi lo u h h' (by unfold I64; omega) (by unfold I64; omega)
      rw [show (V.mk vp.l vp.s) = slV ⟨lx, sx⟩ hi lo from hvp, hpb.2, hpb.1] at this
      exact this
    clear hpb hvp
    obtain ⟨dd, hdd⟩ : ∃ d : Nat, d + N = 129 := ⟨129 - N, by omega⟩
    have y5 : (129 : Int) - (N : Int) = (dd : Int) := by omega
    have y9 : IntKind.i64.wrap (dd : Int) = (dd : Int) := IntWalk.i64_in _ (by omega)
    have y6 : ((dd : Int) == 0) = false := by simp; omega
    obtain ⟨rr, hrr, y7⟩ := tmod_nat (a := a2) (n := dd) b2.1 (by omega)
    obtain ⟨wd, hwd⟩ : ∃ d : Nat, d = N + rr := ⟨_, rfl⟩
    have y8 : (N : Int) + (rr : Int) = (wd : Int) := by omega
    have y10 : IntKind.i64.wrap (wd : Int) = (wd : Int) := IntWalk.i64_in _ (by omega)
    have hrz := res_ok (s := sx) okx (m := (wd : Int)) (by omega) (by omega)
    rw [Int.toNat_natCast] at hrz
    have hrb := res_back (s := sx) okx (n := wd) (by rw [hlx]; omega) (by omega)
    rw [hlx] at hrb
    have hie := int_ext (s := sx) okx (n := wd) (by rw [hlx]; omega) (by omega)
    have hve : vwE (N : Int) = 0 := (res_ok (s := sx) okx (m := (N : Int)) (by omega) (by omega)).1
    generalize fitV ⟨lx, sx⟩ wd = vm at *
    have HRz : ∀ (A : Option Addr) (c : Nat) (u : World), Rb u A N lx → Calls Tryd.prog 13 #[.agg #[.slice A N c, .bool sx], .int .i64 wd] u (RetX u vm 0) := fun A c u h => by
      have := resize_v_w A N c sx lx wd u h
      rw [hrz.1, hrz.2] at this
      exact this
    have HRb : ∀ (A : Option Addr) (n c : Nat) (u : World), Rb u A n vm.l → Calls Tryd.prog 13 #[.agg #[.slice A n c, .bool vm.s], .int .i64 N] u (RetX u ⟨lx, sx⟩ 0) := fun A n c u h => by
      have := resize_v_w A n c vm.s vm.l N u h
      rw [hve, show resV (V.mk vm.l vm.s) (N : Int) = ⟨lx, sx⟩ from hrb] at this
      exact this
    obtain ⟨pv, hpv⟩ : ∃ p, p = iVal ⟨lx, sx⟩ := ⟨_, rfl⟩
    obtain ⟨pk, hpk⟩ : ∃ p, p = iOk ⟨lx, sx⟩ := ⟨_, rfl⟩
    have HI1 : ∀ (A : Option Addr) (c : Nat) (u : World), Rb u A N lx → Calls Tryd.prog 14 #[.agg #[.slice A N c, .bool sx]] u fun e w' => e = .returned (.tuple #[.int .i64 pv, .bool pk]) ∧ Below u.heap.size u w' := fun A c u h => by
      have := int_v A N c sx lx u h
      rw [← hpv, ← hpk] at this
      exact this
    have HI2 : ∀ (A : Option Addr) (n c : Nat) (u : World), Rb u A n vm.l → Calls Tryd.prog 14 #[.agg #[.slice A n c, .bool vm.s]] u fun e w' => e = .returned (.tuple #[.int .i64 pv, .bool pk]) ∧ Below u.heap.size u w' := fun A n c u h => by
      have := int_v A n c vm.s vm.l u h
      rw [show iVal (V.mk vm.l vm.s) = pv from hie.1.trans hpv.symm, show iOk (V.mk vm.l vm.s) = pk from hie.2.trans hpk.symm] at this
      exact this
    clear hrz hrb hie hve hpv hpk hwd hrr
    replace hdd := Lib.hid hdd
    replace HSl := Lib.hid HSl
    replace HPt := Lib.hid HPt
    replace HRz := Lib.hid HRz
    replace HRb := Lib.hid HRb
    replace HI1 := Lib.hid HI1
    replace HI2 := Lib.hid HI2
    replace hcase := Lib.hid hcase
    replace hlx := Lib.hid hlx
    replace hly := Lib.hid hly
    have hBase : w.heap.size + 1 + 1 ≥ w.heap.size := by omega
    by_cases hNK : M + N ≤ 128
    · skip
      have HC := Lib.hid (fun (u : World) (H : Nat) (hH : u.heap.size = H) (h : Rb u A0 n0 l0) (h' : Rb u A1 n1 l1) => (show Calls Tryd.prog 8 #[.slice (some ⟨H, 0, none⟩) 2 2] (u.alloc (.cells #[.slice A0 n0 c0, .bool s0, .slice A1 n1 c1, .bool s1] 24)) (RetX (u.alloc (.cells #[.slice A0 n0 c0, .bool s0, .slice A1 n1 c1, .bool s1] 24)) ⟨ly ++ lx, false⟩ 0) from by
        have := hcc u h h'
        rw [if_neg (show ¬ (2 = 0) by decide), if_neg (show ¬ (128 < M + N) by omega), if_pos rfl, hH] at this
        exact this))
      have HS1 := Lib.hid (fun (A : Option Addr) (n c : Nat) (u : World) (h : Rb u A n (ly ++ lx)) => (show Calls Tryd.prog 9 #[.agg #[.slice A n c, .bool false], .int .i64 h1, .int .i64 0] u (RetX u ⟨ly, false⟩ 0) from by
        have hs := sl_low okx oky (by rw [hlx.out, hly.out]; omega) (hi := h1) (by rw [hly.out]; exact eh1)
        have := slice_v_w A n c false (ly ++ lx) h1 0 u h (by unfold I64; omega) (by unfold I64; omega)
        rw [hs.1, hs.2] at this
        exact this))
      have HS2 := Lib.hid (fun (A : Option Addr) (n c : Nat) (u : World) (h : Rb u A n (ly ++ lx)) => (show Calls Tryd.prog 9 #[.agg #[.slice A n c, .bool false], .int .i64 h2, .int .i64 (M : Int)] u (RetX u ⟨lx, false⟩ 0) from by
        have hs := sl_high okx oky (by rw [hlx.out, hly.out]; omega) (hi := h2) (lo := (M : Int)) (by rw [hly.out, hlx.out]; exact eh2) (by rw [hly.out])
        have := slice_v_w A n c false (ly ++ lx) h2 (M : Int) u h (by unfold I64; omega) (by unfold I64; omega)
        rw [hs.1, hs.2] at this
        exact this))
      replace eh1 := Lib.hid eh1
      replace eh2 := Lib.hid eh2
      replace okx := Lib.hid okx
      replace oky := Lib.hid oky
      have t1 : decide ((N : Int) + (M : Int) ≤ 128) = true := by simp; omega
      clear hcc
      go_enter Tryd.func3, Tryd.ntmps3
      go_wp2_with (first | (go_at_call 5; refine (HL.out _ _ (by simp)).mono ?_; rintro e wn ⟨rfl, rfl⟩; replace O4 := O4.alloc (.cells #[.slice A0 n0 c0, .bool s0, .slice A1 n1 c1, .bool s1] 24); replace O5 := O5.alloc (.cells #[.slice A0 n0 c0, .bool s0, .slice A1 n1 c1, .bool s1] 24); replace r0 := r0.alloc (.cells #[.slice A0 n0 c0, .bool s0, .slice A1 n1 c1, .bool s1] 24); replace r1 := r1.alloc (.cells #[.slice A0 n0 c0, .bool s0, .slice A1 n1 c1, .bool s1] 24); replace TT := TT.alloc (.cells #[.slice A0 n0 c0, .bool s0, .slice A1 n1 c1, .bool s1] 24); replace BB := Lib.hid (below_new BB.out (.cells #[.slice A0 n0 c0, .bool s0, .slice A1 n1 c1, .bool s1] 24))) | (go_at_call 6; refine (awake_any _ TT).mono ?_; rintro e wn ⟨rfl, hb⟩; have kb := hb; (try replace O4 := O4.step kb); (try replace O5 := O5.step kb); (try replace r0 := r0.step kb); (try replace r1 := r1.step kb); (try replace TT := TT.step kb); replace BB := Lib.hid (below_step BB.out kb); (try clear q40 q41); (try (have q40 := O4.cell 0; have q41 := O4.cell 1)); (try clear q50 q51); (try (have q50 := O5.cell 0; have q51 := O5.cell 1))))
      refine region_l (by kernel_rfl) (fun u => owns w.heap.size #[.slice A0 n0 c0, .bool s0] u ∧ (owns (w.heap.size + 1) #[.slice A1 n1 c1, .bool s1] u ∧ (rds A0 n0 l0 u ∧ (rds A1 n1 l1 u ∧ (szW (w.heap.size + 1 + 1) u ∧ (tbs u ∧ blw w u)))))) [un (isV (.agg #[.slice A0 n0 c0, .bool s0])), un (isW (⟨lx, sx⟩ : V)), un (isV (.agg #[.slice A1 n1 c1, .bool s1])), un (isW (⟨ly, sy⟩ : V)), un (isFr (w.heap.size + 1 + 1)), un (isFr (w.heap.size + 1 + 1)), filled (w.heap.size + 1 + 1) (⟨lx, sx⟩ : V), filled (w.heap.size + 1 + 1) (⟨ly, sy⟩ : V)] [some 42, some 43, some 44, some 45, some 9, some 10, none, none] [0, 1, 2, 3, 4, 5, 4, 5] [4, 5] [[], [0], [], [2, 1], [], [], [4, 1, 3, 0, 1, 4, 5], [5, 3, 6, 0, 1, 2, 3, 4, 5, 6]] (by kernel_rfl) (by kernel_rfl) rfl (by kernel_rfl) (by kernel_rfl) (by kernel_rfl) (by kernel_rfl) ⟨O4.drew, O5.drew, r0.drew, r1.drew, (by have := O5.lt; simp only [szW, World.drew]; omega), TT.drew, below_drew BB.out⟩ ?_ ?_
      · refine ⟨?_, ?_, ?_, ?_, ?_, ?_, ?_, ?_, trivial⟩
        · intro a w' hS hO hF hD K hK
          have ha := hO 4 (by rfl)
          refine if_ok (by rfl) ?_
          refine wp_load_row 24 (.tmp 4) rfl w.heap.size (ev ha) _ _ (0, 0) _ hS.1 Tryd.underlying24 rfl (by kernel_rfl) ?_
          exact hK _ w' (fun h => by cases h) (Nat.le_refl _) (fun h => absurd h (by decide)) hS (fun _ _ _ _ h => h) (fun V hV => by obtain rfl := Option.some.inj hV; exact rfl)
        · intro a w' hS hO hF hD K hK
          have j0 := hF 0 rfl
          have f0 := j0.2 42 rfl
          rw [show valD _ _ 0 = _ from j0.1 _ rfl] at f0
          refine if_ok (by rfl) ?_
          refine wp_calls rfl (enters_of Tryd.func7 (by kernel_rfl) rfl) (args := #[(.agg #[.slice A0 n0 c0, .bool s0])]) (by simp [Act.eval, f0]) ?_
          obtain ⟨O4, O5, r0, r1, BZ, TT, BB⟩ := id hS
          refine Calls.mono (HNx.out _ r0) ?_
          rintro e w2 ⟨A, n, c, rfl, hc, hn, hv, hb⟩
          exact ⟨_, rfl, hK _ w2 (fun h => by cases h) hb.size (fun h => absurd h (by decide)) ((show Stb (fun u => owns w.heap.size #[.slice A0 n0 c0, .bool s0] u ∧ (owns (w.heap.size + 1) #[.slice A1 n1 c1, .bool s1] u ∧ (rds A0 n0 l0 u ∧ (rds A1 n1 l1 u ∧ (szW (w.heap.size + 1 + 1) u ∧ (tbs u ∧ blw w u)))))) from inferInstance).st _ _ hb hS) (keepL_below hb) (fun V hV => by obtain rfl := Option.some.inj hV; exact ⟨A, n, c, rfl, hc, hn, hv.rd⟩)⟩
        · intro a w' hS hO hF hD K hK
          have ha := hO 5 (by rfl)
          refine if_ok (by rfl) ?_
          refine wp_load_row 24 (.tmp 5) rfl (w.heap.size + 1) (ev ha) _ _ (0, 0) _ hS.2.1 Tryd.underlying24 rfl (by kernel_rfl) ?_
          exact hK _ w' (fun h => by cases h) (Nat.le_refl _) (fun h => absurd h (by decide)) hS (fun _ _ _ _ h => h) (fun V hV => by obtain rfl := Option.some.inj hV; exact rfl)
        · intro a w' hS hO hF hD K hK
          have j0 := hF 2 rfl
          have f0 := j0.2 44 rfl
          rw [show valD _ _ 2 = _ from j0.1 _ rfl] at f0
          refine if_ok (by rfl) ?_
          refine wp_calls rfl (enters_of Tryd.func7 (by kernel_rfl) rfl) (args := #[(.agg #[.slice A1 n1 c1, .bool s1])]) (by simp [Act.eval, f0]) ?_
          obtain ⟨O4, O5, r0, r1, BZ, TT, BB⟩ := id hS
          refine Calls.mono (HNy.out _ r1) ?_
          rintro e w2 ⟨A, n, c, rfl, hc, hn, hv, hb⟩
          exact ⟨_, rfl, hK _ w2 (fun h => by cases h) hb.size (fun h => absurd h (by decide)) ((show Stb (fun u => owns w.heap.size #[.slice A0 n0 c0, .bool s0] u ∧ (owns (w.heap.size + 1) #[.slice A1 n1 c1, .bool s1] u ∧ (rds A0 n0 l0 u ∧ (rds A1 n1 l1 u ∧ (szW (w.heap.size + 1 + 1) u ∧ (tbs u ∧ blw w u)))))) from inferInstance).st _ _ hb hS) (keepL_below hb) (fun V hV => by obtain rfl := Option.some.inj hV; exact ⟨A, n, c, rfl, hc, hn, hv.rd⟩)⟩
        · intro a w' hS hO hF hD K hK
          refine if_ok (by rfl) ?_
          refine wp_alloc rfl ?_
          have hb := below_new (Below.refl w'.heap.size w') (.cells #[.slice none 0 0, .bool false] 24)
          have hBz := hS.2.2.2.2.1
          exact hK _ _ (fun h => by cases h) hb.size (fun _ => ⟨rfl, by simp⟩) ((show Stb (fun u => owns w.heap.size #[.slice A0 n0 c0, .bool s0] u ∧ (owns (w.heap.size + 1) #[.slice A1 n1 c1, .bool s1] u ∧ (rds A0 n0 l0 u ∧ (rds A1 n1 l1 u ∧ (szW (w.heap.size + 1 + 1) u ∧ (tbs u ∧ blw w u)))))) from inferInstance).st _ _ hb hS) (keepL_below hb) (fun V hV => by obtain rfl := Option.some.inj hV; exact ⟨_, rfl, hBz, _, _, _, _, Own.new w' 24 _⟩)
        · intro a w' hS hO hF hD K hK
          refine if_ok (by rfl) ?_
          refine wp_alloc rfl ?_
          have hb := below_new (Below.refl w'.heap.size w') (.cells #[.slice none 0 0, .bool false] 24)
          have hBz := hS.2.2.2.2.1
          exact hK _ _ (fun h => by cases h) hb.size (fun _ => ⟨rfl, by simp⟩) ((show Stb (fun u => owns w.heap.size #[.slice A0 n0 c0, .bool s0] u ∧ (owns (w.heap.size + 1) #[.slice A1 n1 c1, .bool s1] u ∧ (rds A0 n0 l0 u ∧ (rds A1 n1 l1 u ∧ (szW (w.heap.size + 1 + 1) u ∧ (tbs u ∧ blw w u)))))) from inferInstance).st _ _ hb hS) (keepL_below hb) (fun V hV => by obtain rfl := Option.some.inj hV; exact ⟨_, rfl, hBz, _, _, _, _, Own.new w' 24 _⟩)
        · intro a w' hS hO hF hD K hK
          have j0 := hF 1 rfl
          have f0 := j0.2 43 rfl
          obtain ⟨Ay0, ny0, cy0, e0, hc0, hn0, hr0⟩ := j0.1 _ rfl
          rw [e0] at f0
          have jp := hF 4 rfl
          have fp := jp.2 9 rfl
          obtain ⟨g, eg, hg, X, q1, q2, q3, O⟩ := jp.1 _ rfl
          have hgx := eg
          rw [eg] at fp
          have hB0 := hBase
          haveI : Over w g := ⟨Nat.le_trans (show w.heap.size ≤ _ from hB0) hg⟩
          haveI : Apart g w.heap.size := ⟨fun e => by subst e; have := hB0; omega⟩
          haveI : Apart g (w.heap.size + 1) := ⟨fun e => by subst e; have := hB0; omega⟩
          refine if_ok (by rfl) ?_
          refine wp_store_row _ _ _ rfl g _ (ev fp) (ev f0) _ _ O vec_size rfl (by simp [Value.oneCell']) ?_
          exact hK _ _ (fun _ => rfl) (by simp [World.setRow]) (fun h => absurd h (by decide)) ((show Sst g (fun u => owns w.heap.size #[.slice A0 n0 c0, .bool s0] u ∧ (owns (w.heap.size + 1) #[.slice A1 n1 c1, .bool s1] u ∧ (rds A0 n0 l0 u ∧ (rds A1 n1 l1 u ∧ (szW (w.heap.size + 1 + 1) u ∧ (tbs u ∧ blw w u)))))) from inferInstance).st _ _ _ _ _ _ O hS) (keepL_store O (fun j V hj hV => by
            match j, hj, hV with
            | 0, _, hV => obtain rfl := Option.some.inj hV; exact ssx_un
            | 1, _, hV => obtain rfl := Option.some.inj hV; exact ssx_un
            | 2, _, hV => obtain rfl := Option.some.inj hV; exact ssx_un
            | 3, _, hV => obtain rfl := Option.some.inj hV; exact ssx_un
            | 4, _, hV => obtain rfl := Option.some.inj hV; exact ssx_fr
            | 5, _, hV => obtain rfl := Option.some.inj hV; exact ssx_fr
            | 6, hj, _ => exact absurd rfl hj
            | 7, _, hV => obtain rfl := Option.some.inj hV; exact ssx_filled (fun e => hD 5 4 (by decide) rfl rfl rfl rfl (e.trans hgx.symm))
            | q + 8, _, hV => simp at hV)) (fun V hV => by obtain rfl := Option.some.inj hV; rw [if_neg (by decide)]; exact ⟨g, Ay0, ny0, cy0, hgx, hg, O.row, hc0, hn0, hr0.row O⟩)
        · intro a w' hS hO hF hD K hK
          have j0 := hF 3 rfl
          have f0 := j0.2 45 rfl
          obtain ⟨Ay0, ny0, cy0, e0, hc0, hn0, hr0⟩ := j0.1 _ rfl
          rw [e0] at f0
          have jp := hF 5 rfl
          have fp := jp.2 10 rfl
          obtain ⟨g, eg, hg, X, q1, q2, q3, O⟩ := jp.1 _ rfl
          have hgx := eg
          rw [eg] at fp
          have hB0 := hBase
          haveI : Over w g := ⟨Nat.le_trans (show w.heap.size ≤ _ from hB0) hg⟩
          haveI : Apart g w.heap.size := ⟨fun e => by subst e; have := hB0; omega⟩
          haveI : Apart g (w.heap.size + 1) := ⟨fun e => by subst e; have := hB0; omega⟩
          refine if_ok (by rfl) ?_
          refine wp_store_row _ _ _ rfl g _ (ev fp) (ev f0) _ _ O vec_size rfl (by simp [Value.oneCell']) ?_
          exact hK _ _ (fun _ => rfl) (by simp [World.setRow]) (fun h => absurd h (by decide)) ((show Sst g (fun u => owns w.heap.size #[.slice A0 n0 c0, .bool s0] u ∧ (owns (w.heap.size + 1) #[.slice A1 n1 c1, .bool s1] u ∧ (rds A0 n0 l0 u ∧ (rds A1 n1 l1 u ∧ (szW (w.heap.size + 1 + 1) u ∧ (tbs u ∧ blw w u)))))) from inferInstance).st _ _ _ _ _ _ O hS) (keepL_store O (fun j V hj hV => by
            match j, hj, hV with
            | 0, _, hV => obtain rfl := Option.some.inj hV; exact ssx_un
            | 1, _, hV => obtain rfl := Option.some.inj hV; exact ssx_un
            | 2, _, hV => obtain rfl := Option.some.inj hV; exact ssx_un
            | 3, _, hV => obtain rfl := Option.some.inj hV; exact ssx_un
            | 4, _, hV => obtain rfl := Option.some.inj hV; exact ssx_fr
            | 5, _, hV => obtain rfl := Option.some.inj hV; exact ssx_fr
            | 6, _, hV => obtain rfl := Option.some.inj hV; exact ssx_filled (fun e => hD 4 5 (by decide) rfl rfl rfl rfl (e.trans hgx.symm))
            | 7, hj, _ => exact absurd rfl hj
            | q + 8, _, hV => simp at hV)) (fun V hV => by obtain rfl := Option.some.inj hV; rw [if_neg (by decide)]; exact ⟨g, Ay0, ny0, cy0, hgx, hg, O.row, hc0, hn0, hr0.row O⟩)
      · intro vs u hl hS hV
        match vs, hl, hV with
        | [v0, v1, v2, v3, v4, v5, v6, v7], _, hV =>
          obtain ⟨g9, A9, n9, c9, e9, hB9, O9, hcc9, hnn9, r9⟩ := hV 6 _ rfl
          replace e9 : v4 = .pointer (some ⟨g9, 0, none⟩) := e9
          subst e9
          obtain ⟨g10, A10, n10, c10, e10, hB10, O10, hcc10, hnn10, r10⟩ := hV 7 _ rfl
          replace e10 : v5 = .pointer (some ⟨g10, 0, none⟩) := e10
          subst e10
          obtain rfl := hV 0 _ rfl
          obtain ⟨_, _, _, rfl, _, _, _⟩ := hV 1 _ rfl
          obtain rfl := hV 2 _ rfl
          obtain ⟨_, _, _, rfl, _, _, _⟩ := hV 3 _ rfl
          simp only [puts, Act.put, List.setIfInBounds_toArray, List.set_cons_zero, List.set_cons_succ]
          obtain ⟨O4, O5, r0, r1, BZ, TT, BB⟩ := hS
          clear hV
          replace O4 : Own u w.heap.size 24 #[.slice A0 n0 c0, .bool s0] := O4
          replace O5 : Own u (w.heap.size + 1) 24 #[.slice A1 n1 c1, .bool s1] := O5
          replace r0 : Rb u A0 n0 l0 := r0
          replace r1 : Rb u A1 n1 l1 := r1
          replace TT : Tabs u := TT
          replace BB : Below w.heap.size w u := BB
          replace O9 : Own u g9 24 #[.slice A9 n9 c9, .bool sx] := O9
          replace O10 : Own u g10 24 #[.slice A10 n10 c10, .bool sy] := O10
          obtain rfl : N = n9 := hlx.symm.trans r9.len
          obtain rfl : M = n10 := hly.symm.trans r10.len
          clear hB9 hB10 hBase BZ
          have qO40 := O4.cell 0
          have qO41 := O4.cell 1
          have qO50 := O5.cell 0
          have qO51 := O5.cell 1
          have qO90 := O9.cell 0
          have qO91 := O9.cell 1
          have qO100 := O10.cell 0
          have qO101 := O10.cell 1
          go_wp2_with fail
          go_at_call 8
          clear qO40 qO41 qO50 qO51 qO90 qO91 qO100 qO101
          refine (HC.out u _ rfl r0 r1).mono ?_
          rintro e wk ⟨A11, n11, c11, rfl, hc11, hn11, hv, hb⟩
          replace O4 := O4.alloc (.cells #[.slice A0 n0 c0, .bool s0, .slice A1 n1 c1, .bool s1] 24)
          replace O5 := O5.alloc (.cells #[.slice A0 n0 c0, .bool s0, .slice A1 n1 c1, .bool s1] 24)
          replace O9 := O9.alloc (.cells #[.slice A0 n0 c0, .bool s0, .slice A1 n1 c1, .bool s1] 24)
          replace O10 := O10.alloc (.cells #[.slice A0 n0 c0, .bool s0, .slice A1 n1 c1, .bool s1] 24)
          replace r0 := r0.alloc (.cells #[.slice A0 n0 c0, .bool s0, .slice A1 n1 c1, .bool s1] 24)
          replace r1 := r1.alloc (.cells #[.slice A0 n0 c0, .bool s0, .slice A1 n1 c1, .bool s1] 24)
          replace r9 := r9.alloc (.cells #[.slice A0 n0 c0, .bool s0, .slice A1 n1 c1, .bool s1] 24)
          replace r10 := r10.alloc (.cells #[.slice A0 n0 c0, .bool s0, .slice A1 n1 c1, .bool s1] 24)
          replace TT := TT.alloc (.cells #[.slice A0 n0 c0, .bool s0, .slice A1 n1 c1, .bool s1] 24)
          replace BB := below_new BB (.cells #[.slice A0 n0 c0, .bool s0, .slice A1 n1 c1, .bool s1] 24)
          replace O4 := (O4.step hb).alloc (.cells #[.slice A11 n11 c11, .bool false] 24)
          replace O5 := (O5.step hb).alloc (.cells #[.slice A11 n11 c11, .bool false] 24)
          replace O9 := (O9.step hb).alloc (.cells #[.slice A11 n11 c11, .bool false] 24)
          replace O10 := (O10.step hb).alloc (.cells #[.slice A11 n11 c11, .bool false] 24)
          replace r0 := (r0.step hb).alloc (.cells #[.slice A11 n11 c11, .bool false] 24)
          replace r1 := (r1.step hb).alloc (.cells #[.slice A11 n11 c11, .bool false] 24)
          replace r9 := (r9.step hb).alloc (.cells #[.slice A11 n11 c11, .bool false] 24)
          replace r10 := (r10.step hb).alloc (.cells #[.slice A11 n11 c11, .bool false] 24)
          replace TT := (TT.step hb).alloc (.cells #[.slice A11 n11 c11, .bool false] 24)
          replace BB := below_new (below_step BB hb) (.cells #[.slice A11 n11 c11, .bool false] 24)
          have O11 := Own.new wk 24 #[.slice A11 n11 c11, .bool false]
          have r11 := hv.rd.alloc (.cells #[.slice A11 n11 c11, .bool false] 24)
          clear hb hv
          have qO40 := O4.cell 0
          have qO41 := O4.cell 1
          have qO50 := O5.cell 0
          have qO51 := O5.cell 1
          have qO90 := O9.cell 0
          have qO91 := O9.cell 1
          have qO100 := O10.cell 0
          have qO101 := O10.cell 1
          have qO110 := O11.cell 0
          have qO111 := O11.cell 1
          go_wp2_with fail
          go_at_call 9
          clear qO40 qO41 qO50 qO51 qO90 qO91 qO100 qO101 qO110 qO111
          generalize wk.heap.size = g11 at *
          generalize wk.alloc (.cells #[.slice A11 n11 c11, .bool false] 24) = u1 at *
          refine (HS1.out _ _ _ _ r11).mono ?_
          rintro e wk ⟨A14, n14, c14, rfl, hc14, hn14, hv, hb⟩
          replace O4 := (O4.step hb).alloc (.cells #[.slice A14 n14 c14, .bool false] 24)
          replace O5 := (O5.step hb).alloc (.cells #[.slice A14 n14 c14, .bool false] 24)
          replace O9 := (O9.step hb).alloc (.cells #[.slice A14 n14 c14, .bool false] 24)
          replace O10 := (O10.step hb).alloc (.cells #[.slice A14 n14 c14, .bool false] 24)
          replace O11 := (O11.step hb).alloc (.cells #[.slice A14 n14 c14, .bool false] 24)
          replace r0 := (r0.step hb).alloc (.cells #[.slice A14 n14 c14, .bool false] 24)
          replace r1 := (r1.step hb).alloc (.cells #[.slice A14 n14 c14, .bool false] 24)
          replace r9 := (r9.step hb).alloc (.cells #[.slice A14 n14 c14, .bool false] 24)
          replace r10 := (r10.step hb).alloc (.cells #[.slice A14 n14 c14, .bool false] 24)
          replace r11 := (r11.step hb).alloc (.cells #[.slice A14 n14 c14, .bool false] 24)
          replace TT := (TT.step hb).alloc (.cells #[.slice A14 n14 c14, .bool false] 24)
          replace BB := below_new (below_step BB hb) (.cells #[.slice A14 n14 c14, .bool false] 24)
          have O14 := Own.new wk 24 #[.slice A14 n14 c14, .bool false]
          have r14 := hv.rd.alloc (.cells #[.slice A14 n14 c14, .bool false] 24)
          clear hb hv
          have qO40 := O4.cell 0
          have qO41 := O4.cell 1
          have qO50 := O5.cell 0
          have qO51 := O5.cell 1
          have qO90 := O9.cell 0
          have qO91 := O9.cell 1
          have qO100 := O10.cell 0
          have qO101 := O10.cell 1
          have qO110 := O11.cell 0
          have qO111 := O11.cell 1
          have qO140 := O14.cell 0
          have qO141 := O14.cell 1
          go_wp2_with fail
          go_at_call 9
          clear qO40 qO41 qO50 qO51 qO90 qO91 qO100 qO101 qO110 qO111 qO140 qO141
          generalize wk.heap.size = g14 at *
          generalize wk.alloc (.cells #[.slice A14 n14 c14, .bool false] 24) = u2 at *
          refine (HS2.out _ _ _ _ r11).mono ?_
          rintro e wk ⟨A16, n16, c16, rfl, hc16, hn16, hv, hb⟩
          replace O4 := (O4.step hb).alloc (.cells #[.slice A16 n16 c16, .bool false] 24)
          replace O5 := (O5.step hb).alloc (.cells #[.slice A16 n16 c16, .bool false] 24)
          replace O9 := (O9.step hb).alloc (.cells #[.slice A16 n16 c16, .bool false] 24)
          replace O10 := (O10.step hb).alloc (.cells #[.slice A16 n16 c16, .bool false] 24)
          replace O11 := (O11.step hb).alloc (.cells #[.slice A16 n16 c16, .bool false] 24)
          replace O14 := (O14.step hb).alloc (.cells #[.slice A16 n16 c16, .bool false] 24)
          replace r0 := (r0.step hb).alloc (.cells #[.slice A16 n16 c16, .bool false] 24)
          replace r1 := (r1.step hb).alloc (.cells #[.slice A16 n16 c16, .bool false] 24)
          replace r9 := (r9.step hb).alloc (.cells #[.slice A16 n16 c16, .bool false] 24)
          replace r10 := (r10.step hb).alloc (.cells #[.slice A16 n16 c16, .bool false] 24)
          replace r11 := (r11.step hb).alloc (.cells #[.slice A16 n16 c16, .bool false] 24)
          replace r14 := (r14.step hb).alloc (.cells #[.slice A16 n16 c16, .bool false] 24)
          replace TT := (TT.step hb).alloc (.cells #[.slice A16 n16 c16, .bool false] 24)
          replace BB := below_new (below_step BB hb) (.cells #[.slice A16 n16 c16, .bool false] 24)
          have O16 := Own.new wk 24 #[.slice A16 n16 c16, .bool false]
          have r16 := hv.rd.alloc (.cells #[.slice A16 n16 c16, .bool false] 24)
          clear hb hv
          have qO40 := O4.cell 0
          have qO41 := O4.cell 1
          have qO50 := O5.cell 0
          have qO51 := O5.cell 1
          have qO90 := O9.cell 0
          have qO91 := O9.cell 1
          have qO100 := O10.cell 0
          have qO101 := O10.cell 1
          have qO110 := O11.cell 0
          have qO111 := O11.cell 1
          have qO140 := O14.cell 0
          have qO141 := O14.cell 1
          have qO160 := O16.cell 0
          have qO161 := O16.cell 1
          go_wp2
          clear qO40 qO41 qO50 qO51 qO90 qO91 qO100 qO101 qO110 qO111 qO140 qO141 qO160 qO161
          generalize wk.heap.size = g16 at *
          generalize wk.alloc (.cells #[.slice A16 n16 c16, .bool false] 24) = u3 at *
          clear t1 z0 z1 z2 z3 HC HS1 HS2
          refine region_y (by kernel_rfl) (fun u => owns w.heap.size #[.slice A0 n0 c0, .bool s0] u ∧ (owns (w.heap.size + 1) #[.slice A1 n1 c1, .bool s1] u ∧ (owns g9 #[.slice A9 N c9, .bool sx] u ∧ (owns g10 #[.slice A10 M c10, .bool sy] u ∧ (owns g11 #[.slice A11 n11 c11, .bool false] u ∧ (owns g14 #[.slice A14 n14 c14, .bool false] u ∧ (owns g16 #[.slice A16 n16 c16, .bool false] u ∧ (rds A0 n0 l0 u ∧ (rds A1 n1 l1 u ∧ (rds A9 N lx u ∧ (rds A10 M ly u ∧ (rds A11 n11 (ly ++ lx) u ∧ (rds A14 n14 ly u ∧ (rds A16 n16 lx u ∧ (tbs u ∧ blw w u))))))))))))))) [] [isV (.int .i64 0), isV (.bool false), isV (.bool false), isV (.int .i64 0), isV (.bool false), isV (.bool false), isV (.bool false), isV (.int .i64 0), isV (.bool false), isV (.bool false), isV (.bool false), isV (.agg #[.slice A14 n14 c14, .bool false]), isV (.agg #[.slice A10 M c10, .bool sy]), isW (⟨ly, false⟩ : V), isV (.bool true), isV (.bool false), isV (.bool false), isV (.bool false), isV (.agg #[.slice A16 n16 c16, .bool false]), isV (.agg #[.slice A9 N c9, .bool sx]), isW (⟨lx, false⟩ : V), isV (.bool true), isV (.bool false), isV (.bool false)] [some 83, some 84, some 85, some 86, some 87, some 88, some 89, some 90, some 91, some 92, some 93, some 94, some 95, some 96, some 97, some 98, some 99, some 100, some 101, some 102, some 103, some 104, some 105, some 106] [[], [0], [1], [2], [3, 2], [2, 4], [5, 2], [6], [7, 6], [6, 8], [9, 6], [10], [10], [12, 10, 10], [11, 13, 13, 10], [14, 10], [10, 15], [16, 14], [17], [17], [19, 17, 17], [18, 20, 20, 17], [21, 17], [17, 22]] (by kernel_rfl) (by kernel_rfl) rfl (by kernel_rfl) (by kernel_rfl) (by kernel_rfl) ⟨O4.drew, O5.drew, O9.drew, O10.drew, O11.drew, O14.drew, O16.drew, r0.drew, r1.drew, r9.drew, r10.drew, r11.drew, r14.drew, r16.drew, TT.drew, below_drew BB⟩ (fun _ h => by cases h) ?_ ?_
          · refine ⟨?_, ?_, ?_, ?_, ?_, ?_, ?_, ?_, ?_, ?_, ?_, ?_, ?_, ?_, ?_, ?_, ?_, ?_, ?_, ?_, ?_, ?_, ?_, ?_, trivial⟩
            · intro a w' hS hO hF' hP K hK
              have f0 := hO 12 (by rfl)
              refine if_ok (by rfl) ?_
              unfold Oper.wp execOp
              simp only [Sem.run_pure, ev f0]
              exact hK _ w' (fun h => by cases h) (keep_same hS) rfl
            · intro a w' hS hO hF' hP K hK
              obtain ⟨_, f0, rfl⟩ := (hF' 0 rfl).1 83 _ rfl rfl
              refine if_ok (by rfl) ?_
              refine wp_val (w' := w') (q := .bool false) (by unfold execOp; simp only [(ev f0)]; simp [go_sem]) ?_
              exact hK _ w' (fun h => by cases h) (keep_same hS) rfl
            · intro a w' hS hO hF' hP K hK
              obtain ⟨_, f0, rfl⟩ := (hF' 1 rfl).1 84 _ rfl rfl
              refine if_ok (by rfl) ?_
              unfold Oper.wp execOp
              simp only [Sem.run_pure, ev f0]
              exact hK _ w' (fun h => by cases h) (keep_same hS) rfl
            · intro a w' hS hO hF' hP K hK
              obtain ⟨_, fg, rfl⟩ := (hF' 2 rfl).1 85 _ rfl rfl
              have f0 := hO 15 (by rfl)
              refine if_wanted (by rfl) (yield_of (by rfl) fg) ?_
              unfold Oper.wp execOp
              simp only [Sem.run_pure, ev f0]
              exact hK _ w' (fun h => by cases h) (keep_same hS) rfl
            · intro a w' hS hO hF' hP K hK
              obtain ⟨_, fg, rfl⟩ := (hF' 2 rfl).1 85 _ rfl rfl
              obtain ⟨_, f0, rfl⟩ := (hF' 3 rfl).1 86 _ rfl rfl
              refine if_wanted (by rfl) (yield_of (by rfl) fg) ?_
              refine wp_val (w' := w') (q := .bool false) (by unfold execOp; simp only [(ev f0)]; simp [go_sem]) ?_
              exact hK _ w' (fun h => by cases h) (keep_same hS) rfl
            · intro a w' hS hO hF' hP K hK
              obtain ⟨_, f0, rfl⟩ := (hF' 2 rfl).1 85 _ rfl rfl
              obtain ⟨_, f1, rfl⟩ := (hF' 4 rfl).1 87 _ rfl rfl
              refine if_ok (by rfl) ?_
              refine wp_pick_or _ _ _ rfl (ev f0) (ev f1) ?_
              exact hK _ w' (fun h => by cases h) (keep_same hS) rfl
            · intro a w' hS hO hF' hP K hK
              obtain ⟨_, f0, rfl⟩ := (hF' 5 rfl).1 88 _ rfl rfl
              refine if_ok (by rfl) ?_
              unfold Oper.wp execOp
              simp only [Sem.run_pure, ev f0]
              exact hK _ w' (fun h => by cases h) (keep_same hS) rfl
            · intro a w' hS hO hF' hP K hK
              obtain ⟨_, fg, rfl⟩ := (hF' 6 rfl).1 89 _ rfl rfl
              have f0 := hO 17 (by rfl)
              refine if_wanted (by rfl) (yield_of (by rfl) fg) ?_
              unfold Oper.wp execOp
              simp only [Sem.run_pure, ev f0]
              exact hK _ w' (fun h => by cases h) (keep_same hS) rfl
            · intro a w' hS hO hF' hP K hK
              obtain ⟨_, fg, rfl⟩ := (hF' 6 rfl).1 89 _ rfl rfl
              obtain ⟨_, f0, rfl⟩ := (hF' 7 rfl).1 90 _ rfl rfl
              refine if_wanted (by rfl) (yield_of (by rfl) fg) ?_
              refine wp_val (w' := w') (q := .bool false) (by unfold execOp; simp only [(ev f0)]; simp [go_sem]) ?_
              exact hK _ w' (fun h => by cases h) (keep_same hS) rfl
            · intro a w' hS hO hF' hP K hK
              obtain ⟨_, f0, rfl⟩ := (hF' 6 rfl).1 89 _ rfl rfl
              obtain ⟨_, f1, rfl⟩ := (hF' 8 rfl).1 91 _ rfl rfl
              refine if_ok (by rfl) ?_
              refine wp_pick_or _ _ _ rfl (ev f0) (ev f1) ?_
              exact hK _ w' (fun h => by cases h) (keep_same hS) rfl
            · intro a w' hS hO hF' hP K hK
              obtain ⟨_, f0, rfl⟩ := (hF' 9 rfl).1 92 _ rfl rfl
              refine if_ok (by rfl) ?_
              unfold Oper.wp execOp
              simp only [Sem.run_pure, ev f0]
              exact hK _ w' (fun h => by cases h) (keep_same hS) rfl
            · intro a w' hS hO hF' hP K hK
              obtain ⟨_, fg, rfl⟩ := (hF' 10 rfl).1 93 _ rfl rfl
              have ha := hO 14 (by rfl)
              refine if_wanted (by rfl) (yield_of (by rfl) fg) ?_
              refine wp_load_row 24 (.tmp 14) rfl g14 (ev ha) _ _ (0, 0) _ hS.2.2.2.2.2.1 Tryd.underlying24 rfl (by kernel_rfl) ?_
              exact hK _ w' (fun h => by cases h) (keep_same hS) rfl
            · intro a w' hS hO hF' hP K hK
              obtain ⟨_, fg, rfl⟩ := (hF' 10 rfl).1 93 _ rfl rfl
              have ha := hO 10 (by rfl)
              refine if_wanted (by rfl) (yield_of (by rfl) fg) ?_
              refine wp_load_row 24 (.tmp 10) rfl g10 (ev ha) _ _ (0, 0) _ hS.2.2.2.1 Tryd.underlying24 rfl (by kernel_rfl) ?_
              exact hK _ w' (fun h => by cases h) (keep_same hS) rfl
            · intro a w' hS hO hF' hP K hK
              obtain ⟨_, fg, rfl⟩ := (hF' 10 rfl).1 93 _ rfl rfl
              obtain ⟨_, f0, rfl⟩ := (hF' 12 rfl).1 95 _ rfl rfl
              refine if_wanted (by rfl) (yield_of (by rfl) fg) ?_
              refine wp_calls rfl (enters_of Tryd.func11 (by kernel_rfl) rfl) (args := #[(.agg #[.slice A10 M c10, .bool sy]), (.bool false)]) (by simp [Act.eval, f0]) ?_
              obtain ⟨O4, O5, O9, O10, O11, O14, O16, r0, r1, r9, r10, r11, r14, r16, TT, BB⟩ := id hS
              refine Calls.mono (HW.out _ _ _ r10) ?_
              rintro e w2 ⟨A, n, c, rfl, hc, hn, hv, hb⟩
              exact ⟨_, rfl, hK _ w2 (fun h => by cases h) (keep_below hb hS) ⟨A, n, c, rfl, hc, hn, hv.rd⟩⟩
            · intro a w' hS hO hF' hP K hK
              obtain ⟨_, fg, rfl⟩ := (hF' 10 rfl).1 93 _ rfl rfl
              obtain ⟨_, f0, rfl⟩ := (hF' 11 rfl).1 94 _ rfl rfl
              obtain ⟨_, f1, Ay1, ny1, cy1, rfl, hc1, hn1, hr1⟩ := (hF' 13 rfl).1 96 _ rfl rfl
              refine if_wanted (by rfl) (yield_of (by rfl) fg) ?_
              refine wp_calls rfl (enters_of Tryd.func10 (by kernel_rfl) rfl) (args := #[(.agg #[.slice A14 n14 c14, .bool false]), (.agg #[.slice Ay1 ny1 cy1, .bool (⟨ly, false⟩ : V).s])]) (by simp [Act.eval, f0, f1]) ?_
              obtain ⟨O4, O5, O9, O10, O11, O14, O16, r0, r1, r9, r10, r11, r14, r16, TT, BB⟩ := id hS
              apply Calls.mono
              (with_reducible apply same_t); (repeat (first | assumption | (with_reducible (apply Nb.rd; assumption)) | (with_reducible (apply Rb.at_later; assumption)) | (with_reducible (apply Tabs.at_later; assumption)) | (with_reducible apply Rb.alloc) | (with_reducible apply Tabs.alloc) | (with_reducible apply Rb.drew) | (with_reducible apply Tabs.drew) | (show I64 _; unfold I64; omega) | omega)); (first | exact sameV_self _ | (decide +kernel))
              rintro e w2 ⟨rfl, hb⟩
              exact ⟨_, rfl, hK _ w2 (fun h => by cases h) (keep_below hb hS) rfl⟩
            · intro a w' hS hO hF' hP K hK
              obtain ⟨_, fg, rfl⟩ := (hF' 10 rfl).1 93 _ rfl rfl
              obtain ⟨_, f0, rfl⟩ := (hF' 14 rfl).1 97 _ rfl rfl
              refine if_wanted (by rfl) (yield_of (by rfl) fg) ?_
              refine wp_not _ rfl (ev f0) ?_
              exact hK _ w' (fun h => by cases h) (keep_same hS) rfl
            · intro a w' hS hO hF' hP K hK
              obtain ⟨_, f0, rfl⟩ := (hF' 10 rfl).1 93 _ rfl rfl
              obtain ⟨_, f1, rfl⟩ := (hF' 15 rfl).1 98 _ rfl rfl
              refine if_ok (by rfl) ?_
              refine wp_pick_or _ _ _ rfl (ev f0) (ev f1) ?_
              exact hK _ w' (fun h => by cases h) (keep_same hS) rfl
            · intro a w' hS hO hF' hP K hK
              obtain ⟨_, f0, rfl⟩ := (hF' 16 rfl).1 99 _ rfl rfl
              refine if_ok (by rfl) ?_
              unfold Oper.wp execOp
              simp only [Sem.run_pure, ev f0]
              exact hK _ w' (fun h => by cases h) (keep_same hS) rfl
            · intro a w' hS hO hF' hP K hK
              obtain ⟨_, fg, rfl⟩ := (hF' 17 rfl).1 100 _ rfl rfl
              have ha := hO 16 (by rfl)
              refine if_wanted (by rfl) (yield_of (by rfl) fg) ?_
              refine wp_load_row 24 (.tmp 16) rfl g16 (ev ha) _ _ (0, 0) _ hS.2.2.2.2.2.2.1 Tryd.underlying24 rfl (by kernel_rfl) ?_
              exact hK _ w' (fun h => by cases h) (keep_same hS) rfl
            · intro a w' hS hO hF' hP K hK
              obtain ⟨_, fg, rfl⟩ := (hF' 17 rfl).1 100 _ rfl rfl
              have ha := hO 9 (by rfl)
              refine if_wanted (by rfl) (yield_of (by rfl) fg) ?_
              refine wp_load_row 24 (.tmp 9) rfl g9 (ev ha) _ _ (0, 0) _ hS.2.2.1 Tryd.underlying24 rfl (by kernel_rfl) ?_
              exact hK _ w' (fun h => by cases h) (keep_same hS) rfl
            · intro a w' hS hO hF' hP K hK
              obtain ⟨_, fg, rfl⟩ := (hF' 17 rfl).1 100 _ rfl rfl
              obtain ⟨_, f0, rfl⟩ := (hF' 19 rfl).1 102 _ rfl rfl
              refine if_wanted (by rfl) (yield_of (by rfl) fg) ?_
              refine wp_calls rfl (enters_of Tryd.func11 (by kernel_rfl) rfl) (args := #[(.agg #[.slice A9 N c9, .bool sx]), (.bool false)]) (by simp [Act.eval, f0]) ?_
              obtain ⟨O4, O5, O9, O10, O11, O14, O16, r0, r1, r9, r10, r11, r14, r16, TT, BB⟩ := id hS
              refine Calls.mono (HV.out _ _ _ r9) ?_
              rintro e w2 ⟨A, n, c, rfl, hc, hn, hv, hb⟩
              exact ⟨_, rfl, hK _ w2 (fun h => by cases h) (keep_below hb hS) ⟨A, n, c, rfl, hc, hn, hv.rd⟩⟩
            · intro a w' hS hO hF' hP K hK
              obtain ⟨_, fg, rfl⟩ := (hF' 17 rfl).1 100 _ rfl rfl
              obtain ⟨_, f0, rfl⟩ := (hF' 18 rfl).1 101 _ rfl rfl
              obtain ⟨_, f1, Ay1, ny1, cy1, rfl, hc1, hn1, hr1⟩ := (hF' 20 rfl).1 103 _ rfl rfl
              refine if_wanted (by rfl) (yield_of (by rfl) fg) ?_
              refine wp_calls rfl (enters_of Tryd.func10 (by kernel_rfl) rfl) (args := #[(.agg #[.slice A16 n16 c16, .bool false]), (.agg #[.slice Ay1 ny1 cy1, .bool (⟨lx, false⟩ : V).s])]) (by simp [Act.eval, f0, f1]) ?_
              obtain ⟨O4, O5, O9, O10, O11, O14, O16, r0, r1, r9, r10, r11, r14, r16, TT, BB⟩ := id hS
              apply Calls.mono
              (with_reducible apply same_t); (repeat (first | assumption | (with_reducible (apply Nb.rd; assumption)) | (with_reducible (apply Rb.at_later; assumption)) | (with_reducible (apply Tabs.at_later; assumption)) | (with_reducible apply Rb.alloc) | (with_reducible apply Tabs.alloc) | (with_reducible apply Rb.drew) | (with_reducible apply Tabs.drew) | (show I64 _; unfold I64; omega) | omega)); (first | exact sameV_self _ | (decide +kernel))
              rintro e w2 ⟨rfl, hb⟩
              exact ⟨_, rfl, hK _ w2 (fun h => by cases h) (keep_below hb hS) rfl⟩
            · intro a w' hS hO hF' hP K hK
              obtain ⟨_, fg, rfl⟩ := (hF' 17 rfl).1 100 _ rfl rfl
              obtain ⟨_, f0, rfl⟩ := (hF' 21 rfl).1 104 _ rfl rfl
              refine if_wanted (by rfl) (yield_of (by rfl) fg) ?_
              refine wp_not _ rfl (ev f0) ?_
              exact hK _ w' (fun h => by cases h) (keep_same hS) rfl
            · intro a w' hS hO hF' hP K hK
              obtain ⟨_, f0, rfl⟩ := (hF' 17 rfl).1 100 _ rfl rfl
              obtain ⟨_, f1, rfl⟩ := (hF' 22 rfl).1 105 _ rfl rfl
              refine if_ok (by rfl) ?_
              refine wp_pick_or _ _ _ rfl (ev f0) (ev f1) ?_
              exact hK _ w' (fun h => by cases h) (keep_same hS) rfl
          · intro vs u hl hS hV
            match vs, hl, hV with
            | [v0, v1, v2, v3, v4, v5, v6, v7, v8, v9, v10, v11, v12, v13, v14, v15, v16, v17, v18, v19, v20, v21, v22, v23], _, hV =>
              obtain rfl := hV 0 _ rfl
              obtain rfl := hV 1 _ rfl
              obtain rfl := hV 2 _ rfl
              obtain rfl := hV 3 _ rfl
              obtain rfl := hV 4 _ rfl
              obtain rfl := hV 5 _ rfl
              obtain rfl := hV 6 _ rfl
              obtain rfl := hV 7 _ rfl
              obtain rfl := hV 8 _ rfl
              obtain rfl := hV 9 _ rfl
              obtain rfl := hV 10 _ rfl
              obtain rfl := hV 11 _ rfl
              obtain rfl := hV 12 _ rfl
              obtain rfl := hV 14 _ rfl
              obtain rfl := hV 15 _ rfl
              obtain rfl := hV 16 _ rfl
              obtain rfl := hV 17 _ rfl
              obtain rfl := hV 18 _ rfl
              obtain rfl := hV 19 _ rfl
              obtain rfl := hV 21 _ rfl
              obtain rfl := hV 22 _ rfl
              obtain rfl := hV 23 _ rfl
              simp only [puts, Act.put, List.setIfInBounds_toArray, List.set_cons_zero, List.set_cons_succ]
              obtain ⟨O4, O5, O9, O10, O11, O14, O16, r0, r1, r9, r10, r11, r14, r16, TT, BB⟩ := hS
              clear hV
              replace O4 : Own u w.heap.size 24 #[.slice A0 n0 c0, .bool s0] := O4
              replace O5 : Own u (w.heap.size + 1) 24 #[.slice A1 n1 c1, .bool s1] := O5
              replace O9 : Own u g9 24 #[.slice A9 N c9, .bool sx] := O9
              replace O10 : Own u g10 24 #[.slice A10 M c10, .bool sy] := O10
              replace O11 : Own u g11 24 #[.slice A11 n11 c11, .bool false] := O11
              replace O14 : Own u g14 24 #[.slice A14 n14 c14, .bool false] := O14
              replace O16 : Own u g16 24 #[.slice A16 n16 c16, .bool false] := O16
              replace r0 : Rb u A0 n0 l0 := r0
              replace r1 : Rb u A1 n1 l1 := r1
              replace r9 : Rb u A9 N lx := r9
              replace r10 : Rb u A10 M ly := r10
              replace r11 : Rb u A11 n11 (ly ++ lx) := r11
              replace r14 : Rb u A14 n14 ly := r14
              replace r16 : Rb u A16 n16 lx := r16
              replace TT : Tabs u := TT
              replace BB : Below w.heap.size w u := BB
              have qO40 := O4.cell 0
              have qO41 := O4.cell 1
              have qO50 := O5.cell 0
              have qO51 := O5.cell 1
              have qO90 := O9.cell 0
              have qO91 := O9.cell 1
              have qO100 := O10.cell 0
              have qO101 := O10.cell 1
              have qO110 := O11.cell 0
              have qO111 := O11.cell 1
              have qO140 := O14.cell 0
              have qO141 := O14.cell 1
              have qO160 := O16.cell 0
              have qO161 := O16.cell 1
              go_wp2
              clear qO40 qO41 qO50 qO51 qO90 qO91 qO100 qO101 qO110 qO111 qO140 qO141 qO160 qO161
              rcases hcase.out with ⟨rfl, rfl, hl⟩ | ⟨rfl, rfl, hl⟩ | ⟨rfl, rfl, rfl⟩
              all_goals
                have qO40 := O4.cell 0
                have qO41 := O4.cell 1
                have qO50 := O5.cell 0
                have qO51 := O5.cell 1
                have qO90 := O9.cell 0
                have qO91 := O9.cell 1
                have qO100 := O10.cell 0
                have qO101 := O10.cell 1
                have qO110 := O11.cell 0
                have qO111 := O11.cell 1
                have qO140 := O14.cell 0
                have qO141 := O14.cell 1
                have qO160 := O16.cell 0
                have qO161 := O16.cell 1
                go_quiet (fail)
                replace O4 := O4.drewN nq
                replace O5 := O5.drewN nq
                replace O9 := O9.drewN nq
                replace O10 := O10.drewN nq
                replace O11 := O11.drewN nq
                replace O14 := O14.drewN nq
                replace O16 := O16.drewN nq
                replace r0 := r0.drewN nq
                replace r1 := r1.drewN nq
                replace r9 := r9.drewN nq
                replace r10 := r10.drewN nq
                replace r11 := r11.drewN nq
                replace r14 := r14.drewN nq
                replace r16 := r16.drewN nq
                replace TT := TT.drewN nq
                replace BB := below_drewN BB nq
                clear qO40 qO41 qO50 qO51 qO90 qO91 qO100 qO101 qO110 qO111 qO140 qO141 qO160 qO161
                have qO40 := O4.cell 0
                have qO41 := O4.cell 1
                have qO50 := O5.cell 0
                have qO51 := O5.cell 1
                have qO90 := O9.cell 0
                have qO91 := O9.cell 1
                have qO100 := O10.cell 0
                have qO101 := O10.cell 1
                have qO110 := O11.cell 0
                have qO111 := O11.cell 1
                have qO140 := O14.cell 0
                have qO141 := O14.cell 1
                have qO160 := O16.cell 0
                have qO161 := O16.cell 1
                go_wp2_with fail
                go_at_call 9
                clear qO40 qO41 qO50 qO51 qO90 qO91 qO100 qO101 qO110 qO111 qO140 qO141 qO160 qO161
                generalize u.drewN nq = vu at *
                refine (HSl.out _ _ _ r9).mono ?_
                rintro e wk ⟨A20, n20, c20, rfl, hc20, hn20, hv, hb⟩
                replace O4 := (O4.step hb).alloc (.cells #[.slice A20 n20 c20, .bool vp.s] 24)
                replace O5 := (O5.step hb).alloc (.cells #[.slice A20 n20 c20, .bool vp.s] 24)
                replace O9 := (O9.step hb).alloc (.cells #[.slice A20 n20 c20, .bool vp.s] 24)
                replace O10 := (O10.step hb).alloc (.cells #[.slice A20 n20 c20, .bool vp.s] 24)
                replace O11 := (O11.step hb).alloc (.cells #[.slice A20 n20 c20, .bool vp.s] 24)
                replace O14 := (O14.step hb).alloc (.cells #[.slice A20 n20 c20, .bool vp.s] 24)
                replace O16 := (O16.step hb).alloc (.cells #[.slice A20 n20 c20, .bool vp.s] 24)
                replace r0 := (r0.step hb).alloc (.cells #[.slice A20 n20 c20, .bool vp.s] 24)
                replace r1 := (r1.step hb).alloc (.cells #[.slice A20 n20 c20, .bool vp.s] 24)
                replace r9 := (r9.step hb).alloc (.cells #[.slice A20 n20 c20, .bool vp.s] 24)
                replace r10 := (r10.step hb).alloc (.cells #[.slice A20 n20 c20, .bool vp.s] 24)
                replace r11 := (r11.step hb).alloc (.cells #[.slice A20 n20 c20, .bool vp.s] 24)
                replace r14 := (r14.step hb).alloc (.cells #[.slice A20 n20 c20, .bool vp.s] 24)
                replace r16 := (r16.step hb).alloc (.cells #[.slice A20 n20 c20, .bool vp.s] 24)
                replace TT := (TT.step hb).alloc (.cells #[.slice A20 n20 c20, .bool vp.s] 24)
                replace BB := below_new (below_step BB hb) (.cells #[.slice A20 n20 c20, .bool vp.s] 24)
                have O20 := Own.new wk 24 #[.slice A20 n20 c20, .bool vp.s]
                have r20 := hv.rd.alloc (.cells #[.slice A20 n20 c20, .bool vp.s] 24)
                clear hb hv
                have qO40 := O4.cell 0
                have qO41 := O4.cell 1
                have qO50 := O5.cell 0
                have qO51 := O5.cell 1
                have qO90 := O9.cell 0
                have qO91 := O9.cell 1
                have qO100 := O10.cell 0
                have qO101 := O10.cell 1
                have qO110 := O11.cell 0
                have qO111 := O11.cell 1
                have qO140 := O14.cell 0
                have qO141 := O14.cell 1
                have qO160 := O16.cell 0
                have qO161 := O16.cell 1
                have qO200 := O20.cell 0
                have qO201 := O20.cell 1
                go_wp2_with fail
                go_at_call 12
                clear qO40 qO41 qO50 qO51 qO90 qO91 qO100 qO101 qO110 qO111 qO140 qO141 qO160 qO161 qO200 qO201
                generalize wk.heap.size = g20 at *
                generalize wk.alloc (.cells #[.slice A20 n20 c20, .bool vp.s] 24) = u4 at *
                refine (HPt.out _ _ _ _ _ _ r9 r20).mono ?_
                rintro e wk ⟨A22, n22, c22, rfl, hc22, hn22, hv, hb⟩
                replace O4 := (O4.step hb).alloc (.cells #[.slice A22 n22 c22, .bool sx] 24)
                replace O5 := (O5.step hb).alloc (.cells #[.slice A22 n22 c22, .bool sx] 24)
                replace O9 := (O9.step hb).alloc (.cells #[.slice A22 n22 c22, .bool sx] 24)
                replace O10 := (O10.step hb).alloc (.cells #[.slice A22 n22 c22, .bool sx] 24)
                replace O11 := (O11.step hb).alloc (.cells #[.slice A22 n22 c22, .bool sx] 24)
                replace O14 := (O14.step hb).alloc (.cells #[.slice A22 n22 c22, .bool sx] 24)
                replace O16 := (O16.step hb).alloc (.cells #[.slice A22 n22 c22, .bool sx] 24)
                replace O20 := (O20.step hb).alloc (.cells #[.slice A22 n22 c22, .bool sx] 24)
                replace r0 := (r0.step hb).alloc (.cells #[.slice A22 n22 c22, .bool sx] 24)
                replace r1 := (r1.step hb).alloc (.cells #[.slice A22 n22 c22, .bool sx] 24)
                replace r9 := (r9.step hb).alloc (.cells #[.slice A22 n22 c22, .bool sx] 24)
                replace r10 := (r10.step hb).alloc (.cells #[.slice A22 n22 c22, .bool sx] 24)
                replace r11 := (r11.step hb).alloc (.cells #[.slice A22 n22 c22, .bool sx] 24)
                replace r14 := (r14.step hb).alloc (.cells #[.slice A22 n22 c22, .bool sx] 24)
                replace r16 := (r16.step hb).alloc (.cells #[.slice A22 n22 c22, .bool sx] 24)
                replace r20 := (r20.step hb).alloc (.cells #[.slice A22 n22 c22, .bool sx] 24)
                replace TT := (TT.step hb).alloc (.cells #[.slice A22 n22 c22, .bool sx] 24)
                replace BB := below_new (below_step BB hb) (.cells #[.slice A22 n22 c22, .bool sx] 24)
                have O22 := Own.new wk 24 #[.slice A22 n22 c22, .bool sx]
                have r22 := hv.rd.alloc (.cells #[.slice A22 n22 c22, .bool sx] 24)
                clear hb hv
                have qO40 := O4.cell 0
                have qO41 := O4.cell 1
                have qO50 := O5.cell 0
                have qO51 := O5.cell 1
                have qO90 := O9.cell 0
                have qO91 := O9.cell 1
                have qO100 := O10.cell 0
                have qO101 := O10.cell 1
                have qO110 := O11.cell 0
                have qO111 := O11.cell 1
                have qO140 := O14.cell 0
                have qO141 := O14.cell 1
                have qO160 := O16.cell 0
                have qO161 := O16.cell 1
                have qO200 := O20.cell 0
                have qO201 := O20.cell 1
                have qO220 := O22.cell 0
                have qO221 := O22.cell 1
                go_wp2
                clear qO40 qO41 qO50 qO51 qO90 qO91 qO100 qO101 qO110 qO111 qO140 qO141 qO160 qO161 qO200 qO201 qO220 qO221
                generalize wk.heap.size = g22 at *
                generalize wk.alloc (.cells #[.slice A22 n22 c22, .bool sx] 24) = u5 at *
                have qO40 := O4.cell 0
                have qO41 := O4.cell 1
                have qO50 := O5.cell 0
                have qO51 := O5.cell 1
                have qO90 := O9.cell 0
                have qO91 := O9.cell 1
                have qO100 := O10.cell 0
                have qO101 := O10.cell 1
                have qO110 := O11.cell 0
                have qO111 := O11.cell 1
                have qO140 := O14.cell 0
                have qO141 := O14.cell 1
                have qO160 := O16.cell 0
                have qO161 := O16.cell 1
                have qO200 := O20.cell 0
                have qO201 := O20.cell 1
                have qO220 := O22.cell 0
                have qO221 := O22.cell 1
                go_quiet (fail)
                replace O4 := O4.drewN nq
                replace O5 := O5.drewN nq
                replace O9 := O9.drewN nq
                replace O10 := O10.drewN nq
                replace O11 := O11.drewN nq
                replace O14 := O14.drewN nq
                replace O16 := O16.drewN nq
                replace O20 := O20.drewN nq
                replace O22 := O22.drewN nq
                replace r0 := r0.drewN nq
                replace r1 := r1.drewN nq
                replace r9 := r9.drewN nq
                replace r10 := r10.drewN nq
                replace r11 := r11.drewN nq
                replace r14 := r14.drewN nq
                replace r16 := r16.drewN nq
                replace r20 := r20.drewN nq
                replace r22 := r22.drewN nq
                replace TT := TT.drewN nq
                replace BB := below_drewN BB nq
                clear qO40 qO41 qO50 qO51 qO90 qO91 qO100 qO101 qO110 qO111 qO140 qO141 qO160 qO161 qO200 qO201 qO220 qO221
                have qO40 := O4.cell 0
                have qO41 := O4.cell 1
                have qO50 := O5.cell 0
                have qO51 := O5.cell 1
                have qO90 := O9.cell 0
                have qO91 := O9.cell 1
                have qO100 := O10.cell 0
                have qO101 := O10.cell 1
                have qO110 := O11.cell 0
                have qO111 := O11.cell 1
                have qO140 := O14.cell 0
                have qO141 := O14.cell 1
                have qO160 := O16.cell 0
                have qO161 := O16.cell 1
                have qO200 := O20.cell 0
                have qO201 := O20.cell 1
                have qO220 := O22.cell 0
                have qO221 := O22.cell 1
                go_wp2_with fail
                go_at_call 13
                clear qO40 qO41 qO50 qO51 qO90 qO91 qO100 qO101 qO110 qO111 qO140 qO141 qO160 qO161 qO200 qO201 qO220 qO221
                generalize u5.drewN nq = vu5 at *
                refine (HRz.out _ _ _ r9).mono ?_
                rintro e wk ⟨A25, n25, c25, rfl, hc25, hn25, hv, hb⟩
                replace O4 := (O4.step hb).alloc (.cells #[.slice A25 n25 c25, .bool vm.s] 24)
                replace O5 := (O5.step hb).alloc (.cells #[.slice A25 n25 c25, .bool vm.s] 24)
                replace O9 := (O9.step hb).alloc (.cells #[.slice A25 n25 c25, .bool vm.s] 24)
                replace O10 := (O10.step hb).alloc (.cells #[.slice A25 n25 c25, .bool vm.s] 24)
                replace O11 := (O11.step hb).alloc (.cells #[.slice A25 n25 c25, .bool vm.s] 24)
                replace O14 := (O14.step hb).alloc (.cells #[.slice A25 n25 c25, .bool vm.s] 24)
                replace O16 := (O16.step hb).alloc (.cells #[.slice A25 n25 c25, .bool vm.s] 24)
                replace O20 := (O20.step hb).alloc (.cells #[.slice A25 n25 c25, .bool vm.s] 24)
                replace O22 := (O22.step hb).alloc (.cells #[.slice A25 n25 c25, .bool vm.s] 24)
                replace r0 := (r0.step hb).alloc (.cells #[.slice A25 n25 c25, .bool vm.s] 24)
                replace r1 := (r1.step hb).alloc (.cells #[.slice A25 n25 c25, .bool vm.s] 24)
                replace r9 := (r9.step hb).alloc (.cells #[.slice A25 n25 c25, .bool vm.s] 24)
                replace r10 := (r10.step hb).alloc (.cells #[.slice A25 n25 c25, .bool vm.s] 24)
                replace r11 := (r11.step hb).alloc (.cells #[.slice A25 n25 c25, .bool vm.s] 24)
                replace r14 := (r14.step hb).alloc (.cells #[.slice A25 n25 c25, .bool vm.s] 24)
                replace r16 := (r16.step hb).alloc (.cells #[.slice A25 n25 c25, .bool vm.s] 24)
                replace r20 := (r20.step hb).alloc (.cells #[.slice A25 n25 c25, .bool vm.s] 24)
                replace r22 := (r22.step hb).alloc (.cells #[.slice A25 n25 c25, .bool vm.s] 24)
                replace TT := (TT.step hb).alloc (.cells #[.slice A25 n25 c25, .bool vm.s] 24)
                replace BB := below_new (below_step BB hb) (.cells #[.slice A25 n25 c25, .bool vm.s] 24)
                have O25 := Own.new wk 24 #[.slice A25 n25 c25, .bool vm.s]
                have r25 := hv.rd.alloc (.cells #[.slice A25 n25 c25, .bool vm.s] 24)
                clear hb hv
                have qO40 := O4.cell 0
                have qO41 := O4.cell 1
                have qO50 := O5.cell 0
                have qO51 := O5.cell 1
                have qO90 := O9.cell 0
                have qO91 := O9.cell 1
                have qO100 := O10.cell 0
                have qO101 := O10.cell 1
                have qO110 := O11.cell 0
                have qO111 := O11.cell 1
                have qO140 := O14.cell 0
                have qO141 := O14.cell 1
                have qO160 := O16.cell 0
                have qO161 := O16.cell 1
                have qO200 := O20.cell 0
                have qO201 := O20.cell 1
                have qO220 := O22.cell 0
                have qO221 := O22.cell 1
                have qO250 := O25.cell 0
                have qO251 := O25.cell 1
                go_wp2_with fail
                go_at_call 13
                clear qO40 qO41 qO50 qO51 qO90 qO91 qO100 qO101 qO110 qO111 qO140 qO141 qO160 qO161 qO200 qO201 qO220 qO221 qO250 qO251
                generalize wk.heap.size = g25 at *
                generalize wk.alloc (.cells #[.slice A25 n25 c25, .bool vm.s] 24) = u6 at *
                refine (HRb.out _ _ _ _ r25).mono ?_
                rintro e wk ⟨A27, n27, c27, rfl, hc27, hn27, hv, hb⟩
                replace O4 := (O4.step hb).alloc (.cells #[.slice A27 n27 c27, .bool sx] 24)
                replace O5 := (O5.step hb).alloc (.cells #[.slice A27 n27 c27, .bool sx] 24)
                replace O9 := (O9.step hb).alloc (.cells #[.slice A27 n27 c27, .bool sx] 24)
                replace O10 := (O10.step hb).alloc (.cells #[.slice A27 n27 c27, .bool sx] 24)
                replace O11 := (O11.step hb).alloc (.cells #[.slice A27 n27 c27, .bool sx] 24)
                replace O14 := (O14.step hb).alloc (.cells #[.slice A27 n27 c27, .bool sx] 24)
                replace O16 := (O16.step hb).alloc (.cells #[.slice A27 n27 c27, .bool sx] 24)
                replace O20 := (O20.step hb).alloc (.cells #[.slice A27 n27 c27, .bool sx] 24)
                replace O22 := (O22.step hb).alloc (.cells #[.slice A27 n27 c27, .bool sx] 24)
                replace O25 := (O25.step hb).alloc (.cells #[.slice A27 n27 c27, .bool sx] 24)
                replace r0 := (r0.step hb).alloc (.cells #[.slice A27 n27 c27, .bool sx] 24)
                replace r1 := (r1.step hb).alloc (.cells #[.slice A27 n27 c27, .bool sx] 24)
                replace r9 := (r9.step hb).alloc (.cells #[.slice A27 n27 c27, .bool sx] 24)
                replace r10 := (r10.step hb).alloc (.cells #[.slice A27 n27 c27, .bool sx] 24)
                replace r11 := (r11.step hb).alloc (.cells #[.slice A27 n27 c27, .bool sx] 24)
                replace r14 := (r14.step hb).alloc (.cells #[.slice A27 n27 c27, .bool sx] 24)
                replace r16 := (r16.step hb).alloc (.cells #[.slice A27 n27 c27, .bool sx] 24)
                replace r20 := (r20.step hb).alloc (.cells #[.slice A27 n27 c27, .bool sx] 24)
                replace r22 := (r22.step hb).alloc (.cells #[.slice A27 n27 c27, .bool sx] 24)
                replace r25 := (r25.step hb).alloc (.cells #[.slice A27 n27 c27, .bool sx] 24)
                replace TT := (TT.step hb).alloc (.cells #[.slice A27 n27 c27, .bool sx] 24)
                replace BB := below_new (below_step BB hb) (.cells #[.slice A27 n27 c27, .bool sx] 24)
                have O27 := Own.new wk 24 #[.slice A27 n27 c27, .bool sx]
                have r27 := hv.rd.alloc (.cells #[.slice A27 n27 c27, .bool sx] 24)
                clear hb hv
                have qO40 := O4.cell 0
                have qO41 := O4.cell 1
                have qO50 := O5.cell 0
                have qO51 := O5.cell 1
                have qO90 := O9.cell 0
                have qO91 := O9.cell 1
                have qO100 := O10.cell 0
                have qO101 := O10.cell 1
                have qO110 := O11.cell 0
                have qO111 := O11.cell 1
                have qO140 := O14.cell 0
                have qO141 := O14.cell 1
                have qO160 := O16.cell 0
                have qO161 := O16.cell 1
                have qO200 := O20.cell 0
                have qO201 := O20.cell 1
                have qO220 := O22.cell 0
                have qO221 := O22.cell 1
                have qO250 := O25.cell 0
                have qO251 := O25.cell 1
                have qO270 := O27.cell 0
                have qO271 := O27.cell 1
                go_wp2_with fail
                go_at_call 14
                clear qO40 qO41 qO50 qO51 qO90 qO91 qO100 qO101 qO110 qO111 qO140 qO141 qO160 qO161 qO200 qO201 qO220 qO221 qO250 qO251 qO270 qO271
                generalize wk.heap.size = g27 at *
                generalize wk.alloc (.cells #[.slice A27 n27 c27, .bool sx] 24) = u7 at *
                refine (HI1.out _ _ _ r9).mono ?_
                rintro e wk ⟨rfl, hb⟩
                replace O4 := O4.step hb
                replace O5 := O5.step hb
                replace O9 := O9.step hb
                replace O10 := O10.step hb
                replace O11 := O11.step hb
                replace O14 := O14.step hb
                replace O16 := O16.step hb
                replace O20 := O20.step hb
                replace O22 := O22.step hb
                replace O25 := O25.step hb
                replace O27 := O27.step hb
                replace r0 := r0.step hb
                replace r1 := r1.step hb
                replace r9 := r9.step hb
                replace r10 := r10.step hb
                replace r11 := r11.step hb
                replace r14 := r14.step hb
                replace r16 := r16.step hb
                replace r20 := r20.step hb
                replace r22 := r22.step hb
                replace r25 := r25.step hb
                replace r27 := r27.step hb
                replace TT := TT.step hb
                replace BB := below_step BB hb
                clear hb
                obtain ⟨u8, rfl⟩ : ∃ u : World, u = wk := ⟨_, rfl⟩
                have qO40 := O4.cell 0
                have qO41 := O4.cell 1
                have qO50 := O5.cell 0
                have qO51 := O5.cell 1
                have qO90 := O9.cell 0
                have qO91 := O9.cell 1
                have qO100 := O10.cell 0
                have qO101 := O10.cell 1
                have qO110 := O11.cell 0
                have qO111 := O11.cell 1
                have qO140 := O14.cell 0
                have qO141 := O14.cell 1
                have qO160 := O16.cell 0
                have qO161 := O16.cell 1
                have qO200 := O20.cell 0
                have qO201 := O20.cell 1
                have qO220 := O22.cell 0
                have qO221 := O22.cell 1
                have qO250 := O25.cell 0
                have qO251 := O25.cell 1
                have qO270 := O27.cell 0
                have qO271 := O27.cell 1
                go_wp2_with fail
                go_at_call 14
                clear qO40 qO41 qO50 qO51 qO90 qO91 qO100 qO101 qO110 qO111 qO140 qO141 qO160 qO161 qO200 qO201 qO220 qO221 qO250 qO251 qO270 qO271
                refine (HI2.out _ _ _ _ r25).mono ?_
                rintro e wk ⟨rfl, hb⟩
                replace O4 := O4.step hb
                replace O5 := O5.step hb
                replace O9 := O9.step hb
                replace O10 := O10.step hb
                replace O11 := O11.step hb
                replace O14 := O14.step hb
                replace O16 := O16.step hb
                replace O20 := O20.step hb
                replace O22 := O22.step hb
                replace O25 := O25.step hb
                replace O27 := O27.step hb
                replace r0 := r0.step hb
                replace r1 := r1.step hb
                replace r9 := r9.step hb
                replace r10 := r10.step hb
                replace r11 := r11.step hb
                replace r14 := r14.step hb
                replace r16 := r16.step hb
                replace r20 := r20.step hb
                replace r22 := r22.step hb
                replace r25 := r25.step hb
                replace r27 := r27.step hb
                replace TT := TT.step hb
                replace BB := below_step BB hb
                clear hb
                obtain ⟨u9, rfl⟩ : ∃ u : World, u = wk := ⟨_, rfl⟩
                have qO40 := O4.cell 0
                have qO41 := O4.cell 1
                have qO50 := O5.cell 0
                have qO51 := O5.cell 1
                have qO90 := O9.cell 0
                have qO91 := O9.cell 1
                have qO100 := O10.cell 0
                have qO101 := O10.cell 1
                have qO110 := O11.cell 0
                have qO111 := O11.cell 1
                have qO140 := O14.cell 0
                have qO141 := O14.cell 1
                have qO160 := O16.cell 0
                have qO161 := O16.cell 1
                have qO200 := O20.cell 0
                have qO201 := O20.cell 1
                have qO220 := O22.cell 0
                have qO221 := O22.cell 1
                have qO250 := O25.cell 0
                have qO251 := O25.cell 1
                have qO270 := O27.cell 0
                have qO271 := O27.cell 1
                replace BB := Lib.hid BB
                clear TT
                go_wp2_with (go_at_call 10; apply Calls.mono; (with_reducible apply same_t); (repeat (first | assumption | (with_reducible (apply Nb.rd; assumption)) | (with_reducible (apply Rb.at_later; assumption)) | (with_reducible (apply Tabs.at_later; assumption)) | (with_reducible apply Rb.alloc) | (with_reducible apply Tabs.alloc) | (with_reducible apply Rb.drew) | (with_reducible apply Tabs.drew) | (show I64 _; unfold I64; omega) | omega)); (first | exact sameV_self _ | (decide +kernel)); rintro e wn ⟨rfl, hb⟩; replace BB := Lib.hid (below_step BB.out hb); replace O4 := O4.step hb; replace O5 := O5.step hb; replace O9 := O9.step hb; replace O10 := O10.step hb; replace O11 := O11.step hb; replace O14 := O14.step hb; replace O16 := O16.step hb; replace O20 := O20.step hb; replace O22 := O22.step hb; replace O25 := O25.step hb; replace O27 := O27.step hb; replace r0 := r0.step hb; replace r1 := r1.step hb; replace r9 := r9.step hb; replace r10 := r10.step hb; replace r11 := r11.step hb; replace r14 := r14.step hb; replace r16 := r16.step hb; replace r20 := r20.step hb; replace r22 := r22.step hb; replace r25 := r25.step hb; replace r27 := r27.step hb; clear hb qO40 qO41 qO50 qO51 qO90 qO91 qO100 qO101 qO110 qO111 qO140 qO141 qO160 qO161 qO200 qO201 qO220 qO221 qO250 qO251 qO270 qO271; have qO40 := O4.cell 0; have qO41 := O4.cell 1; have qO50 := O5.cell 0; have qO51 := O5.cell 1; have qO90 := O9.cell 0; have qO91 := O9.cell 1; have qO100 := O10.cell 0; have qO101 := O10.cell 1; have qO110 := O11.cell 0; have qO111 := O11.cell 1; have qO140 := O14.cell 0; have qO141 := O14.cell 1; have qO160 := O16.cell 0; have qO161 := O16.cell 1; have qO200 := O20.cell 0; have qO201 := O20.cell 1; have qO220 := O22.cell 0; have qO221 := O22.cell 1; have qO250 := O25.cell 0; have qO251 := O25.cell 1; have qO270 := O27.cell 0; have qO271 := O27.cell 1)
                go_ret
                exact ⟨rfl, BB.out⟩
    · skip
      have HC := Lib.hid (fun (u : World) (H : Nat) (hH : u.heap.size = H) (h : Rb u A0 n0 l0) (h' : Rb u A1 n1 l1) => (show Calls Tryd.prog 8 #[.slice (some ⟨H, 0, none⟩) 2 2] (u.alloc (.cells #[.slice A0 n0 c0, .bool s0, .slice A1 n1 c1, .bool s1] 24)) (RetX (u.alloc (.cells #[.slice A0 n0 c0, .bool s0, .slice A1 n1 c1, .bool s1] 24)) ⟨[], false⟩ 12) from by
        have := hcc u h h'
        rw [if_neg (show ¬ (2 = 0) by decide), if_pos (show 128 < M + N by omega), if_neg (show ¬ ((12 : Int) = 0) by decide), hH] at this
        exact this))
      replace eh1 := Lib.hid eh1
      replace eh2 := Lib.hid eh2
      replace okx := Lib.hid okx
      replace oky := Lib.hid oky
      have t1 : decide ((N : Int) + (M : Int) ≤ 128) = false := by simp; omega
      clear hcc
      go_enter Tryd.func3, Tryd.ntmps3
      go_wp2_with (first | (go_at_call 5; refine (HL.out _ _ (by simp)).mono ?_; rintro e wn ⟨rfl, rfl⟩; replace O4 := O4.alloc (.cells #[.slice A0 n0 c0, .bool s0, .slice A1 n1 c1, .bool s1] 24); replace O5 := O5.alloc (.cells #[.slice A0 n0 c0, .bool s0, .slice A1 n1 c1, .bool s1] 24); replace r0 := r0.alloc (.cells #[.slice A0 n0 c0, .bool s0, .slice A1 n1 c1, .bool s1] 24); replace r1 := r1.alloc (.cells #[.slice A0 n0 c0, .bool s0, .slice A1 n1 c1, .bool s1] 24); replace TT := TT.alloc (.cells #[.slice A0 n0 c0, .bool s0, .slice A1 n1 c1, .bool s1] 24); replace BB := Lib.hid (below_new BB.out (.cells #[.slice A0 n0 c0, .bool s0, .slice A1 n1 c1, .bool s1] 24))) | (go_at_call 6; refine (awake_any _ TT).mono ?_; rintro e wn ⟨rfl, hb⟩; have kb := hb; (try replace O4 := O4.step kb); (try replace O5 := O5.step kb); (try replace r0 := r0.step kb); (try replace r1 := r1.step kb); (try replace TT := TT.step kb); replace BB := Lib.hid (below_step BB.out kb); (try clear q40 q41); (try (have q40 := O4.cell 0; have q41 := O4.cell 1)); (try clear q50 q51); (try (have q50 := O5.cell 0; have q51 := O5.cell 1))))
      refine region_l (by kernel_rfl) (fun u => owns w.heap.size #[.slice A0 n0 c0, .bool s0] u ∧ (owns (w.heap.size + 1) #[.slice A1 n1 c1, .bool s1] u ∧ (rds A0 n0 l0 u ∧ (rds A1 n1 l1 u ∧ (szW (w.heap.size + 1 + 1) u ∧ (tbs u ∧ blw w u)))))) [un (isV (.agg #[.slice A0 n0 c0, .bool s0])), un (isW (⟨lx, sx⟩ : V)), un (isV (.agg #[.slice A1 n1 c1, .bool s1])), un (isW (⟨ly, sy⟩ : V)), un (isFr (w.heap.size + 1 + 1)), un (isFr (w.heap.size + 1 + 1)), filled (w.heap.size + 1 + 1) (⟨lx, sx⟩ : V), filled (w.heap.size + 1 + 1) (⟨ly, sy⟩ : V)] [some 42, some 43, some 44, some 45, some 9, some 10, none, none] [0, 1, 2, 3, 4, 5, 4, 5] [4, 5] [[], [0], [], [2, 1], [], [], [4, 1, 3, 0, 1, 4, 5], [5, 3, 6, 0, 1, 2, 3, 4, 5, 6]] (by kernel_rfl) (by kernel_rfl) rfl (by kernel_rfl) (by kernel_rfl) (by kernel_rfl) (by kernel_rfl) ⟨O4.drew, O5.drew, r0.drew, r1.drew, (by have := O5.lt; simp only [szW, World.drew]; omega), TT.drew, below_drew BB.out⟩ ?_ ?_
      · refine ⟨?_, ?_, ?_, ?_, ?_, ?_, ?_, ?_, trivial⟩
        · intro a w' hS hO hF hD K hK
          have ha := hO 4 (by rfl)
          refine if_ok (by rfl) ?_
          refine wp_load_row 24 (.tmp 4) rfl w.heap.size (ev ha) _ _ (0, 0) _ hS.1 Tryd.underlying24 rfl (by kernel_rfl) ?_
          exact hK _ w' (fun h => by cases h) (Nat.le_refl _) (fun h => absurd h (by decide)) hS (fun _ _ _ _ h => h) (fun V hV => by obtain rfl := Option.some.inj hV; exact rfl)
        · intro a w' hS hO hF hD K hK
          have j0 := hF 0 rfl
          have f0 := j0.2 42 rfl
          rw [show valD _ _ 0 = _ from j0.1 _ rfl] at f0
          refine if_ok (by rfl) ?_
          refine wp_calls rfl (enters_of Tryd.func7 (by kernel_rfl) rfl) (args := #[(.agg #[.slice A0 n0 c0, .bool s0])]) (by simp [Act.eval, f0]) ?_
          obtain ⟨O4, O5, r0, r1, BZ, TT, BB⟩ := id hS
          refine Calls.mono (HNx.out _ r0) ?_
          rintro e w2 ⟨A, n, c, rfl, hc, hn, hv, hb⟩
          exact ⟨_, rfl, hK _ w2 (fun h => by cases h) hb.size (fun h => absurd h (by decide)) ((show Stb (fun u => owns w.heap.size #[.slice A0 n0 c0, .bool s0] u ∧ (owns (w.heap.size + 1) #[.slice A1 n1 c1, .bool s1] u ∧ (rds A0 n0 l0 u ∧ (rds A1 n1 l1 u ∧ (szW (w.heap.size + 1 + 1) u ∧ (tbs u ∧ blw w u)))))) from inferInstance).st _ _ hb hS) (keepL_below hb) (fun V hV => by obtain rfl := Option.some.inj hV; exact ⟨A, n, c, rfl, hc, hn, hv.rd⟩)⟩
        · intro a w' hS hO hF hD K hK
          have ha := hO 5 (by rfl)
          refine if_ok (by rfl) ?_
          refine wp_load_row 24 (.tmp 5) rfl (w.heap.size + 1) (ev ha) _ _ (0, 0) _ hS.2.1 Tryd.underlying24 rfl (by kernel_rfl) ?_
          exact hK _ w' (fun h => by cases h) (Nat.le_refl _) (fun h => absurd h (by decide)) hS (fun _ _ _ _ h => h) (fun V hV => by obtain rfl := Option.some.inj hV; exact rfl)
        · intro a w' hS hO hF hD K hK
          have j0 := hF 2 rfl
          have f0 := j0.2 44 rfl
          rw [show valD _ _ 2 = _ from j0.1 _ rfl] at f0
          refine if_ok (by rfl) ?_
          refine wp_calls rfl (enters_of Tryd.func7 (by kernel_rfl) rfl) (args := #[(.agg #[.slice A1 n1 c1, .bool s1])]) (by simp [Act.eval, f0]) ?_
          obtain ⟨O4, O5, r0, r1, BZ, TT, BB⟩ := id hS
          refine Calls.mono (HNy.out _ r1) ?_
          rintro e w2 ⟨A, n, c, rfl, hc, hn, hv, hb⟩
          exact ⟨_, rfl, hK _ w2 (fun h => by cases h) hb.size (fun h => absurd h (by decide)) ((show Stb (fun u => owns w.heap.size #[.slice A0 n0 c0, .bool s0] u ∧ (owns (w.heap.size + 1) #[.slice A1 n1 c1, .bool s1] u ∧ (rds A0 n0 l0 u ∧ (rds A1 n1 l1 u ∧ (szW (w.heap.size + 1 + 1) u ∧ (tbs u ∧ blw w u)))))) from inferInstance).st _ _ hb hS) (keepL_below hb) (fun V hV => by obtain rfl := Option.some.inj hV; exact ⟨A, n, c, rfl, hc, hn, hv.rd⟩)⟩
        · intro a w' hS hO hF hD K hK
          refine if_ok (by rfl) ?_
          refine wp_alloc rfl ?_
          have hb := below_new (Below.refl w'.heap.size w') (.cells #[.slice none 0 0, .bool false] 24)
          have hBz := hS.2.2.2.2.1
          exact hK _ _ (fun h => by cases h) hb.size (fun _ => ⟨rfl, by simp⟩) ((show Stb (fun u => owns w.heap.size #[.slice A0 n0 c0, .bool s0] u ∧ (owns (w.heap.size + 1) #[.slice A1 n1 c1, .bool s1] u ∧ (rds A0 n0 l0 u ∧ (rds A1 n1 l1 u ∧ (szW (w.heap.size + 1 + 1) u ∧ (tbs u ∧ blw w u)))))) from inferInstance).st _ _ hb hS) (keepL_below hb) (fun V hV => by obtain rfl := Option.some.inj hV; exact ⟨_, rfl, hBz, _, _, _, _, Own.new w' 24 _⟩)
        · intro a w' hS hO hF hD K hK
          refine if_ok (by rfl) ?_
          refine wp_alloc rfl ?_
          have hb := below_new (Below.refl w'.heap.size w') (.cells #[.slice none 0 0, .bool false] 24)
          have hBz := hS.2.2.2.2.1
          exact hK _ _ (fun h => by cases h) hb.size (fun _ => ⟨rfl, by simp⟩) ((show Stb (fun u => owns w.heap.size #[.slice A0 n0 c0, .bool s0] u ∧ (owns (w.heap.size + 1) #[.slice A1 n1 c1, .bool s1] u ∧ (rds A0 n0 l0 u ∧ (rds A1 n1 l1 u ∧ (szW (w.heap.size + 1 + 1) u ∧ (tbs u ∧ blw w u)))))) from inferInstance).st _ _ hb hS) (keepL_below hb) (fun V hV => by obtain rfl := Option.some.inj hV; exact ⟨_, rfl, hBz, _, _, _, _, Own.new w' 24 _⟩)
        · intro a w' hS hO hF hD K hK
          have j0 := hF 1 rfl
          have f0 := j0.2 43 rfl
          obtain ⟨Ay0, ny0, cy0, e0, hc0, hn0, hr0⟩ := j0.1 _ rfl
          rw [e0] at f0
          have jp := hF 4 rfl
          have fp := jp.2 9 rfl
          obtain ⟨g, eg, hg, X, q1, q2, q3, O⟩ := jp.1 _ rfl
          have hgx := eg
          rw [eg] at fp
          have hB0 := hBase
          haveI : Over w g := ⟨Nat.le_trans (show w.heap.size ≤ _ from hB0) hg⟩
          haveI : Apart g w.heap.size := ⟨fun e => by subst e; have := hB0; omega⟩
          haveI : Apart g (w.heap.size + 1) := ⟨fun e => by subst e; have := hB0; omega⟩
          refine if_ok (by rfl) ?_
          refine wp_store_row _ _ _ rfl g _ (ev fp) (ev f0) _ _ O vec_size rfl (by simp [Value.oneCell']) ?_
          exact hK _ _ (fun _ => rfl) (by simp [World.setRow]) (fun h => absurd h (by decide)) ((show Sst g (fun u => owns w.heap.size #[.slice A0 n0 c0, .bool s0] u ∧ (owns (w.heap.size + 1) #[.slice A1 n1 c1, .bool s1] u ∧ (rds A0 n0 l0 u ∧ (rds A1 n1 l1 u ∧ (szW (w.heap.size + 1 + 1) u ∧ (tbs u ∧ blw w u)))))) from inferInstance).st _ _ _ _ _ _ O hS) (keepL_store O (fun j V hj hV => by
            match j, hj, hV with
            | 0, _, hV => obtain rfl := Option.some.inj hV; exact ssx_un
            | 1, _, hV => obtain rfl := Option.some.inj hV; exact ssx_un
            | 2, _, hV => obtain rfl := Option.some.inj hV; exact ssx_un
            | 3, _, hV => obtain rfl := Option.some.inj hV; exact ssx_un
            | 4, _, hV => obtain rfl := Option.some.inj hV; exact ssx_fr
            | 5, _, hV => obtain rfl := Option.some.inj hV; exact ssx_fr
            | 6, hj, _ => exact absurd rfl hj
            | 7, _, hV => obtain rfl := Option.some.inj hV; exact ssx_filled (fun e => hD 5 4 (by decide) rfl rfl rfl rfl (e.trans hgx.symm))
            | q + 8, _, hV => simp at hV)) (fun V hV => by obtain rfl := Option.some.inj hV; rw [if_neg (by decide)]; exact ⟨g, Ay0, ny0, cy0, hgx, hg, O.row, hc0, hn0, hr0.row O⟩)
        · intro a w' hS hO hF hD K hK
          have j0 := hF 3 rfl
          have f0 := j0.2 45 rfl
          obtain ⟨Ay0, ny0, cy0, e0, hc0, hn0, hr0⟩ := j0.1 _ rfl
          rw [e0] at f0
          have jp := hF 5 rfl
          have fp := jp.2 10 rfl
          obtain ⟨g, eg, hg, X, q1, q2, q3, O⟩ := jp.1 _ rfl
          have hgx := eg
          rw [eg] at fp
          have hB0 := hBase
          haveI : Over w g := ⟨Nat.le_trans (show w.heap.size ≤ _ from hB0) hg⟩
          haveI : Apart g w.heap.size := ⟨fun e => by subst e; have := hB0; omega⟩
          haveI : Apart g (w.heap.size + 1) := ⟨fun e => by subst e; have := hB0; omega⟩
          refine if_ok (by rfl) ?_
          refine wp_store_row _ _ _ rfl g _ (ev fp) (ev f0) _ _ O vec_size rfl (by simp [Value.oneCell']) ?_
          exact hK _ _ (fun _ => rfl) (by simp [World.setRow]) (fun h => absurd h (by decide)) ((show Sst g (fun u => owns w.heap.size #[.slice A0 n0 c0, .bool s0] u ∧ (owns (w.heap.size + 1) #[.slice A1 n1 c1, .bool s1] u ∧ (rds A0 n0 l0 u ∧ (rds A1 n1 l1 u ∧ (szW (w.heap.size + 1 + 1) u ∧ (tbs u ∧ blw w u)))))) from inferInstance).st _ _ _ _ _ _ O hS) (keepL_store O (fun j V hj hV => by
            match j, hj, hV with
            | 0, _, hV => obtain rfl := Option.some.inj hV; exact ssx_un
            | 1, _, hV => obtain rfl := Option.some.inj hV; exact ssx_un
            | 2, _, hV => obtain rfl := Option.some.inj hV; exact ssx_un
            | 3, _, hV => obtain rfl := Option.some.inj hV; exact ssx_un
            | 4, _, hV => obtain rfl := Option.some.inj hV; exact ssx_fr
            | 5, _, hV => obtain rfl := Option.some.inj hV; exact ssx_fr
            | 6, _, hV => obtain rfl := Option.some.inj hV; exact ssx_filled (fun e => hD 4 5 (by decide) rfl rfl rfl rfl (e.trans hgx.symm))
            | 7, hj, _ => exact absurd rfl hj
            | q + 8, _, hV => simp at hV)) (fun V hV => by obtain rfl := Option.some.inj hV; rw [if_neg (by decide)]; exact ⟨g, Ay0, ny0, cy0, hgx, hg, O.row, hc0, hn0, hr0.row O⟩)
      · intro vs u hl hS hV
        match vs, hl, hV with
        | [v0, v1, v2, v3, v4, v5, v6, v7], _, hV =>
          obtain ⟨g9, A9, n9, c9, e9, hB9, O9, hcc9, hnn9, r9⟩ := hV 6 _ rfl
          replace e9 : v4 = .pointer (some ⟨g9, 0, none⟩) := e9
          subst e9
          obtain ⟨g10, A10, n10, c10, e10, hB10, O10, hcc10, hnn10, r10⟩ := hV 7 _ rfl
          replace e10 : v5 = .pointer (some ⟨g10, 0, none⟩) := e10
          subst e10
          obtain rfl := hV 0 _ rfl
          obtain ⟨_, _, _, rfl, _, _, _⟩ := hV 1 _ rfl
          obtain rfl := hV 2 _ rfl
          obtain ⟨_, _, _, rfl, _, _, _⟩ := hV 3 _ rfl
          simp only [puts, Act.put, List.setIfInBounds_toArray, List.set_cons_zero, List.set_cons_succ]
          obtain ⟨O4, O5, r0, r1, BZ, TT, BB⟩ := hS
          clear hV
          replace O4 : Own u w.heap.size 24 #[.slice A0 n0 c0, .bool s0] := O4
          replace O5 : Own u (w.heap.size + 1) 24 #[.slice A1 n1 c1, .bool s1] := O5
          replace r0 : Rb u A0 n0 l0 := r0
          replace r1 : Rb u A1 n1 l1 := r1
          replace TT : Tabs u := TT
          replace BB : Below w.heap.size w u := BB
          replace O9 : Own u g9 24 #[.slice A9 n9 c9, .bool sx] := O9
          replace O10 : Own u g10 24 #[.slice A10 n10 c10, .bool sy] := O10
          obtain rfl : N = n9 := hlx.symm.trans r9.len
          obtain rfl : M = n10 := hly.symm.trans r10.len
          clear hB9 hB10 hBase BZ
          have qO40 := O4.cell 0
          have qO41 := O4.cell 1
          have qO50 := O5.cell 0
          have qO51 := O5.cell 1
          have qO90 := O9.cell 0
          have qO91 := O9.cell 1
          have qO100 := O10.cell 0
          have qO101 := O10.cell 1
          go_wp2_with fail
          go_at_call 8
          clear qO40 qO41 qO50 qO51 qO90 qO91 qO100 qO101
          refine (HC.out u _ rfl r0 r1).mono ?_
          rintro e wk ⟨A11, n11, c11, rfl, hc11, hn11, hv, hb⟩
          replace O4 := O4.alloc (.cells #[.slice A0 n0 c0, .bool s0, .slice A1 n1 c1, .bool s1] 24)
          replace O5 := O5.alloc (.cells #[.slice A0 n0 c0, .bool s0, .slice A1 n1 c1, .bool s1] 24)
          replace O9 := O9.alloc (.cells #[.slice A0 n0 c0, .bool s0, .slice A1 n1 c1, .bool s1] 24)
          replace O10 := O10.alloc (.cells #[.slice A0 n0 c0, .bool s0, .slice A1 n1 c1, .bool s1] 24)
          replace r0 := r0.alloc (.cells #[.slice A0 n0 c0, .bool s0, .slice A1 n1 c1, .bool s1] 24)
          replace r1 := r1.alloc (.cells #[.slice A0 n0 c0, .bool s0, .slice A1 n1 c1, .bool s1] 24)
          replace r9 := r9.alloc (.cells #[.slice A0 n0 c0, .bool s0, .slice A1 n1 c1, .bool s1] 24)
          replace r10 := r10.alloc (.cells #[.slice A0 n0 c0, .bool s0, .slice A1 n1 c1, .bool s1] 24)
          replace TT := TT.alloc (.cells #[.slice A0 n0 c0, .bool s0, .slice A1 n1 c1, .bool s1] 24)
          replace BB := below_new BB (.cells #[.slice A0 n0 c0, .bool s0, .slice A1 n1 c1, .bool s1] 24)
          replace O4 := (O4.step hb).alloc (.cells #[.slice A11 n11 c11, .bool false] 24)
          replace O5 := (O5.step hb).alloc (.cells #[.slice A11 n11 c11, .bool false] 24)
          replace O9 := (O9.step hb).alloc (.cells #[.slice A11 n11 c11, .bool false] 24)
          replace O10 := (O10.step hb).alloc (.cells #[.slice A11 n11 c11, .bool false] 24)
          replace r0 := (r0.step hb).alloc (.cells #[.slice A11 n11 c11, .bool false] 24)
          replace r1 := (r1.step hb).alloc (.cells #[.slice A11 n11 c11, .bool false] 24)
          replace r9 := (r9.step hb).alloc (.cells #[.slice A11 n11 c11, .bool false] 24)
          replace r10 := (r10.step hb).alloc (.cells #[.slice A11 n11 c11, .bool false] 24)
          replace TT := (TT.step hb).alloc (.cells #[.slice A11 n11 c11, .bool false] 24)
          replace BB := below_new (below_step BB hb) (.cells #[.slice A11 n11 c11, .bool false] 24)
          have O11 := Own.new wk 24 #[.slice A11 n11 c11, .bool false]
          have r11 := hv.rd.alloc (.cells #[.slice A11 n11 c11, .bool false] 24)
          clear hb hv
          have qO40 := O4.cell 0
          have qO41 := O4.cell 1
          have qO50 := O5.cell 0
          have qO51 := O5.cell 1
          have qO90 := O9.cell 0
          have qO91 := O9.cell 1
          have qO100 := O10.cell 0
          have qO101 := O10.cell 1
          have qO110 := O11.cell 0
          have qO111 := O11.cell 1
          go_wp2
          clear qO40 qO41 qO50 qO51 qO90 qO91 qO100 qO101 qO110 qO111
          generalize wk.heap.size = g11 at *
          generalize wk.alloc (.cells #[.slice A11 n11 c11, .bool false] 24) = u1 at *
          clear t1 z0 z1 z2 z3 HC
          rcases hcase.out with ⟨rfl, rfl, hl⟩ | ⟨rfl, rfl, hl⟩ | ⟨rfl, rfl, rfl⟩
          all_goals
            have qO40 := O4.cell 0
            have qO41 := O4.cell 1
            have qO50 := O5.cell 0
            have qO51 := O5.cell 1
            have qO90 := O9.cell 0
            have qO91 := O9.cell 1
            have qO100 := O10.cell 0
            have qO101 := O10.cell 1
            have qO110 := O11.cell 0
            have qO111 := O11.cell 1
            go_quiet (fail)
            replace O4 := O4.drewN nq
            replace O5 := O5.drewN nq
            replace O9 := O9.drewN nq
            replace O10 := O10.drewN nq
            replace O11 := O11.drewN nq
            replace r0 := r0.drewN nq
            replace r1 := r1.drewN nq
            replace r9 := r9.drewN nq
            replace r10 := r10.drewN nq
            replace r11 := r11.drewN nq
            replace TT := TT.drewN nq
            replace BB := below_drewN BB nq
            clear qO40 qO41 qO50 qO51 qO90 qO91 qO100 qO101 qO110 qO111
            have qO40 := O4.cell 0
            have qO41 := O4.cell 1
            have qO50 := O5.cell 0
            have qO51 := O5.cell 1
            have qO90 := O9.cell 0
            have qO91 := O9.cell 1
            have qO100 := O10.cell 0
            have qO101 := O10.cell 1
            have qO110 := O11.cell 0
            have qO111 := O11.cell 1
            go_wp2_with fail
            go_at_call 9
            clear qO40 qO41 qO50 qO51 qO90 qO91 qO100 qO101 qO110 qO111
            generalize u1.drewN nq = vu1 at *
            refine (HSl.out _ _ _ r9).mono ?_
            rintro e wk ⟨A20, n20, c20, rfl, hc20, hn20, hv, hb⟩
            replace O4 := (O4.step hb).alloc (.cells #[.slice A20 n20 c20, .bool vp.s] 24)
            replace O5 := (O5.step hb).alloc (.cells #[.slice A20 n20 c20, .bool vp.s] 24)
            replace O9 := (O9.step hb).alloc (.cells #[.slice A20 n20 c20, .bool vp.s] 24)
            replace O10 := (O10.step hb).alloc (.cells #[.slice A20 n20 c20, .bool vp.s] 24)
            replace O11 := (O11.step hb).alloc (.cells #[.slice A20 n20 c20, .bool vp.s] 24)
            replace r0 := (r0.step hb).alloc (.cells #[.slice A20 n20 c20, .bool vp.s] 24)
            replace r1 := (r1.step hb).alloc (.cells #[.slice A20 n20 c20, .bool vp.s] 24)
            replace r9 := (r9.step hb).alloc (.cells #[.slice A20 n20 c20, .bool vp.s] 24)
            replace r10 := (r10.step hb).alloc (.cells #[.slice A20 n20 c20, .bool vp.s] 24)
            replace r11 := (r11.step hb).alloc (.cells #[.slice A20 n20 c20, .bool vp.s] 24)
            replace TT := (TT.step hb).alloc (.cells #[.slice A20 n20 c20, .bool vp.s] 24)
            replace BB := below_new (below_step BB hb) (.cells #[.slice A20 n20 c20, .bool vp.s] 24)
            have O20 := Own.new wk 24 #[.slice A20 n20 c20, .bool vp.s]
            have r20 := hv.rd.alloc (.cells #[.slice A20 n20 c20, .bool vp.s] 24)
            clear hb hv
            have qO40 := O4.cell 0
            have qO41 := O4.cell 1
            have qO50 := O5.cell 0
            have qO51 := O5.cell 1
            have qO90 := O9.cell 0
            have qO91 := O9.cell 1
            have qO100 := O10.cell 0
            have qO101 := O10.cell 1
            have qO110 := O11.cell 0
            have qO111 := O11.cell 1
            have qO200 := O20.cell 0
            have qO201 := O20.cell 1
            go_wp2_with fail
            go_at_call 12
            clear qO40 qO41 qO50 qO51 qO90 qO91 qO100 qO101 qO110 qO111 qO200 qO201
            generalize wk.heap.size = g20 at *
            generalize wk.alloc (.cells #[.slice A20 n20 c20, .bool vp.s] 24) = u2 at *
            refine (HPt.out _ _ _ _ _ _ r9 r20).mono ?_
            rintro e wk ⟨A22, n22, c22, rfl, hc22, hn22, hv, hb⟩
            replace O4 := (O4.step hb).alloc (.cells #[.slice A22 n22 c22, .bool sx] 24)
            replace O5 := (O5.step hb).alloc (.cells #[.slice A22 n22 c22, .bool sx] 24)
            replace O9 := (O9.step hb).alloc (.cells #[.slice A22 n22 c22, .bool sx] 24)
            replace O10 := (O10.step hb).alloc (.cells #[.slice A22 n22 c22, .bool sx] 24)
            replace O11 := (O11.step hb).alloc (.cells #[.slice A22 n22 c22, .bool sx] 24)
            replace O20 := (O20.step hb).alloc (.cells #[.slice A22 n22 c22, .bool sx] 24)
            replace r0 := (r0.step hb).alloc (.cells #[.slice A22 n22 c22, .bool sx] 24)
            replace r1 := (r1.step hb).alloc (.cells #[.slice A22 n22 c22, .bool sx] 24)
            replace r9 := (r9.step hb).alloc (.cells #[.slice A22 n22 c22, .bool sx] 24)
            replace r10 := (r10.step hb).alloc (.cells #[.slice A22 n22 c22, .bool sx] 24)
            replace r11 := (r11.step hb).alloc (.cells #[.slice A22 n22 c22, .bool sx] 24)
            replace r20 := (r20.step hb).alloc (.cells #[.slice A22 n22 c22, .bool sx] 24)
            replace TT := (TT.step hb).alloc (.cells #[.slice A22 n22 c22, .bool sx] 24)
            replace BB := below_new (below_step BB hb) (.cells #[.slice A22 n22 c22, .bool sx] 24)
            have O22 := Own.new wk 24 #[.slice A22 n22 c22, .bool sx]
            have r22 := hv.rd.alloc (.cells #[.slice A22 n22 c22, .bool sx] 24)
            clear hb hv
            have qO40 := O4.cell 0
            have qO41 := O4.cell 1
            have qO50 := O5.cell 0
            have qO51 := O5.cell 1
            have qO90 := O9.cell 0
            have qO91 := O9.cell 1
            have qO100 := O10.cell 0
            have qO101 := O10.cell 1
            have qO110 := O11.cell 0
            have qO111 := O11.cell 1
            have qO200 := O20.cell 0
            have qO201 := O20.cell 1
            have qO220 := O22.cell 0
            have qO221 := O22.cell 1
            go_wp2
            clear qO40 qO41 qO50 qO51 qO90 qO91 qO100 qO101 qO110 qO111 qO200 qO201 qO220 qO221
            generalize wk.heap.size = g22 at *
            generalize wk.alloc (.cells #[.slice A22 n22 c22, .bool sx] 24) = u3 at *
            have qO40 := O4.cell 0
            have qO41 := O4.cell 1
            have qO50 := O5.cell 0
            have qO51 := O5.cell 1
            have qO90 := O9.cell 0
            have qO91 := O9.cell 1
            have qO100 := O10.cell 0
            have qO101 := O10.cell 1
            have qO110 := O11.cell 0
            have qO111 := O11.cell 1
            have qO200 := O20.cell 0
            have qO201 := O20.cell 1
            have qO220 := O22.cell 0
            have qO221 := O22.cell 1
            go_quiet (fail)
            replace O4 := O4.drewN nq
            replace O5 := O5.drewN nq
            replace O9 := O9.drewN nq
            replace O10 := O10.drewN nq
            replace O11 := O11.drewN nq
            replace O20 := O20.drewN nq
            replace O22 := O22.drewN nq
            replace r0 := r0.drewN nq
            replace r1 := r1.drewN nq
            replace r9 := r9.drewN nq
            replace r10 := r10.drewN nq
            replace r11 := r11.drewN nq
            replace r20 := r20.drewN nq
            replace r22 := r22.drewN nq
            replace TT := TT.drewN nq
            replace BB := below_drewN BB nq
            clear qO40 qO41 qO50 qO51 qO90 qO91 qO100 qO101 qO110 qO111 qO200 qO201 qO220 qO221
            have qO40 := O4.cell 0
            have qO41 := O4.cell 1
            have qO50 := O5.cell 0
            have qO51 := O5.cell 1
            have qO90 := O9.cell 0
            have qO91 := O9.cell 1
            have qO100 := O10.cell 0
            have qO101 := O10.cell 1
            have qO110 := O11.cell 0
            have qO111 := O11.cell 1
            have qO200 := O20.cell 0
            have qO201 := O20.cell 1
            have qO220 := O22.cell 0
            have qO221 := O22.cell 1
            go_wp2_with fail
            go_at_call 13
            clear qO40 qO41 qO50 qO51 qO90 qO91 qO100 qO101 qO110 qO111 qO200 qO201 qO220 qO221
            generalize u3.drewN nq = vu3 at *
            refine (HRz.out _ _ _ r9).mono ?_
            rintro e wk ⟨A25, n25, c25, rfl, hc25, hn25, hv, hb⟩
            replace O4 := (O4.step hb).alloc (.cells #[.slice A25 n25 c25, .bool vm.s] 24)
            replace O5 := (O5.step hb).alloc (.cells #[.slice A25 n25 c25, .bool vm.s] 24)
            replace O9 := (O9.step hb).alloc (.cells #[.slice A25 n25 c25, .bool vm.s] 24)
            replace O10 := (O10.step hb).alloc (.cells #[.slice A25 n25 c25, .bool vm.s] 24)
            replace O11 := (O11.step hb).alloc (.cells #[.slice A25 n25 c25, .bool vm.s] 24)
            replace O20 := (O20.step hb).alloc (.cells #[.slice A25 n25 c25, .bool vm.s] 24)
            replace O22 := (O22.step hb).alloc (.cells #[.slice A25 n25 c25, .bool vm.s] 24)
            replace r0 := (r0.step hb).alloc (.cells #[.slice A25 n25 c25, .bool vm.s] 24)
            replace r1 := (r1.step hb).alloc (.cells #[.slice A25 n25 c25, .bool vm.s] 24)
            replace r9 := (r9.step hb).alloc (.cells #[.slice A25 n25 c25, .bool vm.s] 24)
            replace r10 := (r10.step hb).alloc (.cells #[.slice A25 n25 c25, .bool vm.s] 24)
            replace r11 := (r11.step hb).alloc (.cells #[.slice A25 n25 c25, .bool vm.s] 24)
            replace r20 := (r20.step hb).alloc (.cells #[.slice A25 n25 c25, .bool vm.s] 24)
            replace r22 := (r22.step hb).alloc (.cells #[.slice A25 n25 c25, .bool vm.s] 24)
            replace TT := (TT.step hb).alloc (.cells #[.slice A25 n25 c25, .bool vm.s] 24)
            replace BB := below_new (below_step BB hb) (.cells #[.slice A25 n25 c25, .bool vm.s] 24)
            have O25 := Own.new wk 24 #[.slice A25 n25 c25, .bool vm.s]
            have r25 := hv.rd.alloc (.cells #[.slice A25 n25 c25, .bool vm.s] 24)
            clear hb hv
            have qO40 := O4.cell 0
            have qO41 := O4.cell 1
            have qO50 := O5.cell 0
            have qO51 := O5.cell 1
            have qO90 := O9.cell 0
            have qO91 := O9.cell 1
            have qO100 := O10.cell 0
            have qO101 := O10.cell 1
            have qO110 := O11.cell 0
            have qO111 := O11.cell 1
            have qO200 := O20.cell 0
            have qO201 := O20.cell 1
            have qO220 := O22.cell 0
            have qO221 := O22.cell 1
            have qO250 := O25.cell 0
            have qO251 := O25.cell 1
            go_wp2_with fail
            go_at_call 13
            clear qO40 qO41 qO50 qO51 qO90 qO91 qO100 qO101 qO110 qO111 qO200 qO201 qO220 qO221 qO250 qO251
            generalize wk.heap.size = g25 at *
            generalize wk.alloc (.cells #[.slice A25 n25 c25, .bool vm.s] 24) = u4 at *
            refine (HRb.out _ _ _ _ r25).mono ?_
            rintro e wk ⟨A27, n27, c27, rfl, hc27, hn27, hv, hb⟩
            replace O4 := (O4.step hb).alloc (.cells #[.slice A27 n27 c27, .bool sx] 24)
            replace O5 := (O5.step hb).alloc (.cells #[.slice A27 n27 c27, .bool sx] 24)
            replace O9 := (O9.step hb).alloc (.cells #[.slice A27 n27 c27, .bool sx] 24)
            replace O10 := (O10.step hb).alloc (.cells #[.slice A27 n27 c27, .bool sx] 24)
            replace O11 := (O11.step hb).alloc (.cells #[.slice A27 n27 c27, .bool sx] 24)
            replace O20 := (O20.step hb).alloc (.cells #[.slice A27 n27 c27, .bool sx] 24)
            replace O22 := (O22.step hb).alloc (.cells #[.slice A27 n27 c27, .bool sx] 24)
            replace O25 := (O25.step hb).alloc (.cells #[.slice A27 n27 c27, .bool sx] 24)
            replace r0 := (r0.step hb).alloc (.cells #[.slice A27 n27 c27, .bool sx] 24)
            replace r1 := (r1.step hb).alloc (.cells #[.slice A27 n27 c27, .bool sx] 24)
            replace r9 := (r9.step hb).alloc (.cells #[.slice A27 n27 c27, .bool sx] 24)
            replace r10 := (r10.step hb).alloc (.cells #[.slice A27 n27 c27, .bool sx] 24)
            replace r11 := (r11.step hb).alloc (.cells #[.slice A27 n27 c27, .bool sx] 24)
            replace r20 := (r20.step hb).alloc (.cells #[.slice A27 n27 c27, .bool sx] 24)
            replace r22 := (r22.step hb).alloc (.cells #[.slice A27 n27 c27, .bool sx] 24)
            replace r25 := (r25.step hb).alloc (.cells #[.slice A27 n27 c27, .bool sx] 24)
            replace TT := (TT.step hb).alloc (.cells #[.slice A27 n27 c27, .bool sx] 24)
            replace BB := below_new (below_step BB hb) (.cells #[.slice A27 n27 c27, .bool sx] 24)
            have O27 := Own.new wk 24 #[.slice A27 n27 c27, .bool sx]
            have r27 := hv.rd.alloc (.cells #[.slice A27 n27 c27, .bool sx] 24)
            clear hb hv
            have qO40 := O4.cell 0
            have qO41 := O4.cell 1
            have qO50 := O5.cell 0
            have qO51 := O5.cell 1
            have qO90 := O9.cell 0
            have qO91 := O9.cell 1
            have qO100 := O10.cell 0
            have qO101 := O10.cell 1
            have qO110 := O11.cell 0
            have qO111 := O11.cell 1
            have qO200 := O20.cell 0
            have qO201 := O20.cell 1
            have qO220 := O22.cell 0
            have qO221 := O22.cell 1
            have qO250 := O25.cell 0
            have qO251 := O25.cell 1
            have qO270 := O27.cell 0
            have qO271 := O27.cell 1
            go_wp2_with fail
            go_at_call 14
            clear qO40 qO41 qO50 qO51 qO90 qO91 qO100 qO101 qO110 qO111 qO200 qO201 qO220 qO221 qO250 qO251 qO270 qO271
            generalize wk.heap.size = g27 at *
            generalize wk.alloc (.cells #[.slice A27 n27 c27, .bool sx] 24) = u5 at *
            refine (HI1.out _ _ _ r9).mono ?_
            rintro e wk ⟨rfl, hb⟩
            replace O4 := O4.step hb
            replace O5 := O5.step hb
            replace O9 := O9.step hb
            replace O10 := O10.step hb
            replace O11 := O11.step hb
            replace O20 := O20.step hb
            replace O22 := O22.step hb
            replace O25 := O25.step hb
            replace O27 := O27.step hb
            replace r0 := r0.step hb
            replace r1 := r1.step hb
            replace r9 := r9.step hb
            replace r10 := r10.step hb
            replace r11 := r11.step hb
            replace r20 := r20.step hb
            replace r22 := r22.step hb
            replace r25 := r25.step hb
            replace r27 := r27.step hb
            replace TT := TT.step hb
            replace BB := below_step BB hb
            clear hb
            obtain ⟨u6, rfl⟩ : ∃ u : World, u = wk := ⟨_, rfl⟩
            have qO40 := O4.cell 0
            have qO41 := O4.cell 1
            have qO50 := O5.cell 0
            have qO51 := O5.cell 1
            have qO90 := O9.cell 0
            have qO91 := O9.cell 1
            have qO100 := O10.cell 0
            have qO101 := O10.cell 1
            have qO110 := O11.cell 0
            have qO111 := O11.cell 1
            have qO200 := O20.cell 0
            have qO201 := O20.cell 1
            have qO220 := O22.cell 0
            have qO221 := O22.cell 1
            have qO250 := O25.cell 0
            have qO251 := O25.cell 1
            have qO270 := O27.cell 0
            have qO271 := O27.cell 1
            go_wp2_with fail
            go_at_call 14
            clear qO40 qO41 qO50 qO51 qO90 qO91 qO100 qO101 qO110 qO111 qO200 qO201 qO220 qO221 qO250 qO251 qO270 qO271
            refine (HI2.out _ _ _ _ r25).mono ?_
            rintro e wk ⟨rfl, hb⟩
            replace O4 := O4.step hb
            replace O5 := O5.step hb
            replace O9 := O9.step hb
            replace O10 := O10.step hb
            replace O11 := O11.step hb
            replace O20 := O20.step hb
            replace O22 := O22.step hb
            replace O25 := O25.step hb
            replace O27 := O27.step hb
            replace r0 := r0.step hb
            replace r1 := r1.step hb
            replace r9 := r9.step hb
            replace r10 := r10.step hb
            replace r11 := r11.step hb
            replace r20 := r20.step hb
            replace r22 := r22.step hb
            replace r25 := r25.step hb
            replace r27 := r27.step hb
            replace TT := TT.step hb
            replace BB := below_step BB hb
            clear hb
            obtain ⟨u7, rfl⟩ : ∃ u : World, u = wk := ⟨_, rfl⟩
            have qO40 := O4.cell 0
            have qO41 := O4.cell 1
            have qO50 := O5.cell 0
            have qO51 := O5.cell 1
            have qO90 := O9.cell 0
            have qO91 := O9.cell 1
            have qO100 := O10.cell 0
            have qO101 := O10.cell 1
            have qO110 := O11.cell 0
            have qO111 := O11.cell 1
            have qO200 := O20.cell 0
            have qO201 := O20.cell 1
            have qO220 := O22.cell 0
            have qO221 := O22.cell 1
            have qO250 := O25.cell 0
            have qO251 := O25.cell 1
            have qO270 := O27.cell 0
            have qO271 := O27.cell 1
            replace BB := Lib.hid BB
            clear TT
            go_wp2_with (go_at_call 10; apply Calls.mono; (with_reducible apply same_t); (repeat (first | assumption | (with_reducible (apply Nb.rd; assumption)) | (with_reducible (apply Rb.at_later; assumption)) | (with_reducible (apply Tabs.at_later; assumption)) | (with_reducible apply Rb.alloc) | (with_reducible apply Tabs.alloc) | (with_reducible apply Rb.drew) | (with_reducible apply Tabs.drew) | (show I64 _; unfold I64; omega) | omega)); (first | exact sameV_self _ | (decide +kernel)); rintro e wn ⟨rfl, hb⟩; replace BB := Lib.hid (below_step BB.out hb); replace O4 := O4.step hb; replace O5 := O5.step hb; replace O9 := O9.step hb; replace O10 := O10.step hb; replace O11 := O11.step hb; replace O20 := O20.step hb; replace O22 := O22.step hb; replace O25 := O25.step hb; replace O27 := O27.step hb; replace r0 := r0.step hb; replace r1 := r1.step hb; replace r9 := r9.step hb; replace r10 := r10.step hb; replace r11 := r11.step hb; replace r20 := r20.step hb; replace r22 := r22.step hb; replace r25 := r25.step hb; replace r27 := r27.step hb; clear hb qO40 qO41 qO50 qO51 qO90 qO91 qO100 qO101 qO110 qO111 qO200 qO201 qO220 qO221 qO250 qO251 qO270 qO271; have qO40 := O4.cell 0; have qO41 := O4.cell 1; have qO50 := O5.cell 0; have qO51 := O5.cell 1; have qO90 := O9.cell 0; have qO91 := O9.cell 1; have qO100 := O10.cell 0; have qO101 := O10.cell 1; have qO110 := O11.cell 0; have qO111 := O11.cell 1; have qO200 := O20.cell 0; have qO201 := O20.cell 1; have qO220 := O22.cell 0; have qO221 := O22.cell 1; have qO250 := O25.cell 0; have qO251 := O25.cell 1; have qO270 := O27.cell 0; have qO271 := O27.cell 1)
            go_ret
            exact ⟨rfl, BB.out⟩
  · skip
    have HL := Lib.hid (long2_b _ A0 A1 n0 c0 n1 c1 s0 s1 hl)
    clear hl
    have q40 := O4.cell 0
    have q41 := O4.cell 1
    have q50 := O5.cell 0
    have q51 := O5.cell 1
    go_enter Tryd.func3, Tryd.ntmps3
    go_wp2_with (first | (go_at_call 5; refine (HL.out _ _ (by simp)).mono ?_; rintro e wn ⟨rfl, rfl⟩; replace O4 := O4.alloc (.cells #[.slice A0 n0 c0, .bool s0, .slice A1 n1 c1, .bool s1] 24); replace O5 := O5.alloc (.cells #[.slice A0 n0 c0, .bool s0, .slice A1 n1 c1, .bool s1] 24); replace r0 := r0.alloc (.cells #[.slice A0 n0 c0, .bool s0, .slice A1 n1 c1, .bool s1] 24); replace r1 := r1.alloc (.cells #[.slice A0 n0 c0, .bool s0, .slice A1 n1 c1, .bool s1] 24); replace TT := TT.alloc (.cells #[.slice A0 n0 c0, .bool s0, .slice A1 n1 c1, .bool s1] 24); replace BB := Lib.hid (below_new BB.out (.cells #[.slice A0 n0 c0, .bool s0, .slice A1 n1 c1, .bool s1] 24))) | (go_at_call 6; refine (awake_any _ TT).mono ?_; rintro e wn ⟨rfl, hb⟩; replace BB := Lib.hid (below_step BB.out hb)))
    go_ret
    exact ⟨rfl, BB.out⟩
end Go.Proofs.YtognpmggfplekaaDoor
