/-
  Contracts of the reference's operators with one operand. Conditions: at most 1000 bits.
-/
import Derived.Test.YtognpmggfplekaaGreatDoorPaWu
set_option maxRecDepth 100000
namespace Go.Proofs.YtognpmggfplekaaGreatDoor
open Go Go.RowKit

def redW (f : Int → Int → Int) (x : V) : Int := redU f x.l (x.l.length - 1)
def notW (x : V) : V := ⟨tab x.l.length fun i => notI (nth x.l i), x.s⟩
def unW (op : Int) (x : V) : V :=
  if op = 12 then arV fSub (allV 0 x.l.length x.s) x else if op = 13 then one1 (notI (truth x)) else
  if op = 15 then one1 (redW andI x) else if op = 16 then one1 (redW orI x) else if op = 17 then one1 (redW xorI x) else
  if op = 18 then one1 (notI (redW andI x)) else if op = 19 then one1 (notI (redW orI x)) else if op = 20 then one1 (notI (redW xorI x)) else notW x
theorem unW_one (i : Nat) (hi : i < 9) (a : V) : unW (oneOp i) (nrm a) = oneV i a := by
  have ht : truth (nrm a) = truth a := by unfold truth red; rw [nrm_nrm]
  rcases (show i = 0 ∨ i = 1 ∨ i = 2 ∨ i = 3 ∨ i = 4 ∨ i = 5 ∨ i = 6 ∨ i = 7 ∨ i = 8 by omega) with rfl | rfl | rfl | rfl | rfl | rfl | rfl | rfl | rfl
  · rfl
  · rfl
  · show one1 (notI (truth (nrm a))) = one1 (notI (truth a))
    rw [ht]
  all_goals rfl
theorem redU_nn {f : Int → Int → Int} (hf : ∀ a b, 0 ≤ f a b ∧ f a b ≤ 2) (l : List Int) (k : Nat) : 0 ≤ redU f l k := (redU_bd hf l k).1
theorem redU_next {f : Int → Int → Int} {l : List Int} {k : Nat} (hk : 1 ≤ k) : f (redU f l (k - 1)) (nth l k) = redU f l (k + 1 - 1) := by
  obtain ⟨j, rfl⟩ : ∃ j, k = j + 1 := ⟨k - 1, by omega⟩
  rfl
set_option maxHeartbeats 8000000 in
theorem rUnary_any (op : Int) (hop : op = 14 ∨ op = 12 ∨ op = 13 ∨ op = 15 ∨ op = 16 ∨ op = 17 ∨ op = 18 ∨ op = 19 ∨ op = 20) (A : Option Addr) (n c : Nat) (s : Bool) (l : List Int) (w : World) (h : Rb w A n l) (hn : n ≤ 1000) :
    Calls Tryz.prog 17 #[.int .u8 op, .agg #[.slice A n c, .bool s]] w (RetV w (unW op (nrm ⟨l, s⟩))) := by
  have O0 := ((Own.at1 w 24 #[.slice A n c, .bool s] (g := w.heap.size) (by simp)).alloc (.cells #[.slice none 0 0, .bool false] 24))
  have O1 := (Own.at1 (w.alloc (.cells #[.slice A n c, .bool s] 24)) 24 #[.slice none 0 0, .bool false] (g := w.heap.size + 1) (by simp))
  have BB := (below_new (below_new (Below.refl w.heap.size w) (.cells #[.slice A n c, .bool s] 24)) (.cells #[.slice none 0 0, .bool false] 24))
  have HN := Lib.hid (rNorm_any_w A n c s l _ (h.step BB) (by omega))
  have hlen := nrm_len ⟨l, s⟩
  have okx := nrm_ok ⟨l, s⟩
  have hnn := nrm_nn (v := ⟨l, s⟩) h.nn
  clear h
  generalize nrm ⟨l, s⟩ = x at *
  obtain ⟨lx, sx⟩ := x
  simp only at hnn okx
  obtain ⟨N, hlx⟩ : ∃ N, lx.length = N := ⟨_, rfl⟩
  simp only [hlx] at hlen
  obtain ⟨h0, hN9⟩ := hlen
  have HBF := Lib.hid (fun (u : World) => r_buf u (hnn.nth 0))
  replace hnn := Lib.hid hnn
  replace hop := Lib.hid hop
  go_enter Tryz.func17, Tryz.ntmps17
  go_wp2_with (go_at_call 93; refine HN.out.mono ?_; rintro e w1 ⟨AA, nA, cA, rfl, hcA, hnA, n1, hb1⟩; replace BB := below_step BB hb1; replace O0 := O0.step hb1; replace O1 := O1.step hb1; have qO00 := O0.cell 0; have qO01 := O0.cell 1; have fO00 := O0.free 0; have fO01 := O0.free 1)
  obtain rfl : N = nA := hlx.symm.trans n1.len
  have L1 := hb1.size
  have U0 := O0.put2 (.slice AA N cA) (.bool sx)
  have U1 := O1.far2 (g := w.heap.size) (by omega) (.slice AA N cA) (.bool sx)
  have n2 := (n1.setT O0 (by decide) 0 (.slice AA N cA)).setT (O0.put 0 _) (by decide) 1 (.bool sx)
  replace BB := below_set2 BB (Nat.le_refl _) (.slice AA N cA) (.bool sx)
  replace n2 := n2.mono (B' := w.heap.size) (by simp only [World.size_alloc]; omega)
  clear O0 O1 n1 hb1 qO00 qO01 fO00 fO01
  generalize (w1.setCell ⟨w.heap.size, 0, none⟩ (.slice AA N cA)).setCell ⟨w.heap.size, 1, none⟩ (.bool sx) = W0 at *
  obtain ⟨gA, csA, rfl, hgw, _, _⟩ := n2.own h0
  replace hgw := Lib.hid hgw
  have kq := nb_cell n2 h0
  have q00 := U0.cell 0
  have q01 := U0.cell 1
  have i0 : (0 : Int) < N := by omega
  replace hlx := Lib.hid hlx
  replace U0 := Lib.hid U0
  replace U1 := Lib.hid U1
  replace n2 := Lib.hid n2
  replace BB := Lib.hid BB
  go_wp2
  go_quiet ((go_at_call 95; first | exact quiet_more (HBF.out _) | exact Calls.quiet_of (HBF.out _)))
  all_goals go_wp2
  clear kq q00 q01 i0
  go_loopw [8, 5, 6, 7] (fun i a b c wr => ∃ k : Nat, 1 ≤ k ∧ k ≤ N ∧ i = .int .i64 k ∧ a = .int .u8 (redU andI lx (k - 1)) ∧ b = .int .u8 (redU orI lx (k - 1)) ∧ c = .int .u8 (redU xorI lx (k - 1)) ∧ Hid (Below W0.heap.size W0 wr)) (fun i _ _ _ _ => N - (intOf i).toNat)
  case atStart => exact ⟨1, Nat.le_refl _, h0, rfl, rfl, rfl, rfl, Lib.hid (below_drewN (Below.refl _ _) _)⟩
  case round =>
    obtain ⟨k, hk1, hkN, rfl, rfl, rfl, rfl, HW⟩ := hrel
    have p0 := (U0.out.step HW.out).cell 0
    by_cases hlt : k < N
    · have i0 : (0 : Int) ≤ k := by omega
      have i1 : (k : Int) < N := by omega
      have kq := nb_cell (n2.out.step HW.out) hlt
      have HA := Lib.hid (fun (u : World) => r_and u (redU_nn andI_bd lx (k - 1)) (hnn.out.nth k))
      have HO := Lib.hid (fun (u : World) => r_or u (redU_nn orI_bd lx (k - 1)) (hnn.out.nth k))
      have HX := Lib.hid (fun (u : World) => r_xor u (redU_nn xorI_bd lx (k - 1)) (hnn.out.nth k))
      have e1 := Lib.hid (redU_next (f := andI) (l := lx) hk1)
      have e2 := Lib.hid (redU_next (f := orI) (l := lx) hk1)
      have e3 := Lib.hid (redU_next (f := xorI) (l := lx) hk1)
      go_wp2_with (first | (go_at_call 96; refine (HA.out _).mono ?_; rintro e wq ⟨rfl, q_, rfl⟩) | (go_at_call 97; refine (HO.out _).mono ?_; rintro e wq ⟨rfl, q_, rfl⟩) | (go_at_call 98; refine (HX.out _).mono ?_; rintro e wq ⟨rfl, q_, rfl⟩))
      go_roundw
      case rel => exact ⟨k + 1, by omega, by omega, by go_num, congrArg (Value.int .u8) e1.out, congrArg (Value.int .u8) e2.out, congrArg (Value.int .u8) e3.out, Lib.hid (below_drewN HW.out _)⟩
      case measure => simp [intOf]; omega
    · obtain rfl : k = N := by omega
      replace U0 := U0.out.step HW.out
      replace U1 := U1.out.step HW.out
      replace n2 := n2.out.step HW.out
      replace BB := below_step BB.out HW.out
      have q00 := U0.cell 0
      have q01 := U0.cell 1
      have q10 := U1.cell 0
      have q11 := U1.cell 1
      have f10 := U1.free 0
      have f11 := U1.free 1
      clear HW p0 hlt
      obtain ⟨N, rfl⟩ : ∃ N, N = k := ⟨_, rfl⟩
      have hop' := hop.out
      clear hop
      rcases hop' with rfl | rfl | rfl | rfl | rfl | rfl | rfl | rfl | rfl
      · skip
        have e9 := Lib.hid (show (⟨pwJ (fun a _ => notI a) lx lx N N, sx⟩ : V) = unW 14 ⟨lx, sx⟩ from by rw [pwJ_all]; unfold unW notW; rw [← hlx.out]; rfl)
        rw [← pwJ_zero (f := fun a _ => notI a) (y := lx) hlx.out] at n2
        go_wp2
        go_loopw [9] (fun i wr => ∃ j : Nat, j ≤ N ∧ i = .int .i64 j ∧ Hid (Own wr (w.heap.size + 1) 24 #[.slice none 0 0, .bool false]) ∧ Hid (Own wr w.heap.size 24 #[.slice (some ⟨gA, 0, none⟩) N cA, .bool sx]) ∧ Hid (Nb wr w.heap.size (some ⟨gA, 0, none⟩) N cA (pwJ (fun a _ => notI a) lx lx j N)) ∧ Hid (Below w.heap.size w wr)) (fun i _ => N - (intOf i).toNat)
        case atStart => exact ⟨0, Nat.zero_le _, rfl, Lib.hid U1, Lib.hid U0, Lib.hid n2, Lib.hid BB⟩
        case round =>
          clear U0 U1 n2 BB q00 q01 q10 q11 f10 f11
          obtain ⟨j, hj, rfl, H3, H7, HNN, HB⟩ := hrel
          have p0 := H7.out.cell 0
          have p1 := H7.out.cell 1
          by_cases hlt : j < N
          · have i1 : (j : Int) < N := by omega
            have hS0 : owns (w.heap.size + 1) #[.slice none 0 0, .bool false] wr.drew ∧ (owns w.heap.size #[.slice (some ⟨gA, 0, none⟩) N cA, .bool sx] wr.drew ∧ blw w wr.drew) := ⟨H3.out, H7.out, HB.out.drew⟩
            have hP1 : nbs w.heap.size (some ⟨gA, 0, none⟩) N cA (pwJ (fun a _ => notI a) lx lx j N) wr.drew := HNN.out
            have hnx := pwJ_at (f := fun a _ => notI a) (x := lx) (y := lx) hlt
            have hstep := Lib.hid (pwJ_next (f := fun a _ => notI a) (x := lx) (y := lx) hlt)
            have hx0 := hnn.out.nth j
            have hF1 := (notI_bd (nth lx j)).1
            haveI : Over w gA := ⟨by have := hgw.out; omega⟩
            clear H3 H7 HNN HB
            go_wp2
            refine region_k (by kernel_rfl) (fun u => owns (w.heap.size + 1) #[.slice none 0 0, .bool false] u ∧ (owns w.heap.size #[.slice (some ⟨gA, 0, none⟩) N cA, .bool sx] u ∧ blw w u)) [tru, tru, tru, tru, tru, tru, tru, tru, tru, tru, nbs w.heap.size (some ⟨gA, 0, none⟩) N cA (pwJ (fun a _ => notI a) lx lx j N)] [isV (.pointer (some ⟨w.heap.size, 0, none⟩)), isV (.slice (some ⟨gA, 0, none⟩) N cA), isV (.int .i64 j), isV (.pointer (some ⟨w.heap.size, 0, none⟩)), isV (.slice (some ⟨gA, 0, none⟩) N cA), isV (.int .i64 j), isV (.pointer (some ⟨gA, 0 + j, none⟩)), isV (.int .u8 (nth lx j)), isV (.int .u8 (notI (nth lx j))), isV (.pointer (some ⟨gA, j, none⟩)), rowV w.heap.size gA N cA ((pwJ (fun a _ => notI a) lx lx j N).set j (notI (nth lx j)))] [some 106, some 107, some 108, some 109, some 110, some 111, some 112, some 113, some 114, some 115, none] [[], [0], [], [], [3], [], [4, 5], [6], [7], [1, 2, 0, 1, 2, 3, 4, 5, 6, 7, 8], [9, 8, 8, 0, 1, 2, 3, 4, 5, 6, 7, 8]] [[], [0], [], [], [3], [], [4, 5], [6], [7], [1, 2], [9, 8]] [[], [], [], [], [], [], [], [], [], [], []] [[], [], [], [], [], [], [], [], [], [], []] (by kernel_rfl) (by kernel_rfl) (by kernel_rfl) (by kernel_rfl) (by kernel_rfl) rfl (by kernel_rfl) (by kernel_rfl) (by kernel_rfl) hS0 (by
              intro U hU
              simp only [List.mem_cons, List.not_mem_nil, or_false] at hU
              rcases hU with rfl | rfl | rfl | rfl | rfl | rfl | rfl | rfl | rfl | rfl | rfl
              all_goals first | trivial | exact hP1) ?_ ?_
            · refine ⟨?_, ?_, ?_, ?_, ?_, ?_, ?_, ?_, ?_, ?_, ?_, trivial⟩
              · intro a w' hS hO hF' hP K hK; have ha := hO 3 (by rfl); refine if_ok (by rfl) ?_; refine wp_fa0 _ rfl (ev ha) ?_; exact hK _ w' nofun (keepK_same hS) rfl
              · intro a w' hS hO hF' hP K hK; obtain ⟨_, f0, rfl⟩ := (hF' 0 rfl).1 106 _ rfl rfl; refine if_ok (by rfl) ?_; refine wp_ldS _ rfl (ev f0) (hS.2.1.cell 0) ?_; exact hK _ w' nofun (keepK_same hS) rfl
              · intro a w' hS hO hF' hP K hK; have ha := hO 9 (by rfl); refine if_ok (by rfl) ?_; unfold Oper.wp execOp; simp only [Sem.run_pure, ev ha]; exact hK _ w' nofun (keepK_same hS) rfl
              · intro a w' hS hO hF' hP K hK; have ha := hO 3 (by rfl); refine if_ok (by rfl) ?_; refine wp_fa0 _ rfl (ev ha) ?_; exact hK _ w' nofun (keepK_same hS) rfl
              · intro a w' hS hO hF' hP K hK; obtain ⟨_, f0, rfl⟩ := (hF' 3 rfl).1 109 _ rfl rfl; refine if_ok (by rfl) ?_; refine wp_ldS _ rfl (ev f0) (hS.2.1.cell 0) ?_; exact hK _ w' nofun (keepK_same hS) rfl
              · intro a w' hS hO hF' hP K hK; have ha := hO 9 (by rfl); refine if_ok (by rfl) ?_; unfold Oper.wp execOp; simp only [Sem.run_pure, ev ha]; exact hK _ w' nofun (keepK_same hS) rfl
              · intro a w' hS hO hF' hP K hK; obtain ⟨_, f0, rfl⟩ := (hF' 4 rfl).1 110 _ rfl rfl; obtain ⟨_, f1, rfl⟩ := (hF' 5 rfl).1 111 _ rfl rfl; refine if_ok (by rfl) ?_; refine wp_ix _ _ rfl (ev f0) (ev f1) hlt ?_; exact hK _ w' nofun (keepK_same hS) rfl
              · intro a w' hS hO hF' hP K hK; have hN := hP 10 _ (by rfl) rfl; obtain ⟨_, f0, rfl⟩ := (hF' 6 rfl).1 112 _ rfl rfl; refine if_ok (by rfl) ?_; refine wp_ldU _ rfl (ev f0) (row_cell hN hlt hnx) ?_; exact hK _ w' nofun (keepK_same hS) rfl
              · intro a w' hS hO hF' hP K hK; obtain ⟨_, f0, rfl⟩ := (hF' 7 rfl).1 113 _ rfl rfl; refine if_ok (by rfl) ?_; refine wp_calls rfl (enters_of Tryz.func100 (by kernel_rfl) rfl) (args := #[.int .u8 (nth lx j)]) (by simp [Act.eval, f0]) ?_; refine (r_not _ hx0).mono ?_; rintro e w2 ⟨rfl, q, rfl⟩; exact ⟨_, rfl, hK _ _ nofun (keepK_below (below_drewN (Below.refl _ _) q) hS) rfl⟩
              · intro a w' hS hO hF' hP K hK; obtain ⟨_, f0, rfl⟩ := (hF' 1 rfl).1 107 _ rfl rfl; obtain ⟨_, f1, rfl⟩ := (hF' 2 rfl).1 108 _ rfl rfl; refine if_ok (by rfl) ?_; refine wp_ix _ _ rfl (ev f0) (ev f1) hlt ?_; rw [Nat.zero_add]; exact hK _ w' nofun (keepK_same hS) rfl
              · intro a w' hS hO hF' hP K hK; obtain ⟨_, f0, rfl⟩ := (hF' 9 rfl).1 115 _ rfl rfl; obtain ⟨_, f1, rfl⟩ := (hF' 8 rfl).1 114 _ rfl rfl; have hN := hP 10 _ (by rfl) rfl; obtain ⟨cs, O, _⟩ := hN.own1 (by omega); refine if_ok (by rfl) ?_; refine wp_stU _ _ rfl (ev f0) (ev f1) hN hlt ?_; exact hK _ _ (fun _ => rfl) (keepK_bit O inferInstance ⟨inferInstance, inferInstance, inferInstance, inferInstance, inferInstance, inferInstance, inferInstance, inferInstance, inferInstance, inferInstance, trivial⟩ ⟨inferInstance, inferInstance, inferInstance, inferInstance, inferInstance, inferInstance, inferInstance, inferInstance, inferInstance, inferInstance, trivial⟩ hS) (hN.put hlt hF1)
            · intro vs u hl hS hV
              match vs, hl, hV with
              | [v0, v1, v2, v3, v4, v5, v6, v7, v8, v9, v10], _, hV =>
                simp only [puts, Act.put, List.setIfInBounds_toArray, List.set_cons_zero, List.set_cons_succ]
                have hN9 := hV 10 _ rfl rfl
                have h3 := hS.1
                have h7 := hS.2.1
                have hb := hS.2.2
                clear hV hS
                go_wp2
                go_roundw
                case rel => exact ⟨j + 1, by omega, by go_num, Lib.hid h3, Lib.hid h7, Lib.hid (by rw [hstep.out]; exact hN9), Lib.hid hb⟩
                case measure => simp [intOf]; omega
          · obtain rfl : j = N := by omega
            have g0 := H3.out.cell 0
            have g1 := H3.out.cell 1
            have g2 := H3.out.free 0
            have g3 := H3.out.free 1
            have HNo := HNN.out
            have HBo := HB.out
            have hlj : (pwJ (fun a _ => notI a) lx lx j j).length = j := tab_len _ _
            replace hlj := Lib.hid hlj
            clear hlt
            go_wp2
            exact ret_vec Tryz.results17 rfl rfl (H3.out.put2 _ _) (e9.out ▸ mk_ret (v := ⟨pwJ (fun a _ => notI a) lx lx j j, sx⟩) ((HNo.setT H3.out (by decide) 0 _).setT (H3.out.put 0 _) (by decide) 1 _) (below_set2 HBo (by omega) _ _))
      · have e9 := Lib.hid (show (arV fSub (allV 0 N sx) ⟨lx, sx⟩ : V) = unW 12 ⟨lx, sx⟩ from by unfold unW; rw [← hlx.out]; rfl)
        haveI : Apart (w.heap.size + 1) w.heap.size := ⟨by omega⟩
        haveI : Over w (w.heap.size + 1) := ⟨by omega⟩
        go_wp2
        clear q00 q01 q10 q11 f10 f11
        refine region_y (by kernel_rfl) (fun u => owns w.heap.size #[.slice (some ⟨gA, 0, none⟩) N cA, .bool sx] u ∧ (rds (some ⟨gA, 0, none⟩) N lx u ∧ blw w u)) [tru, tru, tru, tru, tru, tru, tru, tru, owns (w.heap.size + 1) #[.slice none 0 0, .bool false]] [isV (.pointer (some ⟨w.heap.size, 0, none⟩)), isV (.slice (some ⟨gA, 0, none⟩) N cA), isV (.int .i64 N), isV (.pointer (some ⟨w.heap.size, 1, none⟩)), isV (.bool sx), isNX w.heap.size (allV 0 N sx : V), isV (.agg #[.slice (some ⟨gA, 0, none⟩) N cA, .bool sx]), isNX w.heap.size (arV fSub (allV 0 N sx) ⟨lx, sx⟩ : V), didX w.heap.size (w.heap.size + 1) (arV fSub (allV 0 N sx) ⟨lx, sx⟩ : V)] [some 58, some 59, some 60, some 61, some 62, some 63, some 64, some 65, none] [[], [0], [1], [], [3], [2, 4], [], [5, 6, 5], [7, 7, 0, 1, 2, 3, 4, 5, 6, 7]] (by kernel_rfl) (by kernel_rfl) rfl (by kernel_rfl) (by kernel_rfl) (by kernel_rfl) ⟨U0.drew, n2.rd.drew, below_drew BB⟩ (by
          intro U hU
          simp only [List.mem_cons, List.not_mem_nil, or_false] at hU
          rcases hU with rfl | rfl | rfl | rfl | rfl | rfl | rfl | rfl | rfl
          all_goals first | trivial | exact U1.drew) ?_ ?_
        · refine ⟨?_, ?_, ?_, ?_, ?_, ?_, ?_, ?_, ?_, trivial⟩
          · intro a w' hS hO hF' hP K hK; have ha := hO 3 (by rfl); refine if_ok (by rfl) ?_; refine wp_fa0 _ rfl (ev ha) ?_; exact hK _ w' nofun (keep_same hS) rfl
          · intro a w' hS hO hF' hP K hK; obtain ⟨_, f0, rfl⟩ := (hF' 0 rfl).1 58 _ rfl rfl; refine if_ok (by rfl) ?_; refine wp_ldS _ rfl (ev f0) (hS.1.cell 0) ?_; exact hK _ w' nofun (keep_same hS) rfl
          · intro a w' hS hO hF' hP K hK; obtain ⟨_, f0, rfl⟩ := (hF' 1 rfl).1 59 _ rfl rfl; refine if_ok (by rfl) ?_; refine wp_len _ rfl (ev f0) ?_; exact hK _ w' nofun (keep_same hS) rfl
          · intro a w' hS hO hF' hP K hK; have ha := hO 3 (by rfl); refine if_ok (by rfl) ?_; refine wp_fa1 _ rfl (ev ha) ?_; exact hK _ w' nofun (keep_same hS) rfl
          · intro a w' hS hO hF' hP K hK; obtain ⟨_, f0, rfl⟩ := (hF' 3 rfl).1 61 _ rfl rfl; refine if_ok (by rfl) ?_; refine wp_ldB _ rfl (ev f0) (hS.1.cell 1) ?_; exact hK _ w' nofun (keep_same hS) rfl
          · intro a w' hS hO hF' hP K hK; obtain ⟨_, f1, rfl⟩ := (hF' 2 rfl).1 60 _ rfl rfl; obtain ⟨_, f2, rfl⟩ := (hF' 4 rfl).1 62 _ rfl rfl; refine if_ok (by rfl) ?_; refine wp_calls rfl (enters_of Tryz.func53 (by kernel_rfl) rfl) (args := #[(.int .u8 (0)), (.int .i64 N), (.bool sx)]) (by simp [Act.eval, f1, f2]) ?_; obtain ⟨U0, r1, BB⟩ := id hS; have hz := BB.size; refine ((rFill_n 0 N sx w' (by decide) (by omega)).mono fun _ _ q => q.w (by rw [len_all]; exact hN9)).mono ?_; rintro e w2 ⟨A, n, c, rfl, hc, hn, hN, hb⟩; exact ⟨_, rfl, hK _ w2 nofun (keep_below hb hS) ⟨A, n, c, rfl, hc, hn, hN.mono hz⟩⟩
          · intro a w' hS hO hF' hP K hK; have ha := hO 3 (by rfl); refine if_ok (by rfl) ?_; refine wp_load_row 24 (.tmp 3) rfl w.heap.size (ev ha) _ _ (0, 0) _ hS.1 Tryz.underlying24 rfl (by kernel_rfl) ?_; exact hK _ w' nofun (keep_same hS) rfl
          · intro a w' hS hO hF' hP K hK; obtain ⟨_, f1, A1, n1, c1, rfl, hc1, hn1, hr1⟩ := (hF' 5 rfl).1 63 _ rfl rfl; obtain ⟨_, f2, rfl⟩ := (hF' 6 rfl).1 64 _ rfl rfl; refine if_ok (by rfl) ?_; refine wp_calls rfl (enters_of Tryz.func20 (by kernel_rfl) rfl) (args := #[(.int .u8 (22)), (.agg #[.slice A1 n1 c1, .bool (allV 0 N sx : V).s]), (.agg #[.slice (some ⟨gA, 0, none⟩) N cA, .bool sx])]) (by simp [Act.eval, f1, f2]) ?_; obtain ⟨U0, r1, BB⟩ := id hS; have hz := BB.size; refine ((rbin_ar 22 fSub _ _ _ _ _ _ _ _ _ _ _ hr1.rd r1 (by omega) (by omega) (.inr (.inl ⟨rfl, rfl⟩))).mono fun _ _ q => q.w (len_ar _ _ _)).mono ?_; rintro e w2 ⟨A, n, c, rfl, hc, hn, hN, hb⟩; exact ⟨_, rfl, hK _ w2 nofun (keep_below hb hS) ⟨A, n, c, rfl, hc, hn, hN.mono hz⟩⟩
          · intro a w' hS hO hF' hP K hK; have O := hP 8 _ rfl rfl; have ha := hO 4 (by rfl); obtain ⟨_, f0, A0, n0, c0, rfl, hc0, hn0, hr0⟩ := (hF' 7 rfl).1 65 _ rfl rfl; refine if_ok (by rfl) ?_; refine wp_store_row _ _ _ rfl (w.heap.size + 1) _ (ev ha) (ev f0) _ _ O vec_size rfl (by simp [Value.oneCell']) ?_; exact hK _ _ (fun _ => rfl) (keep_store O inferInstance ⟨inferInstance, inferInstance, inferInstance, inferInstance, inferInstance, inferInstance, inferInstance, inferInstance, trivial⟩ ⟨inferInstance, inferInstance, inferInstance, inferInstance, inferInstance, inferInstance, inferInstance, inferInstance, trivial⟩ hS) ⟨A0, n0, c0, Own.row O, hc0, hn0, hr0.row O⟩
        · intro vs u hl hS hV
          match vs, hl, hV with
          | [v0, v1, v2, v3, v4, v5, v6, v7, v8], _, hV =>
            obtain rfl := hV 0 _ rfl
            obtain rfl := hV 1 _ rfl
            obtain rfl := hV 2 _ rfl
            obtain rfl := hV 3 _ rfl
            obtain rfl := hV 4 _ rfl
            obtain ⟨A5, nn5, c5, rfl, hc5, hnn5, hN5⟩ := hV 5 _ rfl
            obtain rfl := hV 6 _ rfl
            obtain ⟨A7, nn7, c7, rfl, hc7, hnn7, hN7⟩ := hV 7 _ rfl
            obtain ⟨A8, nn8, c8, O8, hc8, hnn8, hN8⟩ := hV 8 _ rfl
            simp only [puts, Act.put, List.setIfInBounds_toArray, List.set_cons_zero, List.set_cons_succ]
            obtain ⟨U0, r1, BB⟩ := hS
            clear hV
            replace U0 : Own u w.heap.size 24 #[.slice (some ⟨gA, 0, none⟩) N cA, .bool sx] := U0
            replace r1 : Rb u (some ⟨gA, 0, none⟩) N lx := r1
            replace BB : Below w.heap.size w u := BB
            go_wp2
            exact ret_vec Tryz.results17 rfl rfl O8 (e9.out ▸ mk_ret (v := (arV fSub (allV 0 N sx) ⟨lx, sx⟩ : V)) hN8 BB)
      · have HTR := Lib.hid (fun (u : World) (h : Rb u (some ⟨gA, 0, none⟩) N lx) => rTruth_any _ N cA sx lx u h (by omega))
        have HNt := Lib.hid (fun (u : World) => r_not u (truth_bd0 ⟨lx, sx⟩))
        have HS := Lib.hid (fun (u : World) => rSingle_w (notI (truth ⟨lx, sx⟩)) u (notI_bd _).1)
        have e9 := Lib.hid (show (one1 (notI (truth ⟨lx, sx⟩)) : V) = unW 13 ⟨lx, sx⟩ from rfl)
        generalize truth ⟨lx, sx⟩ = tt at *
        go_wp2_with (first
          | (go_at_call 36; refine (HTR.out _ n2.rd).mono ?_; rintro e w7 ⟨rfl, hb⟩; replace BB := below_step BB hb; replace U1 := U1.step hb)
          | (go_at_call 100; refine (HNt.out _).mono ?_; rintro e wq ⟨rfl, q_, rfl⟩)
          | (go_at_call 99; refine (HS.out _).mono ?_; rintro e w9 ⟨A9, n9_, c9, rfl, _, _, n9, hb9⟩; have L2 := U1.lt; have W2 := (U1.drewN _).step hb9; have qW20 := W2.cell 0; have qW21 := W2.cell 1; have fW20 := W2.free 0; have fW21 := W2.free 1))
        exact ret_vec Tryz.results17 rfl rfl (W2.put2 _ _) (e9.out ▸ mk_ret (v := one1 (notI tt)) ((n9.far2 L2 _ _).mono BB.size) (below_set2 (below_step (below_drewN BB _) hb9) (by omega) _ _))
      · have HS := Lib.hid (fun (u : World) => rSingle_w (redU andI lx (N - 1)) u (redU_nn andI_bd lx _))
        have e9 := Lib.hid (show (one1 (redU andI lx (N - 1)) : V) = unW 15 ⟨lx, sx⟩ from by unfold unW redW; rw [← hlx.out]; rfl)
        generalize redU andI lx (N - 1) = tt at *
        go_wp2_with (go_at_call 99; refine (HS.out _).mono ?_; rintro e w9 ⟨A9, n9_, c9, rfl, _, _, n9, hb9⟩; have L2 := U1.lt; have W2 := U1.step hb9; have qW20 := W2.cell 0; have qW21 := W2.cell 1; have fW20 := W2.free 0; have fW21 := W2.free 1)
        exact ret_vec Tryz.results17 rfl rfl (W2.put2 _ _) (e9.out ▸ mk_ret (v := one1 tt) ((n9.far2 L2 _ _).mono BB.size) (below_set2 (below_step BB hb9) (by omega) _ _))
      · have HS := Lib.hid (fun (u : World) => rSingle_w (redU orI lx (N - 1)) u (redU_nn orI_bd lx _))
        have e9 := Lib.hid (show (one1 (redU orI lx (N - 1)) : V) = unW 16 ⟨lx, sx⟩ from by unfold unW redW; rw [← hlx.out]; rfl)
        generalize redU orI lx (N - 1) = tt at *
        go_wp2_with (go_at_call 99; refine (HS.out _).mono ?_; rintro e w9 ⟨A9, n9_, c9, rfl, _, _, n9, hb9⟩; have L2 := U1.lt; have W2 := U1.step hb9; have qW20 := W2.cell 0; have qW21 := W2.cell 1; have fW20 := W2.free 0; have fW21 := W2.free 1)
        exact ret_vec Tryz.results17 rfl rfl (W2.put2 _ _) (e9.out ▸ mk_ret (v := one1 tt) ((n9.far2 L2 _ _).mono BB.size) (below_set2 (below_step BB hb9) (by omega) _ _))
      · have HS := Lib.hid (fun (u : World) => rSingle_w (redU xorI lx (N - 1)) u (redU_nn xorI_bd lx _))
        have e9 := Lib.hid (show (one1 (redU xorI lx (N - 1)) : V) = unW 17 ⟨lx, sx⟩ from by unfold unW redW; rw [← hlx.out]; rfl)
        generalize redU xorI lx (N - 1) = tt at *
        go_wp2_with (go_at_call 99; refine (HS.out _).mono ?_; rintro e w9 ⟨A9, n9_, c9, rfl, _, _, n9, hb9⟩; have L2 := U1.lt; have W2 := U1.step hb9; have qW20 := W2.cell 0; have qW21 := W2.cell 1; have fW20 := W2.free 0; have fW21 := W2.free 1)
        exact ret_vec Tryz.results17 rfl rfl (W2.put2 _ _) (e9.out ▸ mk_ret (v := one1 tt) ((n9.far2 L2 _ _).mono BB.size) (below_set2 (below_step BB hb9) (by omega) _ _))
      · have HS := Lib.hid (fun (u : World) => rSingle_w (notI (redU andI lx (N - 1))) u (notI_bd _).1)
        have e9 := Lib.hid (show (one1 (notI (redU andI lx (N - 1))) : V) = unW 18 ⟨lx, sx⟩ from by unfold unW redW; rw [← hlx.out]; rfl)
        have HNt := Lib.hid (fun (u : World) => r_not u (redU_nn andI_bd lx (N - 1)))
        generalize redU andI lx (N - 1) = tt at *
        go_wp2_with (first | (go_at_call 100; refine (HNt.out _).mono ?_; rintro e wq ⟨rfl, q_, rfl⟩) | (go_at_call 99; refine (HS.out _).mono ?_; rintro e w9 ⟨A9, n9_, c9, rfl, _, _, n9, hb9⟩; have L2 := U1.lt; have W2 := (U1.drewN _).step hb9; have qW20 := W2.cell 0; have qW21 := W2.cell 1; have fW20 := W2.free 0; have fW21 := W2.free 1))
        exact ret_vec Tryz.results17 rfl rfl (W2.put2 _ _) (e9.out ▸ mk_ret (v := one1 (notI tt)) ((n9.far2 L2 _ _).mono BB.size) (below_set2 (below_step (below_drewN BB _) hb9) (by omega) _ _))
      · have HS := Lib.hid (fun (u : World) => rSingle_w (notI (redU orI lx (N - 1))) u (notI_bd _).1)
        have e9 := Lib.hid (show (one1 (notI (redU orI lx (N - 1))) : V) = unW 19 ⟨lx, sx⟩ from by unfold unW redW; rw [← hlx.out]; rfl)
        have HNt := Lib.hid (fun (u : World) => r_not u (redU_nn orI_bd lx (N - 1)))
        generalize redU orI lx (N - 1) = tt at *
        go_wp2_with (first | (go_at_call 100; refine (HNt.out _).mono ?_; rintro e wq ⟨rfl, q_, rfl⟩) | (go_at_call 99; refine (HS.out _).mono ?_; rintro e w9 ⟨A9, n9_, c9, rfl, _, _, n9, hb9⟩; have L2 := U1.lt; have W2 := (U1.drewN _).step hb9; have qW20 := W2.cell 0; have qW21 := W2.cell 1; have fW20 := W2.free 0; have fW21 := W2.free 1))
        exact ret_vec Tryz.results17 rfl rfl (W2.put2 _ _) (e9.out ▸ mk_ret (v := one1 (notI tt)) ((n9.far2 L2 _ _).mono BB.size) (below_set2 (below_step (below_drewN BB _) hb9) (by omega) _ _))
      · have HS := Lib.hid (fun (u : World) => rSingle_w (notI (redU xorI lx (N - 1))) u (notI_bd _).1)
        have e9 := Lib.hid (show (one1 (notI (redU xorI lx (N - 1))) : V) = unW 20 ⟨lx, sx⟩ from by unfold unW redW; rw [← hlx.out]; rfl)
        have HNt := Lib.hid (fun (u : World) => r_not u (redU_nn xorI_bd lx (N - 1)))
        generalize redU xorI lx (N - 1) = tt at *
        go_wp2_with (first | (go_at_call 100; refine (HNt.out _).mono ?_; rintro e wq ⟨rfl, q_, rfl⟩) | (go_at_call 99; refine (HS.out _).mono ?_; rintro e w9 ⟨A9, n9_, c9, rfl, _, _, n9, hb9⟩; have L2 := U1.lt; have W2 := (U1.drewN _).step hb9; have qW20 := W2.cell 0; have qW21 := W2.cell 1; have fW20 := W2.free 0; have fW21 := W2.free 1))
        exact ret_vec Tryz.results17 rfl rfl (W2.put2 _ _) (e9.out ▸ mk_ret (v := one1 (notI tt)) ((n9.far2 L2 _ _).mono BB.size) (below_set2 (below_step (below_drewN BB _) hb9) (by omega) _ _))
end Go.Proofs.YtognpmggfplekaaGreatDoor
