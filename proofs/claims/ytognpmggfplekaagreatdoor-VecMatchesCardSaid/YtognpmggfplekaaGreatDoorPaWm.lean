/-
  Contracts of the reference's pairwise. Conditions: the first row is the caller's to write.
-/
import Derived.Test.YtognpmggfplekaaGreatDoorPaWx
set_option maxRecDepth 100000
namespace Go.Proofs.YtognpmggfplekaaGreatDoor
open Go Go.RowKit

theorem mk_ret {W u : World} {v : V} {A : Option Addr} {n c : Nat} (hN : Nb u W.heap.size A n c v.l) (hB : Below W.heap.size W u) : RetV W v (.returned (.agg #[.slice A n c, .bool v.s])) u := RetV.mk' hN hB
set_option maxHeartbeats 4000000 in
theorem rpw_and (W : World) (A1 A2 : Option Addr) (N c1 c2 : Nat) (sy : Bool) (lx ly : List Int) (w : World) (hW : Below W.heap.size W w) (n1 : Nb w W.heap.size A1 N c1 lx) (n2 : Nb w W.heap.size A2 N c2 ly) (h0 : 0 < N) (hN : N ≤ 128) :
    Calls Tryz.prog 104 #[.int .u8 37, .agg #[.slice A1 N c1, .bool sy], .agg #[.slice A2 N c2, .bool sy]] w (RetV W ⟨tab N fun i => andI (nth lx i) (nth ly i), sy⟩) := by
  obtain ⟨gA, csA, rfl, hgw, OA, _⟩ := n1.own h0
  obtain ⟨gB, csB, rfl, hgB, _⟩ := n2.own h0
  have O0 := (((Own.at1 w 24 #[.slice (some ⟨gA, 0, none⟩) N c1, .bool sy] (g := w.heap.size) (by simp)).alloc (.cells #[.slice (some ⟨gB, 0, none⟩) N c2, .bool sy] 24)).alloc (.cells #[.slice none 0 0, .bool false] 24))
  have O1 := ((Own.at1 (w.alloc (.cells #[.slice (some ⟨gA, 0, none⟩) N c1, .bool sy] 24)) 24 #[.slice (some ⟨gB, 0, none⟩) N c2, .bool sy] (g := w.heap.size + 1) (by simp)).alloc (.cells #[.slice none 0 0, .bool false] 24))
  have O2 := (Own.at1 ((w.alloc (.cells #[.slice (some ⟨gA, 0, none⟩) N c1, .bool sy] 24)).alloc (.cells #[.slice (some ⟨gB, 0, none⟩) N c2, .bool sy] 24)) 24 #[.slice none 0 0, .bool false] (g := w.heap.size + 1 + 1) (by simp))
  have BB := (below_new (below_new (below_new (Below.refl w.heap.size w) (.cells #[.slice (some ⟨gA, 0, none⟩) N c1, .bool sy] 24)) (.cells #[.slice (some ⟨gB, 0, none⟩) N c2, .bool sy] 24)) (.cells #[.slice none 0 0, .bool false] 24))
  have hlx := n1.len
  have NA := n1.step BB
  rw [← pwJ_zero (f := andI) (y := ly) hlx] at NA
  have RB : rdj gB N ly 0 (((w.alloc (.cells #[.slice (some ⟨gA, 0, none⟩) N c1, .bool sy] 24)).alloc (.cells #[.slice (some ⟨gB, 0, none⟩) N c2, .bool sy] 24)).alloc (.cells #[.slice none 0 0, .bool false] 24)) := fun i _ hi => by
    obtain ⟨b, o, e, _, hc⟩ := (n2.rd.step BB).at_ hi
    have e1 := Option.some.inj e
    simp only [Addr.mk.injEq, and_true] at e1
    obtain ⟨rfl, rfl⟩ := e1
    exact hc
  have hnx1 := n1.nn
  have hny1 := n2.nn
  have BW := hW.trans (BB.mono hW.size)
  rw [← pwJ_all]
  have q00 := O0.cell 0
  have q01 := O0.cell 1
  have q10 := O1.cell 0
  have q11 := O1.cell 1
  replace hlx := Lib.hid hlx
  have LW := Lib.hid hW.size
  clear n1 n2 OA BB hgB hW
  replace BW := Lib.hid BW
  go_enter Tryz.func104, Tryz.ntmps104
  go_wp2
  go_loopw [7] (fun i wr => ∃ (j : Nat), j ≤ N ∧ i = .int .i64 j ∧ Hid (Own wr (w.heap.size + 1 + 1) 24 #[.slice none 0 0, .bool false]) ∧ Hid (Own wr w.heap.size 24 #[.slice (some ⟨gA, 0, none⟩) N c1, .bool sy]) ∧ Hid (Own wr (w.heap.size + 1) 24 #[.slice (some ⟨gB, 0, none⟩) N c2, .bool sy]) ∧ Hid (Nb wr W.heap.size (some ⟨gA, 0, none⟩) N c1 (pwJ andI lx ly j N)) ∧ Hid (rdj gB N ly j wr ∧ Below W.heap.size W wr)) (fun i _ => N - (intOf i).toNat)
  case atStart => exact ⟨0, Nat.zero_le _, rfl, Lib.hid O2, Lib.hid O0, Lib.hid O1, Lib.hid NA, Lib.hid ⟨RB, BW.out⟩⟩
  case round =>
    clear O0 O1 O2 NA RB BW q00 q01 q10 q11
    obtain ⟨j, hj, rfl, H3, H7, H8, HN, HB⟩ := hrel
    have p0 := H7.out.cell 0
    have p1 := H7.out.cell 1
    by_cases hlt : j < N
    · have i1 : (j : Int) < N := by omega
      have hS0 : owns (w.heap.size + 1 + 1) #[.slice none 0 0, .bool false] wr.drew ∧ (owns w.heap.size #[.slice (some ⟨gA, 0, none⟩) N c1, .bool sy] wr.drew ∧ (owns (w.heap.size + 1) #[.slice (some ⟨gB, 0, none⟩) N c2, .bool sy] wr.drew ∧ (rdj gB N ly (j + 1) wr.drew ∧ blw W wr.drew))) := ⟨H3.out, H7.out, H8.out, fun i h1 h2 => HB.out.1 i (by omega) h2, HB.out.2.drew⟩
      have hP1 : nbs W.heap.size (some ⟨gA, 0, none⟩) N c1 (pwJ andI lx ly j N) wr.drew ∧ cel gB (0 + j) (.int .u8 (nth ly j)) wr.drew := ⟨HN.out, HB.out.1 j (Nat.le_refl _) hlt⟩
      have hnx := pwJ_at (f := andI) (x := lx) (y := ly) hlt
      have hstep := Lib.hid (pwJ_next (f := andI) (x := lx) (y := ly) hlt)
      have hx0 := hnx1.nth j
      have hy0 := hny1.nth j
      have hF1 := (andI_bd (nth lx j) (nth ly j)).1
      haveI : Over W gA := ⟨hgw⟩
      clear H3 H7 H8 HN HB
      go_wp2
      refine region_k (by kernel_rfl) (fun u => owns (w.heap.size + 1 + 1) #[.slice none 0 0, .bool false] u ∧ (owns w.heap.size #[.slice (some ⟨gA, 0, none⟩) N c1, .bool sy] u ∧ (owns (w.heap.size + 1) #[.slice (some ⟨gB, 0, none⟩) N c2, .bool sy] u ∧ (rdj gB N ly (j + 1) u ∧ blw W u)))) [tru, tru, tru, tru, tru, tru, tru, tru, tru, tru, tru, tru, tru, tru, tru, (fun u => nbs W.heap.size (some ⟨gA, 0, none⟩) N c1 (pwJ andI lx ly j N) u ∧ cel gB (0 + j) (.int .u8 (nth ly j)) u)] [isV (.pointer (some ⟨w.heap.size, 0, none⟩)), isV (.slice (some ⟨gA, 0, none⟩) N c1), isV (.int .i64 j), isV (.pointer (some ⟨w.heap.size, 0, none⟩)), isV (.slice (some ⟨gA, 0, none⟩) N c1), isV (.int .i64 j), isV (.pointer (some ⟨gA, 0 + j, none⟩)), isV (.int .u8 (nth lx j)), isV (.pointer (some ⟨(w.heap.size + 1), 0, none⟩)), isV (.slice (some ⟨gB, 0, none⟩) N c2), isV (.int .i64 j), isV (.pointer (some ⟨gB, 0 + j, none⟩)), isV (.int .u8 (nth ly j)), isV (.int .u8 (andI (nth lx j) (nth ly j))), isV (.pointer (some ⟨gA, j, none⟩)), rowV W.heap.size gA N c1 ((pwJ andI lx ly j N).set j (andI (nth lx j) (nth ly j)))] [some 33, some 34, some 35, some 36, some 37, some 38, some 39, some 40, some 41, some 42, some 43, some 44, some 45, some 46, some 47, none] [[], [0], [], [], [3], [], [4, 5], [6], [], [8], [], [9, 10], [11], [7, 12], [1, 2, 0, 1, 2, 3, 4, 5, 6, 7, 8, 9, 10, 11, 12, 13], [14, 13, 13, 0, 1, 2, 3, 4, 5, 6, 7, 8, 9, 10, 11, 12, 13]] [[], [0], [], [], [3], [], [4, 5], [6], [], [8], [], [9, 10], [11], [7, 12], [1, 2], [14, 13]] [[], [], [], [], [], [], [], [], [], [], [], [], [], [], [], []] [[], [], [], [], [], [], [], [], [], [], [], [], [], [], [], []] (by kernel_rfl) (by kernel_rfl) (by kernel_rfl) (by kernel_rfl) (by kernel_rfl) rfl (by kernel_rfl) (by kernel_rfl) (by kernel_rfl) hS0 (by
        intro U hU
        simp only [List.mem_cons, List.not_mem_nil, or_false] at hU
        rcases hU with rfl | rfl | rfl | rfl | rfl | rfl | rfl | rfl | rfl | rfl | rfl | rfl | rfl | rfl | rfl | rfl
        all_goals first | trivial | exact hP1) ?_ ?_
      · refine ⟨?_, ?_, ?_, ?_, ?_, ?_, ?_, ?_, ?_, ?_, ?_, ?_, ?_, ?_, ?_, ?_, trivial⟩
        · intro a w' hS hO hF' hP K hK; have ha := hO 4 (by rfl); refine if_ok (by rfl) ?_; refine wp_fa0 _ rfl (ev ha) ?_; exact hK _ w' nofun (keepK_same hS) rfl
        · intro a w' hS hO hF' hP K hK; obtain ⟨_, f0, rfl⟩ := (hF' 0 rfl).1 33 _ rfl rfl; refine if_ok (by rfl) ?_; refine wp_ldS _ rfl (ev f0) (hS.2.1.cell 0) ?_; exact hK _ w' nofun (keepK_same hS) rfl
        · intro a w' hS hO hF' hP K hK; have ha := hO 7 (by rfl); refine if_ok (by rfl) ?_; unfold Oper.wp execOp; simp only [Sem.run_pure, ev ha]; exact hK _ w' nofun (keepK_same hS) rfl
        · intro a w' hS hO hF' hP K hK; have ha := hO 4 (by rfl); refine if_ok (by rfl) ?_; refine wp_fa0 _ rfl (ev ha) ?_; exact hK _ w' nofun (keepK_same hS) rfl
        · intro a w' hS hO hF' hP K hK; obtain ⟨_, f0, rfl⟩ := (hF' 3 rfl).1 36 _ rfl rfl; refine if_ok (by rfl) ?_; refine wp_ldS _ rfl (ev f0) (hS.2.1.cell 0) ?_; exact hK _ w' nofun (keepK_same hS) rfl
        · intro a w' hS hO hF' hP K hK; have ha := hO 7 (by rfl); refine if_ok (by rfl) ?_; unfold Oper.wp execOp; simp only [Sem.run_pure, ev ha]; exact hK _ w' nofun (keepK_same hS) rfl
        · intro a w' hS hO hF' hP K hK; obtain ⟨_, f0, rfl⟩ := (hF' 4 rfl).1 37 _ rfl rfl; obtain ⟨_, f1, rfl⟩ := (hF' 5 rfl).1 38 _ rfl rfl; refine if_ok (by rfl) ?_; refine wp_ix _ _ rfl (ev f0) (ev f1) hlt ?_; exact hK _ w' nofun (keepK_same hS) rfl
        · intro a w' hS hO hF' hP K hK; have hN := (hP 15 _ (by rfl) rfl).1; obtain ⟨_, f0, rfl⟩ := (hF' 6 rfl).1 39 _ rfl rfl; refine if_ok (by rfl) ?_; refine wp_ldU _ rfl (ev f0) (row_cell hN hlt hnx) ?_; exact hK _ w' nofun (keepK_same hS) rfl
        · intro a w' hS hO hF' hP K hK; have ha := hO 5 (by rfl); refine if_ok (by rfl) ?_; refine wp_fa0 _ rfl (ev ha) ?_; exact hK _ w' nofun (keepK_same hS) rfl
        · intro a w' hS hO hF' hP K hK; obtain ⟨_, f0, rfl⟩ := (hF' 8 rfl).1 41 _ rfl rfl; refine if_ok (by rfl) ?_; refine wp_ldS _ rfl (ev f0) (hS.2.2.1.cell 0) ?_; exact hK _ w' nofun (keepK_same hS) rfl
        · intro a w' hS hO hF' hP K hK; have ha := hO 7 (by rfl); refine if_ok (by rfl) ?_; unfold Oper.wp execOp; simp only [Sem.run_pure, ev ha]; exact hK _ w' nofun (keepK_same hS) rfl
        · intro a w' hS hO hF' hP K hK; obtain ⟨_, f0, rfl⟩ := (hF' 9 rfl).1 42 _ rfl rfl; obtain ⟨_, f1, rfl⟩ := (hF' 10 rfl).1 43 _ rfl rfl; refine if_ok (by rfl) ?_; refine wp_ix _ _ rfl (ev f0) (ev f1) hlt ?_; exact hK _ w' nofun (keepK_same hS) rfl
        · intro a w' hS hO hF' hP K hK; have hY := (hP 15 _ (by rfl) rfl).2; obtain ⟨_, f0, rfl⟩ := (hF' 11 rfl).1 44 _ rfl rfl; refine if_ok (by rfl) ?_; refine wp_ldU _ rfl (ev f0) hY ?_; exact hK _ w' nofun (keepK_same hS) rfl
        · intro a w' hS hO hF' hP K hK; obtain ⟨_, f0, rfl⟩ := (hF' 7 rfl).1 40 _ rfl rfl; obtain ⟨_, f1, rfl⟩ := (hF' 12 rfl).1 45 _ rfl rfl; refine if_ok (by rfl) ?_; refine wp_calls rfl (enters_of Tryz.func96 (by kernel_rfl) rfl) (args := #[.int .u8 (nth lx j), .int .u8 (nth ly j)]) (by simp [Act.eval, f0, f1]) ?_; refine (r_and _ hx0 hy0).mono ?_; rintro e w2 ⟨rfl, q, rfl⟩; exact ⟨_, rfl, hK _ _ nofun (keepK_below (below_drewN (Below.refl _ _) q) hS) rfl⟩
        · intro a w' hS hO hF' hP K hK; obtain ⟨_, f0, rfl⟩ := (hF' 1 rfl).1 34 _ rfl rfl; obtain ⟨_, f1, rfl⟩ := (hF' 2 rfl).1 35 _ rfl rfl; refine if_ok (by rfl) ?_; refine wp_ix _ _ rfl (ev f0) (ev f1) hlt ?_; rw [Nat.zero_add]; exact hK _ w' nofun (keepK_same hS) rfl
        · intro a w' hS hO hF' hP K hK; obtain ⟨_, f0, rfl⟩ := (hF' 14 rfl).1 47 _ rfl rfl; obtain ⟨_, f1, rfl⟩ := (hF' 13 rfl).1 46 _ rfl rfl; have hN := (hP 15 _ (by rfl) rfl).1; obtain ⟨cs, O, _⟩ := hN.own1 (by omega); refine if_ok (by rfl) ?_; refine wp_stU _ _ rfl (ev f0) (ev f1) hN hlt ?_; exact hK _ _ (fun _ => rfl) (keepK_bit O inferInstance ⟨inferInstance, inferInstance, inferInstance, inferInstance, inferInstance, inferInstance, inferInstance, inferInstance, inferInstance, inferInstance, inferInstance, inferInstance, inferInstance, inferInstance, inferInstance, trivial⟩ ⟨inferInstance, inferInstance, inferInstance, inferInstance, inferInstance, inferInstance, inferInstance, inferInstance, inferInstance, inferInstance, inferInstance, inferInstance, inferInstance, inferInstance, inferInstance, trivial⟩ hS) (hN.put hlt hF1)
      · intro vs u hl hS hV
        match vs, hl, hV with
        | [v0, v1, v2, v3, v4, v5, v6, v7, v8, v9, v10, v11, v12, v13, v14, v15], _, hV =>
          simp only [puts, Act.put, List.setIfInBounds_toArray, List.set_cons_zero, List.set_cons_succ]
          have hN9 := hV 15 _ rfl rfl
          have h3 := hS.1
          have h7 := hS.2.1
          have h8 := hS.2.2.1
          have hr := hS.2.2.2.1
          have hb := hS.2.2.2.2
          clear hV hS
          go_wp2
          go_roundw
          case rel => exact ⟨j + 1, by omega, by go_num, Lib.hid h3, Lib.hid h7, Lib.hid h8, Lib.hid (by rw [hstep.out]; exact hN9), Lib.hid ⟨hr, hb⟩⟩
          case measure => simp [intOf]; omega
    · obtain rfl : j = N := by omega
      have g0 := H3.out.cell 0
      have g1 := H3.out.cell 1
      have g2 := H3.out.free 0
      have g3 := H3.out.free 1
      have HNo := HN.out
      have HBo := HB.out.2
      have hlj : (pwJ andI lx ly j j).length = j := tab_len _ _
      replace hlj := Lib.hid hlj
      clear hlt
      go_wp2
      exact ret_vec Tryz.results104 rfl rfl (H3.out.put2 _ _) (mk_ret (v := ⟨pwJ andI lx ly j j, sy⟩) ((HNo.setT H3.out (by decide) 0 _).setT (H3.out.put 0 _) (by decide) 1 _) (below_set2 HBo (by have := LW.out; omega) _ _))
set_option maxHeartbeats 4000000 in
theorem rpw_or (W : World) (A1 A2 : Option Addr) (N c1 c2 : Nat) (sy : Bool) (lx ly : List Int) (w : World) (hW : Below W.heap.size W w) (n1 : Nb w W.heap.size A1 N c1 lx) (n2 : Nb w W.heap.size A2 N c2 ly) (h0 : 0 < N) (hN : N ≤ 128) :
    Calls Tryz.prog 104 #[.int .u8 38, .agg #[.slice A1 N c1, .bool sy], .agg #[.slice A2 N c2, .bool sy]] w (RetV W ⟨tab N fun i => orI (nth lx i) (nth ly i), sy⟩) := by
  obtain ⟨gA, csA, rfl, hgw, OA, _⟩ := n1.own h0
  obtain ⟨gB, csB, rfl, hgB, _⟩ := n2.own h0
  have O0 := (((Own.at1 w 24 #[.slice (some ⟨gA, 0, none⟩) N c1, .bool sy] (g := w.heap.size) (by simp)).alloc (.cells #[.slice (some ⟨gB, 0, none⟩) N c2, .bool sy] 24)).alloc (.cells #[.slice none 0 0, .bool false] 24))
  have O1 := ((Own.at1 (w.alloc (.cells #[.slice (some ⟨gA, 0, none⟩) N c1, .bool sy] 24)) 24 #[.slice (some ⟨gB, 0, none⟩) N c2, .bool sy] (g := w.heap.size + 1) (by simp)).alloc (.cells #[.slice none 0 0, .bool false] 24))
  have O2 := (Own.at1 ((w.alloc (.cells #[.slice (some ⟨gA, 0, none⟩) N c1, .bool sy] 24)).alloc (.cells #[.slice (some ⟨gB, 0, none⟩) N c2, .bool sy] 24)) 24 #[.slice none 0 0, .bool false] (g := w.heap.size + 1 + 1) (by simp))
  have BB := (below_new (below_new (below_new (Below.refl w.heap.size w) (.cells #[.slice (some ⟨gA, 0, none⟩) N c1, .bool sy] 24)) (.cells #[.slice (some ⟨gB, 0, none⟩) N c2, .bool sy] 24)) (.cells #[.slice none 0 0, .bool false] 24))
  have hlx := n1.len
  have NA := n1.step BB
  rw [← pwJ_zero (f := orI) (y := ly) hlx] at NA
  have RB : rdj gB N ly 0 (((w.alloc (.cells #[.slice (some ⟨gA, 0, none⟩) N c1, .bool sy] 24)).alloc (.cells #[.slice (some ⟨gB, 0, none⟩) N c2, .bool sy] 24)).alloc (.cells #[.slice none 0 0, .bool false] 24)) := fun i _ hi => by
    obtain ⟨b, o, e, _, hc⟩ := (n2.rd.step BB).at_ hi
    have e1 := Option.some.inj e
    simp only [Addr.mk.injEq, and_true] at e1
    obtain ⟨rfl, rfl⟩ := e1
    exact hc
  have hnx1 := n1.nn
  have hny1 := n2.nn
  have BW := hW.trans (BB.mono hW.size)
  rw [← pwJ_all]
  have q00 := O0.cell 0
  have q01 := O0.cell 1
  have q10 := O1.cell 0
  have q11 := O1.cell 1
  replace hlx := Lib.hid hlx
  have LW := Lib.hid hW.size
  clear n1 n2 OA BB hgB hW
  replace BW := Lib.hid BW
  go_enter Tryz.func104, Tryz.ntmps104
  go_wp2
  go_loopw [7] (fun i wr => ∃ (j : Nat), j ≤ N ∧ i = .int .i64 j ∧ Hid (Own wr (w.heap.size + 1 + 1) 24 #[.slice none 0 0, .bool false]) ∧ Hid (Own wr w.heap.size 24 #[.slice (some ⟨gA, 0, none⟩) N c1, .bool sy]) ∧ Hid (Own wr (w.heap.size + 1) 24 #[.slice (some ⟨gB, 0, none⟩) N c2, .bool sy]) ∧ Hid (Nb wr W.heap.size (some ⟨gA, 0, none⟩) N c1 (pwJ orI lx ly j N)) ∧ Hid (rdj gB N ly j wr ∧ Below W.heap.size W wr)) (fun i _ => N - (intOf i).toNat)
  case atStart => exact ⟨0, Nat.zero_le _, rfl, Lib.hid O2, Lib.hid O0, Lib.hid O1, Lib.hid NA, Lib.hid ⟨RB, BW.out⟩⟩
  case round =>
    clear O0 O1 O2 NA RB BW q00 q01 q10 q11
    obtain ⟨j, hj, rfl, H3, H7, H8, HN, HB⟩ := hrel
    have p0 := H7.out.cell 0
    have p1 := H7.out.cell 1
    by_cases hlt : j < N
    · have i1 : (j : Int) < N := by omega
      have hS0 : owns (w.heap.size + 1 + 1) #[.slice none 0 0, .bool false] wr.drew ∧ (owns w.heap.size #[.slice (some ⟨gA, 0, none⟩) N c1, .bool sy] wr.drew ∧ (owns (w.heap.size + 1) #[.slice (some ⟨gB, 0, none⟩) N c2, .bool sy] wr.drew ∧ (rdj gB N ly (j + 1) wr.drew ∧ blw W wr.drew))) := ⟨H3.out, H7.out, H8.out, fun i h1 h2 => HB.out.1 i (by omega) h2, HB.out.2.drew⟩
      have hP1 : nbs W.heap.size (some ⟨gA, 0, none⟩) N c1 (pwJ orI lx ly j N) wr.drew ∧ cel gB (0 + j) (.int .u8 (nth ly j)) wr.drew := ⟨HN.out, HB.out.1 j (Nat.le_refl _) hlt⟩
      have hnx := pwJ_at (f := orI) (x := lx) (y := ly) hlt
      have hstep := Lib.hid (pwJ_next (f := orI) (x := lx) (y := ly) hlt)
      have hx0 := hnx1.nth j
      have hy0 := hny1.nth j
      have hF1 := (orI_bd (nth lx j) (nth ly j)).1
      haveI : Over W gA := ⟨hgw⟩
      clear H3 H7 H8 HN HB
      go_wp2
      refine region_k (by kernel_rfl) (fun u => owns (w.heap.size + 1 + 1) #[.slice none 0 0, .bool false] u ∧ (owns w.heap.size #[.slice (some ⟨gA, 0, none⟩) N c1, .bool sy] u ∧ (owns (w.heap.size + 1) #[.slice (some ⟨gB, 0, none⟩) N c2, .bool sy] u ∧ (rdj gB N ly (j + 1) u ∧ blw W u)))) [tru, tru, tru, tru, tru, tru, tru, tru, tru, tru, tru, tru, tru, tru, tru, (fun u => nbs W.heap.size (some ⟨gA, 0, none⟩) N c1 (pwJ orI lx ly j N) u ∧ cel gB (0 + j) (.int .u8 (nth ly j)) u)] [isV (.pointer (some ⟨w.heap.size, 0, none⟩)), isV (.slice (some ⟨gA, 0, none⟩) N c1), isV (.int .i64 j), isV (.pointer (some ⟨w.heap.size, 0, none⟩)), isV (.slice (some ⟨gA, 0, none⟩) N c1), isV (.int .i64 j), isV (.pointer (some ⟨gA, 0 + j, none⟩)), isV (.int .u8 (nth lx j)), isV (.pointer (some ⟨(w.heap.size + 1), 0, none⟩)), isV (.slice (some ⟨gB, 0, none⟩) N c2), isV (.int .i64 j), isV (.pointer (some ⟨gB, 0 + j, none⟩)), isV (.int .u8 (nth ly j)), isV (.int .u8 (orI (nth lx j) (nth ly j))), isV (.pointer (some ⟨gA, j, none⟩)), rowV W.heap.size gA N c1 ((pwJ orI lx ly j N).set j (orI (nth lx j) (nth ly j)))] [some 50, some 51, some 52, some 53, some 54, some 55, some 56, some 57, some 58, some 59, some 60, some 61, some 62, some 63, some 64, none] [[], [0], [], [], [3], [], [4, 5], [6], [], [8], [], [9, 10], [11], [7, 12], [1, 2, 0, 1, 2, 3, 4, 5, 6, 7, 8, 9, 10, 11, 12, 13], [14, 13, 13, 0, 1, 2, 3, 4, 5, 6, 7, 8, 9, 10, 11, 12, 13]] [[], [0], [], [], [3], [], [4, 5], [6], [], [8], [], [9, 10], [11], [7, 12], [1, 2], [14, 13]] [[], [], [], [], [], [], [], [], [], [], [], [], [], [], [], []] [[], [], [], [], [], [], [], [], [], [], [], [], [], [], [], []] (by kernel_rfl) (by kernel_rfl) (by kernel_rfl) (by kernel_rfl) (by kernel_rfl) rfl (by kernel_rfl) (by kernel_rfl) (by kernel_rfl) hS0 (by
        intro U hU
        simp only [List.mem_cons, List.not_mem_nil, or_false] at hU
        rcases hU with rfl | rfl | rfl | rfl | rfl | rfl | rfl | rfl | rfl | rfl | rfl | rfl | rfl | rfl | rfl | rfl
        all_goals first | trivial | exact hP1) ?_ ?_
      · refine ⟨?_, ?_, ?_, ?_, ?_, ?_, ?_, ?_, ?_, ?_, ?_, ?_, ?_, ?_, ?_, ?_, trivial⟩
        · intro a w' hS hO hF' hP K hK; have ha := hO 4 (by rfl); refine if_ok (by rfl) ?_; refine wp_fa0 _ rfl (ev ha) ?_; exact hK _ w' nofun (keepK_same hS) rfl
        · intro a w' hS hO hF' hP K hK; obtain ⟨_, f0, rfl⟩ := (hF' 0 rfl).1 50 _ rfl rfl; refine if_ok (by rfl) ?_; refine wp_ldS _ rfl (ev f0) (hS.2.1.cell 0) ?_; exact hK _ w' nofun (keepK_same hS) rfl
        · intro a w' hS hO hF' hP K hK; have ha := hO 7 (by rfl); refine if_ok (by rfl) ?_; unfold Oper.wp execOp; simp only [Sem.run_pure, ev ha]; exact hK _ w' nofun (keepK_same hS) rfl
        · intro a w' hS hO hF' hP K hK; have ha := hO 4 (by rfl); refine if_ok (by rfl) ?_; refine wp_fa0 _ rfl (ev ha) ?_; exact hK _ w' nofun (keepK_same hS) rfl
        · intro a w' hS hO hF' hP K hK; obtain ⟨_, f0, rfl⟩ := (hF' 3 rfl).1 53 _ rfl rfl; refine if_ok (by rfl) ?_; refine wp_ldS _ rfl (ev f0) (hS.2.1.cell 0) ?_; exact hK _ w' nofun (keepK_same hS) rfl
        · intro a w' hS hO hF' hP K hK; have ha := hO 7 (by rfl); refine if_ok (by rfl) ?_; unfold Oper.wp execOp; simp only [Sem.run_pure, ev ha]; exact hK _ w' nofun (keepK_same hS) rfl
        · intro a w' hS hO hF' hP K hK; obtain ⟨_, f0, rfl⟩ := (hF' 4 rfl).1 54 _ rfl rfl; obtain ⟨_, f1, rfl⟩ := (hF' 5 rfl).1 55 _ rfl rfl; refine if_ok (by rfl) ?_; refine wp_ix _ _ rfl (ev f0) (ev f1) hlt ?_; exact hK _ w' nofun (keepK_same hS) rfl
        · intro a w' hS hO hF' hP K hK; have hN := (hP 15 _ (by rfl) rfl).1; obtain ⟨_, f0, rfl⟩ := (hF' 6 rfl).1 56 _ rfl rfl; refine if_ok (by rfl) ?_; refine wp_ldU _ rfl (ev f0) (row_cell hN hlt hnx) ?_; exact hK _ w' nofun (keepK_same hS) rfl
        · intro a w' hS hO hF' hP K hK; have ha := hO 5 (by rfl); refine if_ok (by rfl) ?_; refine wp_fa0 _ rfl (ev ha) ?_; exact hK _ w' nofun (keepK_same hS) rfl
        · intro a w' hS hO hF' hP K hK; obtain ⟨_, f0, rfl⟩ := (hF' 8 rfl).1 58 _ rfl rfl; refine if_ok (by rfl) ?_; refine wp_ldS _ rfl (ev f0) (hS.2.2.1.cell 0) ?_; exact hK _ w' nofun (keepK_same hS) rfl
        · intro a w' hS hO hF' hP K hK; have ha := hO 7 (by rfl); refine if_ok (by rfl) ?_; unfold Oper.wp execOp; simp only [Sem.run_pure, ev ha]; exact hK _ w' nofun (keepK_same hS) rfl
        · intro a w' hS hO hF' hP K hK; obtain ⟨_, f0, rfl⟩ := (hF' 9 rfl).1 59 _ rfl rfl; obtain ⟨_, f1, rfl⟩ := (hF' 10 rfl).1 60 _ rfl rfl; refine if_ok (by rfl) ?_; refine wp_ix _ _ rfl (ev f0) (ev f1) hlt ?_; exact hK _ w' nofun (keepK_same hS) rfl
        · intro a w' hS hO hF' hP K hK; have hY := (hP 15 _ (by rfl) rfl).2; obtain ⟨_, f0, rfl⟩ := (hF' 11 rfl).1 61 _ rfl rfl; refine if_ok (by rfl) ?_; refine wp_ldU _ rfl (ev f0) hY ?_; exact hK _ w' nofun (keepK_same hS) rfl
        · intro a w' hS hO hF' hP K hK; obtain ⟨_, f0, rfl⟩ := (hF' 7 rfl).1 57 _ rfl rfl; obtain ⟨_, f1, rfl⟩ := (hF' 12 rfl).1 62 _ rfl rfl; refine if_ok (by rfl) ?_; refine wp_calls rfl (enters_of Tryz.func97 (by kernel_rfl) rfl) (args := #[.int .u8 (nth lx j), .int .u8 (nth ly j)]) (by simp [Act.eval, f0, f1]) ?_; refine (r_or _ hx0 hy0).mono ?_; rintro e w2 ⟨rfl, q, rfl⟩; exact ⟨_, rfl, hK _ _ nofun (keepK_below (below_drewN (Below.refl _ _) q) hS) rfl⟩
        · intro a w' hS hO hF' hP K hK; obtain ⟨_, f0, rfl⟩ := (hF' 1 rfl).1 51 _ rfl rfl; obtain ⟨_, f1, rfl⟩ := (hF' 2 rfl).1 52 _ rfl rfl; refine if_ok (by rfl) ?_; refine wp_ix _ _ rfl (ev f0) (ev f1) hlt ?_; rw [Nat.zero_add]; exact hK _ w' nofun (keepK_same hS) rfl
        · intro a w' hS hO hF' hP K hK; obtain ⟨_, f0, rfl⟩ := (hF' 14 rfl).1 64 _ rfl rfl; obtain ⟨_, f1, rfl⟩ := (hF' 13 rfl).1 63 _ rfl rfl; have hN := (hP 15 _ (by rfl) rfl).1; obtain ⟨cs, O, _⟩ := hN.own1 (by omega); refine if_ok (by rfl) ?_; refine wp_stU _ _ rfl (ev f0) (ev f1) hN hlt ?_; exact hK _ _ (fun _ => rfl) (keepK_bit O inferInstance ⟨inferInstance, inferInstance, inferInstance, inferInstance, inferInstance, inferInstance, inferInstance, inferInstance, inferInstance, inferInstance, inferInstance, inferInstance, inferInstance, inferInstance, inferInstance, trivial⟩ ⟨inferInstance, inferInstance, inferInstance, inferInstance, inferInstance, inferInstance, inferInstance, inferInstance, inferInstance, inferInstance, inferInstance, inferInstance, inferInstance, inferInstance, inferInstance, trivial⟩ hS) (hN.put hlt hF1)
      · intro vs u hl hS hV
        match vs, hl, hV with
        | [v0, v1, v2, v3, v4, v5, v6, v7, v8, v9, v10, v11, v12, v13, v14, v15], _, hV =>
          simp only [puts, Act.put, List.setIfInBounds_toArray, List.set_cons_zero, List.set_cons_succ]
          have hN9 := hV 15 _ rfl rfl
          have h3 := hS.1
          have h7 := hS.2.1
          have h8 := hS.2.2.1
          have hr := hS.2.2.2.1
          have hb := hS.2.2.2.2
          clear hV hS
          go_wp2
          go_roundw
          case rel => exact ⟨j + 1, by omega, by go_num, Lib.hid h3, Lib.hid h7, Lib.hid h8, Lib.hid (by rw [hstep.out]; exact hN9), Lib.hid ⟨hr, hb⟩⟩
          case measure => simp [intOf]; omega
    · obtain rfl : j = N := by omega
      have g0 := H3.out.cell 0
      have g1 := H3.out.cell 1
      have g2 := H3.out.free 0
      have g3 := H3.out.free 1
      have HNo := HN.out
      have HBo := HB.out.2
      have hlj : (pwJ orI lx ly j j).length = j := tab_len _ _
      replace hlj := Lib.hid hlj
      clear hlt
      go_wp2
      exact ret_vec Tryz.results104 rfl rfl (H3.out.put2 _ _) (mk_ret (v := ⟨pwJ orI lx ly j j, sy⟩) ((HNo.setT H3.out (by decide) 0 _).setT (H3.out.put 0 _) (by decide) 1 _) (below_set2 HBo (by have := LW.out; omega) _ _))
set_option maxHeartbeats 4000000 in
theorem rpw_xor (W : World) (A1 A2 : Option Addr) (N c1 c2 : Nat) (sy : Bool) (lx ly : List Int) (w : World) (hW : Below W.heap.size W w) (n1 : Nb w W.heap.size A1 N c1 lx) (n2 : Nb w W.heap.size A2 N c2 ly) (h0 : 0 < N) (hN : N ≤ 128) :
    Calls Tryz.prog 104 #[.int .u8 39, .agg #[.slice A1 N c1, .bool sy], .agg #[.slice A2 N c2, .bool sy]] w (RetV W ⟨tab N fun i => xorI (nth lx i) (nth ly i), sy⟩) := by
  obtain ⟨gA, csA, rfl, hgw, OA, _⟩ := n1.own h0
  obtain ⟨gB, csB, rfl, hgB, _⟩ := n2.own h0
  have O0 := (((Own.at1 w 24 #[.slice (some ⟨gA, 0, none⟩) N c1, .bool sy] (g := w.heap.size) (by simp)).alloc (.cells #[.slice (some ⟨gB, 0, none⟩) N c2, .bool sy] 24)).alloc (.cells #[.slice none 0 0, .bool false] 24))
  have O1 := ((Own.at1 (w.alloc (.cells #[.slice (some ⟨gA, 0, none⟩) N c1, .bool sy] 24)) 24 #[.slice (some ⟨gB, 0, none⟩) N c2, .bool sy] (g := w.heap.size + 1) (by simp)).alloc (.cells #[.slice none 0 0, .bool false] 24))
  have O2 := (Own.at1 ((w.alloc (.cells #[.slice (some ⟨gA, 0, none⟩) N c1, .bool sy] 24)).alloc (.cells #[.slice (some ⟨gB, 0, none⟩) N c2, .bool sy] 24)) 24 #[.slice none 0 0, .bool false] (g := w.heap.size + 1 + 1) (by simp))
  have BB := (below_new (below_new (below_new (Below.refl w.heap.size w) (.cells #[.slice (some ⟨gA, 0, none⟩) N c1, .bool sy] 24)) (.cells #[.slice (some ⟨gB, 0, none⟩) N c2, .bool sy] 24)) (.cells #[.slice none 0 0, .bool false] 24))
  have hlx := n1.len
  have NA := n1.step BB
  rw [← pwJ_zero (f := xorI) (y := ly) hlx] at NA
  have RB : rdj gB N ly 0 (((w.alloc (.cells #[.slice (some ⟨gA, 0, none⟩) N c1, .bool sy] 24)).alloc (.cells #[.slice (some ⟨gB, 0, none⟩) N c2, .bool sy] 24)).alloc (.cells #[.slice none 0 0, .bool false] 24)) := fun i _ hi => by
    obtain ⟨b, o, e, _, hc⟩ := (n2.rd.step BB).at_ hi
    have e1 := Option.some.inj e
    simp only [Addr.mk.injEq, and_true] at e1
    obtain ⟨rfl, rfl⟩ := e1
    exact hc
  have hnx1 := n1.nn
  have hny1 := n2.nn
  have BW := hW.trans (BB.mono hW.size)
  rw [← pwJ_all]
  have q00 := O0.cell 0
  have q01 := O0.cell 1
  have q10 := O1.cell 0
  have q11 := O1.cell 1
  replace hlx := Lib.hid hlx
  have LW := Lib.hid hW.size
  clear n1 n2 OA BB hgB hW
  replace BW := Lib.hid BW
  go_enter Tryz.func104, Tryz.ntmps104
  go_wp2
  go_loopw [7] (fun i wr => ∃ (j : Nat), j ≤ N ∧ i = .int .i64 j ∧ Hid (Own wr (w.heap.size + 1 + 1) 24 #[.slice none 0 0, .bool false]) ∧ Hid (Own wr w.heap.size 24 #[.slice (some ⟨gA, 0, none⟩) N c1, .bool sy]) ∧ Hid (Own wr (w.heap.size + 1) 24 #[.slice (some ⟨gB, 0, none⟩) N c2, .bool sy]) ∧ Hid (Nb wr W.heap.size (some ⟨gA, 0, none⟩) N c1 (pwJ xorI lx ly j N)) ∧ Hid (rdj gB N ly j wr ∧ Below W.heap.size W wr)) (fun i _ => N - (intOf i).toNat)
  case atStart => exact ⟨0, Nat.zero_le _, rfl, Lib.hid O2, Lib.hid O0, Lib.hid O1, Lib.hid NA, Lib.hid ⟨RB, BW.out⟩⟩
  case round =>
    clear O0 O1 O2 NA RB BW q00 q01 q10 q11
    obtain ⟨j, hj, rfl, H3, H7, H8, HN, HB⟩ := hrel
    have p0 := H7.out.cell 0
    have p1 := H7.out.cell 1
    by_cases hlt : j < N
    · have i1 : (j : Int) < N := by omega
      have hS0 : owns (w.heap.size + 1 + 1) #[.slice none 0 0, .bool false] wr.drew ∧ (owns w.heap.size #[.slice (some ⟨gA, 0, none⟩) N c1, .bool sy] wr.drew ∧ (owns (w.heap.size + 1) #[.slice (some ⟨gB, 0, none⟩) N c2, .bool sy] wr.drew ∧ (rdj gB N ly (j + 1) wr.drew ∧ blw W wr.drew))) := ⟨H3.out, H7.out, H8.out, fun i h1 h2 => HB.out.1 i (by omega) h2, HB.out.2.drew⟩
      have hP1 : nbs W.heap.size (some ⟨gA, 0, none⟩) N c1 (pwJ xorI lx ly j N) wr.drew ∧ cel gB (0 + j) (.int .u8 (nth ly j)) wr.drew := ⟨HN.out, HB.out.1 j (Nat.le_refl _) hlt⟩
      have hnx := pwJ_at (f := xorI) (x := lx) (y := ly) hlt
      have hstep := Lib.hid (pwJ_next (f := xorI) (x := lx) (y := ly) hlt)
      have hx0 := hnx1.nth j
      have hy0 := hny1.nth j
      have hF1 := (xorI_bd (nth lx j) (nth ly j)).1
      haveI : Over W gA := ⟨hgw⟩
      clear H3 H7 H8 HN HB
      go_wp2
      refine region_k (by kernel_rfl) (fun u => owns (w.heap.size + 1 + 1) #[.slice none 0 0, .bool false] u ∧ (owns w.heap.size #[.slice (some ⟨gA, 0, none⟩) N c1, .bool sy] u ∧ (owns (w.heap.size + 1) #[.slice (some ⟨gB, 0, none⟩) N c2, .bool sy] u ∧ (rdj gB N ly (j + 1) u ∧ blw W u)))) [tru, tru, tru, tru, tru, tru, tru, tru, tru, tru, tru, tru, tru, tru, tru, (fun u => nbs W.heap.size (some ⟨gA, 0, none⟩) N c1 (pwJ xorI lx ly j N) u ∧ cel gB (0 + j) (.int .u8 (nth ly j)) u)] [isV (.pointer (some ⟨w.heap.size, 0, none⟩)), isV (.slice (some ⟨gA, 0, none⟩) N c1), isV (.int .i64 j), isV (.pointer (some ⟨w.heap.size, 0, none⟩)), isV (.slice (some ⟨gA, 0, none⟩) N c1), isV (.int .i64 j), isV (.pointer (some ⟨gA, 0 + j, none⟩)), isV (.int .u8 (nth lx j)), isV (.pointer (some ⟨(w.heap.size + 1), 0, none⟩)), isV (.slice (some ⟨gB, 0, none⟩) N c2), isV (.int .i64 j), isV (.pointer (some ⟨gB, 0 + j, none⟩)), isV (.int .u8 (nth ly j)), isV (.int .u8 (xorI (nth lx j) (nth ly j))), isV (.pointer (some ⟨gA, j, none⟩)), rowV W.heap.size gA N c1 ((pwJ xorI lx ly j N).set j (xorI (nth lx j) (nth ly j)))] [some 67, some 68, some 69, some 70, some 71, some 72, some 73, some 74, some 75, some 76, some 77, some 78, some 79, some 80, some 81, none] [[], [0], [], [], [3], [], [4, 5], [6], [], [8], [], [9, 10], [11], [7, 12], [1, 2, 0, 1, 2, 3, 4, 5, 6, 7, 8, 9, 10, 11, 12, 13], [14, 13, 13, 0, 1, 2, 3, 4, 5, 6, 7, 8, 9, 10, 11, 12, 13]] [[], [0], [], [], [3], [], [4, 5], [6], [], [8], [], [9, 10], [11], [7, 12], [1, 2], [14, 13]] [[], [], [], [], [], [], [], [], [], [], [], [], [], [], [], []] [[], [], [], [], [], [], [], [], [], [], [], [], [], [], [], []] (by kernel_rfl) (by kernel_rfl) (by kernel_rfl) (by kernel_rfl) (by kernel_rfl) rfl (by kernel_rfl) (by kernel_rfl) (by kernel_rfl) hS0 (by
        intro U hU
        simp only [List.mem_cons, List.not_mem_nil, or_false] at hU
        rcases hU with rfl | rfl | rfl | rfl | rfl | rfl | rfl | rfl | rfl | rfl | rfl | rfl | rfl | rfl | rfl | rfl
        all_goals first | trivial | exact hP1) ?_ ?_
      · refine ⟨?_, ?_, ?_, ?_, ?_, ?_, ?_, ?_, ?_, ?_, ?_, ?_, ?_, ?_, ?_, ?_, trivial⟩
        · intro a w' hS hO hF' hP K hK; have ha := hO 4 (by rfl); refine if_ok (by rfl) ?_; refine wp_fa0 _ rfl (ev ha) ?_; exact hK _ w' nofun (keepK_same hS) rfl
        · intro a w' hS hO hF' hP K hK; obtain ⟨_, f0, rfl⟩ := (hF' 0 rfl).1 67 _ rfl rfl; refine if_ok (by rfl) ?_; refine wp_ldS _ rfl (ev f0) (hS.2.1.cell 0) ?_; exact hK _ w' nofun (keepK_same hS) rfl
        · intro a w' hS hO hF' hP K hK; have ha := hO 7 (by rfl); refine if_ok (by rfl) ?_; unfold Oper.wp execOp; simp only [Sem.run_pure, ev ha]; exact hK _ w' nofun (keepK_same hS) rfl
        · intro a w' hS hO hF' hP K hK; have ha := hO 4 (by rfl); refine if_ok (by rfl) ?_; refine wp_fa0 _ rfl (ev ha) ?_; exact hK _ w' nofun (keepK_same hS) rfl
        · intro a w' hS hO hF' hP K hK; obtain ⟨_, f0, rfl⟩ := (hF' 3 rfl).1 70 _ rfl rfl; refine if_ok (by rfl) ?_; refine wp_ldS _ rfl (ev f0) (hS.2.1.cell 0) ?_; exact hK _ w' nofun (keepK_same hS) rfl
        · intro a w' hS hO hF' hP K hK; have ha := hO 7 (by rfl); refine if_ok (by rfl) ?_; unfold Oper.wp execOp; simp only [Sem.run_pure, ev ha]; exact hK _ w' nofun (keepK_same hS) rfl
        · intro a w' hS hO hF' hP K hK; obtain ⟨_, f0, rfl⟩ := (hF' 4 rfl).1 71 _ rfl rfl; obtain ⟨_, f1, rfl⟩ := (hF' 5 rfl).1 72 _ rfl rfl; refine if_ok (by rfl) ?_; refine wp_ix _ _ rfl (ev f0) (ev f1) hlt ?_; exact hK _ w' nofun (keepK_same hS) rfl
        · intro a w' hS hO hF' hP K hK; have hN := (hP 15 _ (by rfl) rfl).1; obtain ⟨_, f0, rfl⟩ := (hF' 6 rfl).1 73 _ rfl rfl; refine if_ok (by rfl) ?_; refine wp_ldU _ rfl (ev f0) (row_cell hN hlt hnx) ?_; exact hK _ w' nofun (keepK_same hS) rfl
        · intro a w' hS hO hF' hP K hK; have ha := hO 5 (by rfl); refine if_ok (by rfl) ?_; refine wp_fa0 _ rfl (ev ha) ?_; exact hK _ w' nofun (keepK_same hS) rfl
        · intro a w' hS hO hF' hP K hK; obtain ⟨_, f0, rfl⟩ := (hF' 8 rfl).1 75 _ rfl rfl; refine if_ok (by rfl) ?_; refine wp_ldS _ rfl (ev f0) (hS.2.2.1.cell 0) ?_; exact hK _ w' nofun (keepK_same hS) rfl
        · intro a w' hS hO hF' hP K hK; have ha := hO 7 (by rfl); refine if_ok (by rfl) ?_; unfold Oper.wp execOp; simp only [Sem.run_pure, ev ha]; exact hK _ w' nofun (keepK_same hS) rfl
        · intro a w' hS hO hF' hP K hK; obtain ⟨_, f0, rfl⟩ := (hF' 9 rfl).1 76 _ rfl rfl; obtain ⟨_, f1, rfl⟩ := (hF' 10 rfl).1 77 _ rfl rfl; refine if_ok (by rfl) ?_; refine wp_ix _ _ rfl (ev f0) (ev f1) hlt ?_; exact hK _ w' nofun (keepK_same hS) rfl
        · intro a w' hS hO hF' hP K hK; have hY := (hP 15 _ (by rfl) rfl).2; obtain ⟨_, f0, rfl⟩ := (hF' 11 rfl).1 78 _ rfl rfl; refine if_ok (by rfl) ?_; refine wp_ldU _ rfl (ev f0) hY ?_; exact hK _ w' nofun (keepK_same hS) rfl
        · intro a w' hS hO hF' hP K hK; obtain ⟨_, f0, rfl⟩ := (hF' 7 rfl).1 74 _ rfl rfl; obtain ⟨_, f1, rfl⟩ := (hF' 12 rfl).1 79 _ rfl rfl; refine if_ok (by rfl) ?_; refine wp_calls rfl (enters_of Tryz.func98 (by kernel_rfl) rfl) (args := #[.int .u8 (nth lx j), .int .u8 (nth ly j)]) (by simp [Act.eval, f0, f1]) ?_; refine (r_xor _ hx0 hy0).mono ?_; rintro e w2 ⟨rfl, q, rfl⟩; exact ⟨_, rfl, hK _ _ nofun (keepK_below (below_drewN (Below.refl _ _) q) hS) rfl⟩
        · intro a w' hS hO hF' hP K hK; obtain ⟨_, f0, rfl⟩ := (hF' 1 rfl).1 68 _ rfl rfl; obtain ⟨_, f1, rfl⟩ := (hF' 2 rfl).1 69 _ rfl rfl; refine if_ok (by rfl) ?_; refine wp_ix _ _ rfl (ev f0) (ev f1) hlt ?_; rw [Nat.zero_add]; exact hK _ w' nofun (keepK_same hS) rfl
        · intro a w' hS hO hF' hP K hK; obtain ⟨_, f0, rfl⟩ := (hF' 14 rfl).1 81 _ rfl rfl; obtain ⟨_, f1, rfl⟩ := (hF' 13 rfl).1 80 _ rfl rfl; have hN := (hP 15 _ (by rfl) rfl).1; obtain ⟨cs, O, _⟩ := hN.own1 (by omega); refine if_ok (by rfl) ?_; refine wp_stU _ _ rfl (ev f0) (ev f1) hN hlt ?_; exact hK _ _ (fun _ => rfl) (keepK_bit O inferInstance ⟨inferInstance, inferInstance, inferInstance, inferInstance, inferInstance, inferInstance, inferInstance, inferInstance, inferInstance, inferInstance, inferInstance, inferInstance, inferInstance, inferInstance, inferInstance, trivial⟩ ⟨inferInstance, inferInstance, inferInstance, inferInstance, inferInstance, inferInstance, inferInstance, inferInstance, inferInstance, inferInstance, inferInstance, inferInstance, inferInstance, inferInstance, inferInstance, trivial⟩ hS) (hN.put hlt hF1)
      · intro vs u hl hS hV
        match vs, hl, hV with
        | [v0, v1, v2, v3, v4, v5, v6, v7, v8, v9, v10, v11, v12, v13, v14, v15], _, hV =>
          simp only [puts, Act.put, List.setIfInBounds_toArray, List.set_cons_zero, List.set_cons_succ]
          have hN9 := hV 15 _ rfl rfl
          have h3 := hS.1
          have h7 := hS.2.1
          have h8 := hS.2.2.1
          have hr := hS.2.2.2.1
          have hb := hS.2.2.2.2
          clear hV hS
          go_wp2
          go_roundw
          case rel => exact ⟨j + 1, by omega, by go_num, Lib.hid h3, Lib.hid h7, Lib.hid h8, Lib.hid (by rw [hstep.out]; exact hN9), Lib.hid ⟨hr, hb⟩⟩
          case measure => simp [intOf]; omega
    · obtain rfl : j = N := by omega
      have g0 := H3.out.cell 0
      have g1 := H3.out.cell 1
      have g2 := H3.out.free 0
      have g3 := H3.out.free 1
      have HNo := HN.out
      have HBo := HB.out.2
      have hlj : (pwJ xorI lx ly j j).length = j := tab_len _ _
      replace hlj := Lib.hid hlj
      clear hlt
      go_wp2
      exact ret_vec Tryz.results104 rfl rfl (H3.out.put2 _ _) (mk_ret (v := ⟨pwJ xorI lx ly j j, sy⟩) ((HNo.setT H3.out (by decide) 0 _).setT (H3.out.put 0 _) (by decide) 1 _) (below_set2 HBo (by have := LW.out; omega) _ _))
set_option maxHeartbeats 4000000 in
theorem rpw_eq (W : World) (A1 A2 : Option Addr) (N c1 c2 : Nat) (sy : Bool) (lx ly : List Int) (w : World) (hW : Below W.heap.size W w) (n1 : Nb w W.heap.size A1 N c1 lx) (n2 : Nb w W.heap.size A2 N c2 ly) (h0 : 0 < N) (hN : N ≤ 128) :
    Calls Tryz.prog 104 #[.int .u8 40, .agg #[.slice A1 N c1, .bool sy], .agg #[.slice A2 N c2, .bool sy]] w (RetV W ⟨tab N fun i => eqI (nth lx i) (nth ly i), sy⟩) := by
  obtain ⟨gA, csA, rfl, hgw, OA, _⟩ := n1.own h0
  obtain ⟨gB, csB, rfl, hgB, _⟩ := n2.own h0
  have O0 := (((Own.at1 w 24 #[.slice (some ⟨gA, 0, none⟩) N c1, .bool sy] (g := w.heap.size) (by simp)).alloc (.cells #[.slice (some ⟨gB, 0, none⟩) N c2, .bool sy] 24)).alloc (.cells #[.slice none 0 0, .bool false] 24))
  have O1 := ((Own.at1 (w.alloc (.cells #[.slice (some ⟨gA, 0, none⟩) N c1, .bool sy] 24)) 24 #[.slice (some ⟨gB, 0, none⟩) N c2, .bool sy] (g := w.heap.size + 1) (by simp)).alloc (.cells #[.slice none 0 0, .bool false] 24))
  have O2 := (Own.at1 ((w.alloc (.cells #[.slice (some ⟨gA, 0, none⟩) N c1, .bool sy] 24)).alloc (.cells #[.slice (some ⟨gB, 0, none⟩) N c2, .bool sy] 24)) 24 #[.slice none 0 0, .bool false] (g := w.heap.size + 1 + 1) (by simp))
  have BB := (below_new (below_new (below_new (Below.refl w.heap.size w) (.cells #[.slice (some ⟨gA, 0, none⟩) N c1, .bool sy] 24)) (.cells #[.slice (some ⟨gB, 0, none⟩) N c2, .bool sy] 24)) (.cells #[.slice none 0 0, .bool false] 24))
  have hlx := n1.len
  have NA := n1.step BB
  rw [← pwJ_zero (f := eqI) (y := ly) hlx] at NA
  have RB : rdj gB N ly 0 (((w.alloc (.cells #[.slice (some ⟨gA, 0, none⟩) N c1, .bool sy] 24)).alloc (.cells #[.slice (some ⟨gB, 0, none⟩) N c2, .bool sy] 24)).alloc (.cells #[.slice none 0 0, .bool false] 24)) := fun i _ hi => by
    obtain ⟨b, o, e, _, hc⟩ := (n2.rd.step BB).at_ hi
    have e1 := Option.some.inj e
    simp only [Addr.mk.injEq, and_true] at e1
    obtain ⟨rfl, rfl⟩ := e1
    exact hc
  have hnx1 := n1.nn
  have hny1 := n2.nn
  have BW := hW.trans (BB.mono hW.size)
  rw [← pwJ_all]
  have q00 := O0.cell 0
  have q01 := O0.cell 1
  have q10 := O1.cell 0
  have q11 := O1.cell 1
  replace hlx := Lib.hid hlx
  have LW := Lib.hid hW.size
  clear n1 n2 OA BB hgB hW
  replace BW := Lib.hid BW
  go_enter Tryz.func104, Tryz.ntmps104
  go_wp2
  go_loopw [7] (fun i wr => ∃ (j : Nat), j ≤ N ∧ i = .int .i64 j ∧ Hid (Own wr (w.heap.size + 1 + 1) 24 #[.slice none 0 0, .bool false]) ∧ Hid (Own wr w.heap.size 24 #[.slice (some ⟨gA, 0, none⟩) N c1, .bool sy]) ∧ Hid (Own wr (w.heap.size + 1) 24 #[.slice (some ⟨gB, 0, none⟩) N c2, .bool sy]) ∧ Hid (Nb wr W.heap.size (some ⟨gA, 0, none⟩) N c1 (pwJ eqI lx ly j N)) ∧ Hid (rdj gB N ly j wr ∧ Below W.heap.size W wr)) (fun i _ => N - (intOf i).toNat)
  case atStart => exact ⟨0, Nat.zero_le _, rfl, Lib.hid O2, Lib.hid O0, Lib.hid O1, Lib.hid NA, Lib.hid ⟨RB, BW.out⟩⟩
  case round =>
    clear O0 O1 O2 NA RB BW q00 q01 q10 q11
    obtain ⟨j, hj, rfl, H3, H7, H8, HN, HB⟩ := hrel
    have p0 := H7.out.cell 0
    have p1 := H7.out.cell 1
    by_cases hlt : j < N
    · have i1 : (j : Int) < N := by omega
      have hS0 : owns (w.heap.size + 1 + 1) #[.slice none 0 0, .bool false] wr.drew ∧ (owns w.heap.size #[.slice (some ⟨gA, 0, none⟩) N c1, .bool sy] wr.drew ∧ (owns (w.heap.size + 1) #[.slice (some ⟨gB, 0, none⟩) N c2, .bool sy] wr.drew ∧ (rdj gB N ly (j + 1) wr.drew ∧ blw W wr.drew))) := ⟨H3.out, H7.out, H8.out, fun i h1 h2 => HB.out.1 i (by omega) h2, HB.out.2.drew⟩
      have hP1 : nbs W.heap.size (some ⟨gA, 0, none⟩) N c1 (pwJ eqI lx ly j N) wr.drew ∧ cel gB (0 + j) (.int .u8 (nth ly j)) wr.drew := ⟨HN.out, HB.out.1 j (Nat.le_refl _) hlt⟩
      have hnx := pwJ_at (f := eqI) (x := lx) (y := ly) hlt
      have hstep := Lib.hid (pwJ_next (f := eqI) (x := lx) (y := ly) hlt)
      have hx0 := hnx1.nth j
      have hy0 := hny1.nth j
      have hF1 := (eqI_bd (nth lx j) (nth ly j)).1
      haveI : Over W gA := ⟨hgw⟩
      clear H3 H7 H8 HN HB
      go_wp2
      refine region_k (by kernel_rfl) (fun u => owns (w.heap.size + 1 + 1) #[.slice none 0 0, .bool false] u ∧ (owns w.heap.size #[.slice (some ⟨gA, 0, none⟩) N c1, .bool sy] u ∧ (owns (w.heap.size + 1) #[.slice (some ⟨gB, 0, none⟩) N c2, .bool sy] u ∧ (rdj gB N ly (j + 1) u ∧ blw W u)))) [tru, tru, tru, tru, tru, tru, tru, tru, tru, tru, tru, tru, tru, tru, tru, (fun u => nbs W.heap.size (some ⟨gA, 0, none⟩) N c1 (pwJ eqI lx ly j N) u ∧ cel gB (0 + j) (.int .u8 (nth ly j)) u)] [isV (.pointer (some ⟨w.heap.size, 0, none⟩)), isV (.slice (some ⟨gA, 0, none⟩) N c1), isV (.int .i64 j), isV (.pointer (some ⟨w.heap.size, 0, none⟩)), isV (.slice (some ⟨gA, 0, none⟩) N c1), isV (.int .i64 j), isV (.pointer (some ⟨gA, 0 + j, none⟩)), isV (.int .u8 (nth lx j)), isV (.pointer (some ⟨(w.heap.size + 1), 0, none⟩)), isV (.slice (some ⟨gB, 0, none⟩) N c2), isV (.int .i64 j), isV (.pointer (some ⟨gB, 0 + j, none⟩)), isV (.int .u8 (nth ly j)), isV (.int .u8 (eqI (nth lx j) (nth ly j))), isV (.pointer (some ⟨gA, j, none⟩)), rowV W.heap.size gA N c1 ((pwJ eqI lx ly j N).set j (eqI (nth lx j) (nth ly j)))] [some 16, some 17, some 18, some 19, some 20, some 21, some 22, some 23, some 24, some 25, some 26, some 27, some 28, some 29, some 30, none] [[], [0], [], [], [3], [], [4, 5], [6], [], [8], [], [9, 10], [11], [7, 12], [1, 2, 0, 1, 2, 3, 4, 5, 6, 7, 8, 9, 10, 11, 12, 13], [14, 13, 13, 0, 1, 2, 3, 4, 5, 6, 7, 8, 9, 10, 11, 12, 13]] [[], [0], [], [], [3], [], [4, 5], [6], [], [8], [], [9, 10], [11], [7, 12], [1, 2], [14, 13]] [[], [], [], [], [], [], [], [], [], [], [], [], [], [], [], []] [[], [], [], [], [], [], [], [], [], [], [], [], [], [], [], []] (by kernel_rfl) (by kernel_rfl) (by kernel_rfl) (by kernel_rfl) (by kernel_rfl) rfl (by kernel_rfl) (by kernel_rfl) (by kernel_rfl) hS0 (by
        intro U hU
        simp only [List.mem_cons, List.not_mem_nil, or_false] at hU
        rcases hU with rfl | rfl | rfl | rfl | rfl | rfl | rfl | rfl | rfl | rfl | rfl | rfl | rfl | rfl | rfl | rfl
        all_goals first | trivial | exact hP1) ?_ ?_
      · refine ⟨?_, ?_, ?_, ?_, ?_, ?_, ?_, ?_, ?_, ?_, ?_, ?_, ?_, ?_, ?_, ?_, trivial⟩
        · intro a w' hS hO hF' hP K hK; have ha := hO 4 (by rfl); refine if_ok (by rfl) ?_; refine wp_fa0 _ rfl (ev ha) ?_; exact hK _ w' nofun (keepK_same hS) rfl
        · intro a w' hS hO hF' hP K hK; obtain ⟨_, f0, rfl⟩ := (hF' 0 rfl).1 16 _ rfl rfl; refine if_ok (by rfl) ?_; refine wp_ldS _ rfl (ev f0) (hS.2.1.cell 0) ?_; exact hK _ w' nofun (keepK_same hS) rfl
        · intro a w' hS hO hF' hP K hK; have ha := hO 7 (by rfl); refine if_ok (by rfl) ?_; unfold Oper.wp execOp; simp only [Sem.run_pure, ev ha]; exact hK _ w' nofun (keepK_same hS) rfl
        · intro a w' hS hO hF' hP K hK; have ha := hO 4 (by rfl); refine if_ok (by rfl) ?_; refine wp_fa0 _ rfl (ev ha) ?_; exact hK _ w' nofun (keepK_same hS) rfl
        · intro a w' hS hO hF' hP K hK; obtain ⟨_, f0, rfl⟩ := (hF' 3 rfl).1 19 _ rfl rfl; refine if_ok (by rfl) ?_; refine wp_ldS _ rfl (ev f0) (hS.2.1.cell 0) ?_; exact hK _ w' nofun (keepK_same hS) rfl
        · intro a w' hS hO hF' hP K hK; have ha := hO 7 (by rfl); refine if_ok (by rfl) ?_; unfold Oper.wp execOp; simp only [Sem.run_pure, ev ha]; exact hK _ w' nofun (keepK_same hS) rfl
        · intro a w' hS hO hF' hP K hK; obtain ⟨_, f0, rfl⟩ := (hF' 4 rfl).1 20 _ rfl rfl; obtain ⟨_, f1, rfl⟩ := (hF' 5 rfl).1 21 _ rfl rfl; refine if_ok (by rfl) ?_; refine wp_ix _ _ rfl (ev f0) (ev f1) hlt ?_; exact hK _ w' nofun (keepK_same hS) rfl
        · intro a w' hS hO hF' hP K hK; have hN := (hP 15 _ (by rfl) rfl).1; obtain ⟨_, f0, rfl⟩ := (hF' 6 rfl).1 22 _ rfl rfl; refine if_ok (by rfl) ?_; refine wp_ldU _ rfl (ev f0) (row_cell hN hlt hnx) ?_; exact hK _ w' nofun (keepK_same hS) rfl
        · intro a w' hS hO hF' hP K hK; have ha := hO 5 (by rfl); refine if_ok (by rfl) ?_; refine wp_fa0 _ rfl (ev ha) ?_; exact hK _ w' nofun (keepK_same hS) rfl
        · intro a w' hS hO hF' hP K hK; obtain ⟨_, f0, rfl⟩ := (hF' 8 rfl).1 24 _ rfl rfl; refine if_ok (by rfl) ?_; refine wp_ldS _ rfl (ev f0) (hS.2.2.1.cell 0) ?_; exact hK _ w' nofun (keepK_same hS) rfl
        · intro a w' hS hO hF' hP K hK; have ha := hO 7 (by rfl); refine if_ok (by rfl) ?_; unfold Oper.wp execOp; simp only [Sem.run_pure, ev ha]; exact hK _ w' nofun (keepK_same hS) rfl
        · intro a w' hS hO hF' hP K hK; obtain ⟨_, f0, rfl⟩ := (hF' 9 rfl).1 25 _ rfl rfl; obtain ⟨_, f1, rfl⟩ := (hF' 10 rfl).1 26 _ rfl rfl; refine if_ok (by rfl) ?_; refine wp_ix _ _ rfl (ev f0) (ev f1) hlt ?_; exact hK _ w' nofun (keepK_same hS) rfl
        · intro a w' hS hO hF' hP K hK; have hY := (hP 15 _ (by rfl) rfl).2; obtain ⟨_, f0, rfl⟩ := (hF' 11 rfl).1 27 _ rfl rfl; refine if_ok (by rfl) ?_; refine wp_ldU _ rfl (ev f0) hY ?_; exact hK _ w' nofun (keepK_same hS) rfl
        · intro a w' hS hO hF' hP K hK; obtain ⟨_, f0, rfl⟩ := (hF' 7 rfl).1 23 _ rfl rfl; obtain ⟨_, f1, rfl⟩ := (hF' 12 rfl).1 28 _ rfl rfl; refine if_ok (by rfl) ?_; refine wp_calls rfl (enters_of Tryz.func182 (by kernel_rfl) rfl) (args := #[.int .u8 (nth lx j), .int .u8 (nth ly j)]) (by simp [Act.eval, f0, f1]) ?_; refine (r_eq _ hx0 hy0).mono ?_; rintro e w2 ⟨rfl, q, rfl⟩; exact ⟨_, rfl, hK _ _ nofun (keepK_below (below_drewN (Below.refl _ _) q) hS) rfl⟩
        · intro a w' hS hO hF' hP K hK; obtain ⟨_, f0, rfl⟩ := (hF' 1 rfl).1 17 _ rfl rfl; obtain ⟨_, f1, rfl⟩ := (hF' 2 rfl).1 18 _ rfl rfl; refine if_ok (by rfl) ?_; refine wp_ix _ _ rfl (ev f0) (ev f1) hlt ?_; rw [Nat.zero_add]; exact hK _ w' nofun (keepK_same hS) rfl
        · intro a w' hS hO hF' hP K hK; obtain ⟨_, f0, rfl⟩ := (hF' 14 rfl).1 30 _ rfl rfl; obtain ⟨_, f1, rfl⟩ := (hF' 13 rfl).1 29 _ rfl rfl; have hN := (hP 15 _ (by rfl) rfl).1; obtain ⟨cs, O, _⟩ := hN.own1 (by omega); refine if_ok (by rfl) ?_; refine wp_stU _ _ rfl (ev f0) (ev f1) hN hlt ?_; exact hK _ _ (fun _ => rfl) (keepK_bit O inferInstance ⟨inferInstance, inferInstance, inferInstance, inferInstance, inferInstance, inferInstance, inferInstance, inferInstance, inferInstance, inferInstance, inferInstance, inferInstance, inferInstance, inferInstance, inferInstance, trivial⟩ ⟨inferInstance, inferInstance, inferInstance, inferInstance, inferInstance, inferInstance, inferInstance, inferInstance, inferInstance, inferInstance, inferInstance, inferInstance, inferInstance, inferInstance, inferInstance, trivial⟩ hS) (hN.put hlt hF1)
      · intro vs u hl hS hV
        match vs, hl, hV with
        | [v0, v1, v2, v3, v4, v5, v6, v7, v8, v9, v10, v11, v12, v13, v14, v15], _, hV =>
          simp only [puts, Act.put, List.setIfInBounds_toArray, List.set_cons_zero, List.set_cons_succ]
          have hN9 := hV 15 _ rfl rfl
          have h3 := hS.1
          have h7 := hS.2.1
          have h8 := hS.2.2.1
          have hr := hS.2.2.2.1
          have hb := hS.2.2.2.2
          clear hV hS
          go_wp2
          go_roundw
          case rel => exact ⟨j + 1, by omega, by go_num, Lib.hid h3, Lib.hid h7, Lib.hid h8, Lib.hid (by rw [hstep.out]; exact hN9), Lib.hid ⟨hr, hb⟩⟩
          case measure => simp [intOf]; omega
    · obtain rfl : j = N := by omega
      have g0 := H3.out.cell 0
      have g1 := H3.out.cell 1
      have g2 := H3.out.free 0
      have g3 := H3.out.free 1
      have HNo := HN.out
      have HBo := HB.out.2
      have hlj : (pwJ eqI lx ly j j).length = j := tab_len _ _
      replace hlj := Lib.hid hlj
      clear hlt
      go_wp2
      exact ret_vec Tryz.results104 rfl rfl (H3.out.put2 _ _) (mk_ret (v := ⟨pwJ eqI lx ly j j, sy⟩) ((HNo.setT H3.out (by decide) 0 _).setT (H3.out.put 0 _) (by decide) 1 _) (below_set2 HBo (by have := LW.out; omega) _ _))
end Go.Proofs.YtognpmggfplekaaGreatDoor
