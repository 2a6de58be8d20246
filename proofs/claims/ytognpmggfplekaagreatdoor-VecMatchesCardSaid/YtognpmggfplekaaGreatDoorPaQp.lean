/-
  Contracts of the reference's fit. Conditions: at most a million bits.
  Contracts of the reference's FromBools. Conditions: at most a thousand bits.
  Contracts of the reference's Bools. Conditions: at most a thousand bits.
  Contracts of the reference's Unknown, FromInt, Resize, Int. Conditions: at most a thousand bits.
  Contracts of the reference's Balance. Conditions: at most a million bits.
-/
import Derived.Test.YtognpmggfplekaaGreatDoorPaQo
import Derived.Test.YtognpmggfplekaaGreatDoorPaQg
import Derived.Test.YtognpmggfplekaaGreatDoorPaQk

set_option maxRecDepth 100000
namespace Go.Proofs.YtognpmggfplekaaGreatDoor
open Go Go.RowKit

theorem rdo_cell {B : Nat} {u : World} {b o n k : Nat} {l : List Int} (h : rdo B (some ⟨b, o, none⟩) n l u) (hk : k < n) : u.cell? ⟨b, o + k, none⟩ = some (.int .u8 (nth l k)) := by
  obtain ⟨b', o', e, _, hc⟩ := h.1.at_ hk
  have e1 := Option.some.inj e
  simp only [Addr.mk.injEq, and_true] at e1
  obtain ⟨rfl, rfl⟩ := e1
  exact hc
theorem ext_in {l : List Int} {s : Bool} {j : Nat} (h : j < l.length) : ext ⟨l, s⟩ j = nth l j := by unfold ext; rw [if_pos h]
theorem ext_out {l : List Int} {j : Nat} (h : ¬ j < l.length) : ext ⟨l, true⟩ j = nth l (l.length - 1) := by unfold ext fill; rw [if_neg h]; rfl
theorem ext_outz {l : List Int} {j : Nat} (h : ¬ j < l.length) : ext ⟨l, false⟩ j = 0 := by unfold ext fill; rw [if_neg h]; rfl
set_option maxHeartbeats 4000000 in
theorem rfit_any (A : Option Addr) (n c M : Nat) (s : Bool) (l : List Int) (w : World) (h : Rb w A n l) (h0 : 0 < n) (hn : n ≤ 1000) (hm : M ≤ 1000) :
    Calls Tryz.prog 134 #[.agg #[.slice A n c, .bool s], .int .i64 M] w (RetV w (fitV ⟨l, s⟩ M)) := by
  obtain ⟨b1, o1, rfl, hb1, hc1⟩ := h.2.2 h0
  have O0 := (((Own.at1 w 24 #[.slice (some ⟨b1, o1, none⟩) n c, .bool s] (g := w.heap.size) (by simp)).alloc (.cells #[.slice none 0 0, .bool false] 24)).alloc (.cells #[.slice none 0 0, .bool s] 24))
  have O1 := ((Own.at1 (w.alloc (.cells #[.slice (some ⟨b1, o1, none⟩) n c, .bool s] 24)) 24 #[.slice none 0 0, .bool false] (g := w.heap.size + 1) (by simp)).alloc (.cells #[.slice none 0 0, .bool s] 24))
  have O2 := (Own.at1 ((w.alloc (.cells #[.slice (some ⟨b1, o1, none⟩) n c, .bool s] 24)).alloc (.cells #[.slice none 0 0, .bool false] 24)) 24 #[.slice none 0 0, .bool s] (g := w.heap.size + 1 + 1) (by simp))
  have BB := (below_new (below_new (below_new (Below.refl w.heap.size w) (.cells #[.slice (some ⟨b1, o1, none⟩) n c, .bool s] 24)) (.cells #[.slice none 0 0, .bool false] 24)) (.cells #[.slice none 0 0, .bool s] 24))
  unfold fitV
  simp only
  have hnn := h.nn
  have hl := h.len
  have q00 := O0.cell 0; have q01 := O0.cell 1; have qO20 := O2.cell 0; have qO21 := O2.cell 1; have fO20 := O2.free 0; have fO21 := O2.free 1
  replace h := Lib.hid h
  replace hl := Lib.hid hl
  clear hc1
  go_enter Tryz.func134, Tryz.ntmps134
  go_wp2
  go_loopw [6] (fun i wr => ∃ (j : Nat) (A' : Option Addr) (c' : Nat), j ≤ M ∧ i = .int .i64 j ∧ Hid (Own wr w.heap.size 24 #[.slice (some ⟨b1, o1, none⟩) n c, .bool s]) ∧ Hid (Own wr (w.heap.size + 1) 24 #[.slice none 0 0, .bool false]) ∧ Hid (Own wr (w.heap.size + 1 + 1) 24 #[.slice A' j c', .bool s]) ∧ Hid (Nb wr w.heap.size A' j c' (tab j (ext ⟨l, s⟩))) ∧ Hid (Below w.heap.size w wr)) (fun i _ => M - (intOf i).toNat)
  case atStart => exact ⟨0, none, 0, Nat.zero_le _, rfl, Lib.hid O0, Lib.hid O1, Lib.hid O2, Lib.hid (Nb.nil _ _), Lib.hid BB⟩
  case round =>
    clear O0 O1 O2 BB q00 q01 qO20 qO21 fO20 fO21
    obtain ⟨j, A', c', hj, rfl, H0, H1, H2, HN, HB⟩ := hrel
    have p0 := H0.out.cell 0
    have p1 := H0.out.cell 1
    by_cases hlt : j < M
    · have d1 : (j : Int) < M := by omega
      have hS0 : owns w.heap.size #[.slice (some ⟨b1, o1, none⟩) n c, .bool s] wr.drew ∧ (owns (w.heap.size + 1) #[.slice none 0 0, .bool false] wr.drew ∧ (rdo w.heap.size (some ⟨b1, o1, none⟩) n l wr.drew ∧ blw w wr.drew)) := ⟨H0.out, H1.out, rdo.of h.out HB.out.drew, HB.out.drew⟩
      have hP1 : nbs w.heap.size A' j c' (tab j (ext ⟨l, s⟩)) wr.drew := HN.out
      have hP2 : owns (w.heap.size + 1 + 1) #[.slice A' j c', .bool s] wr.drew := H2.out
      haveI : Over w (w.heap.size + 1 + 1) := ⟨by omega⟩
      haveI : Apart (w.heap.size + 1 + 1) w.heap.size := ⟨by omega⟩
      haveI : Apart (w.heap.size + 1 + 1) (w.heap.size + 1) := ⟨by omega⟩
      by_cases hjn : j < n
      · have d2 : (j : Int) < n := by omega
        have hext := Lib.hid (ext_in (s := s) (by rw [hl.out]; exact hjn))
        clear H0 H1 H2 HN HB
        go_wp2
        refine region_k (by kernel_rfl) (fun u => owns w.heap.size #[.slice (some ⟨b1, o1, none⟩) n c, .bool s] u ∧ (owns (w.heap.size + 1) #[.slice none 0 0, .bool false] u ∧ (rdo w.heap.size (some ⟨b1, o1, none⟩) n l u ∧ blw w u))) [tru, tru, tru, tru, tru, tru, tru, tru, nbs w.heap.size A' j c' (tab j (ext ⟨l, s⟩)), tru, owns (w.heap.size + 1 + 1) #[.slice A' j c', .bool s]] [isV (.pointer (some ⟨(w.heap.size + 1 + 1), 0, none⟩)), isV (.slice A' j c'), isV (.pointer (some ⟨w.heap.size, 0, none⟩)), isV (.slice (some ⟨b1, o1, none⟩) n c), isV (.int .i64 j), isV (.pointer (some ⟨b1, o1 + j, none⟩)), isV (.int .u8 (nth l j)), isOne w.heap.size (nth l j), isNbL w.heap.size (j + 1) (tab j (ext ⟨l, s⟩) ++ [(nth l j)]), isV (.pointer (some ⟨(w.heap.size + 1 + 1), 0, none⟩)), didL w.heap.size (w.heap.size + 1 + 1) (j + 1) (tab j (ext ⟨l, s⟩) ++ [(nth l j)]) s] [some 20, some 21, some 22, some 23, some 24, some 25, some 26, some 27, some 28, some 29, none] [[], [0], [], [2], [], [3, 4], [5], [6], [1, 7], [0, 1, 2, 3, 4, 5, 6, 7, 8], [9, 8, 8, 0, 1, 2, 3, 4, 5, 6, 7, 8]] [[], [0], [], [2], [], [3, 4], [5], [6], [1, 7], [], [9, 8]] [[], [], [], [], [], [], [], [], [7], [], []] [[], [], [], [], [], [], [], [], [7, 10], [], []] (by kernel_rfl) (by kernel_rfl) (by kernel_rfl) (by kernel_rfl) (by kernel_rfl) rfl (by kernel_rfl) (by kernel_rfl) (by kernel_rfl) hS0 (by
          intro U hU
          simp only [List.mem_cons, List.not_mem_nil, or_false] at hU
          rcases hU with rfl | rfl | rfl | rfl | rfl | rfl | rfl | rfl | rfl | rfl | rfl
          all_goals first | trivial | exact hP1 | exact hP2) ?_ ?_
        · refine ⟨?_, ?_, ?_, ?_, ?_, ?_, ?_, ?_, ?_, ?_, ?_, trivial⟩
          · intro a w' hS hO hF' hP K hK; have ha := hO 5 (by rfl); refine if_ok (by rfl) ?_; refine wp_fa0 _ rfl (ev ha) ?_; exact hK _ w' nofun (keepK_same hS) rfl
          · intro a w' hS hO hF' hP K hK; have O := hP 10 _ (by rfl) rfl; obtain ⟨_, f0, rfl⟩ := (hF' 0 rfl).1 20 _ rfl rfl; refine if_ok (by rfl) ?_; refine wp_ldS _ rfl (ev f0) (O.cell 0) ?_; exact hK _ w' nofun (keepK_same hS) rfl
          · intro a w' hS hO hF' hP K hK; have ha := hO 2 (by rfl); refine if_ok (by rfl) ?_; refine wp_fa0 _ rfl (ev ha) ?_; exact hK _ w' nofun (keepK_same hS) rfl
          · intro a w' hS hO hF' hP K hK; obtain ⟨_, f0, rfl⟩ := (hF' 2 rfl).1 22 _ rfl rfl; refine if_ok (by rfl) ?_; refine wp_ldS _ rfl (ev f0) (hS.1.cell 0) ?_; exact hK _ w' nofun (keepK_same hS) rfl
          · intro a w' hS hO hF' hP K hK; have ha := hO 6 (by rfl); refine if_ok (by rfl) ?_; unfold Oper.wp execOp; simp only [Sem.run_pure, ev ha]; exact hK _ w' nofun (keepK_same hS) rfl
          · intro a w' hS hO hF' hP K hK; obtain ⟨_, f0, rfl⟩ := (hF' 3 rfl).1 23 _ rfl rfl; obtain ⟨_, f1, rfl⟩ := (hF' 4 rfl).1 24 _ rfl rfl; refine if_ok (by rfl) ?_; refine wp_ix _ _ rfl (ev f0) (ev f1) hjn ?_; exact hK _ w' nofun (keepK_same hS) rfl
          · intro a w' hS hO hF' hP K hK; obtain ⟨_, f0, rfl⟩ := (hF' 5 rfl).1 25 _ rfl rfl; refine if_ok (by rfl) ?_; refine wp_ldU _ rfl (ev f0) (rdo_cell hS.2.2.1 (k := j) (by omega)) ?_; exact hK _ w' nofun (keepK_same hS) rfl
          · intro a w' hS hO hF' hP K hK; obtain ⟨_, f0, rfl⟩ := (hF' 6 rfl).1 26 _ rfl rfl; have hsz := hS.2.2.2.size; refine if_ok (by rfl) ?_; refine wp_bs1 _ rfl (ev f0) ?_; exact hK _ _ nofun (keepK_below (below_new (Below.refl _ _) _) hS) ⟨_, rfl, Own.new _ _ _, hsz⟩
          · intro a w' hS hO hF' hP K hK; obtain ⟨_, f0, rfl⟩ := (hF' 1 rfl).1 21 _ rfl rfl; obtain ⟨_, f1, g0, rfl, hO1, hg1⟩ := (hF' 7 rfl).1 27 _ rfl rfl; have hN := hP 8 _ (by rfl) rfl; have hsz := hS.2.2.2.size; refine if_ok (by rfl) ?_; refine wp_cat _ _ rfl rfl hsz (ev f0) hN (ev f1) (Rb.of_own hO1 (nnL_one (hnn.nth _)) rfl) (by omega) ?_; intro A9 c9 w9 hN9 hg9; exact hK _ w9 nofun (keepK_grown hN.rowB hg9 hsz inferInstance ⟨inferInstance, inferInstance, inferInstance, inferInstance, inferInstance, inferInstance, inferInstance, inferInstance, inferInstance, inferInstance, trivial⟩ ⟨.inr inferInstance, .inr inferInstance, .inr inferInstance, .inr inferInstance, .inr inferInstance, .inr inferInstance, .inr inferInstance, .inl rfl, .inl rfl, .inr inferInstance, .inl rfl, trivial⟩ hS) ⟨A9, c9, rfl, hN9⟩
          · intro a w' hS hO hF' hP K hK; have ha := hO 5 (by rfl); refine if_ok (by rfl) ?_; refine wp_fa0 _ rfl (ev ha) ?_; exact hK _ w' nofun (keepK_same hS) rfl
          · intro a w' hS hO hF' hP K hK; obtain ⟨_, f0, rfl⟩ := (hF' 9 rfl).1 29 _ rfl rfl; obtain ⟨_, f1, A9, c9, rfl, hN⟩ := (hF' 8 rfl).1 28 _ rfl rfl; have O := hP 10 _ (by rfl) rfl; refine if_ok (by rfl) ?_; refine wp_st0 _ _ rfl (ev f0) (ev f1) O ?_; exact hK _ _ (fun _ => rfl) (keepK_store O inferInstance ⟨inferInstance, inferInstance, inferInstance, inferInstance, inferInstance, inferInstance, inferInstance, inferInstance, inferInstance, inferInstance, trivial⟩ ⟨inferInstance, inferInstance, inferInstance, inferInstance, inferInstance, inferInstance, inferInstance, inferInstance, inferInstance, inferInstance, trivial⟩ hS) ⟨A9, c9, O.row, hN.row O⟩
        · intro vs u hl hS hV
          match vs, hl, hV with
          | [v0, v1, v2, v3, v4, v5, v6, v7, v8, v9, v10], _, hV =>
            simp only [puts, Act.put, List.setIfInBounds_toArray, List.set_cons_zero, List.set_cons_succ]
            obtain ⟨A9, c9, OU, hN9⟩ := hV 10 _ rfl rfl
            have hbx := hS.2.2.2
            have h0 := hS.1
            have h1 := hS.2.1
            clear hV hS
            go_wp2
            go_roundw
            case rel => exact ⟨j + 1, A9, c9, by omega, by go_num, Lib.hid h0, Lib.hid h1, Lib.hid OU, Lib.hid (by rw [tab_snoc, hext.out]; exact hN9), Lib.hid hbx⟩
            case measure => simp [intOf]; omega
      · have d2 : decide ((j : Int) < n) = false := by simp; omega
        cases s
        · have hext := Lib.hid (ext_outz (by rw [hl.out]; exact hjn))
          have k0 := H2.out.cell 0
          have U2 := H2.out.alloc (.cells #[.int .u8 0] 48)
          have U1 := H1.out.alloc (.cells #[.int .u8 0] 48)
          have U0 := H0.out.alloc (.cells #[.int .u8 0] 48)
          have UN := HN.out.alloc (.cells #[.int .u8 0] 48)
          have RB : Rb (wr.alloc (.cells #[.int .u8 0] 48)) (some ⟨wr.heap.size, 0, none⟩) 1 [0] := Rb.of_own (Own.new wr _ _) (nnL_one (Int.le_refl 0)) rfl
          have hB1 := below_new HB.out (.cells #[.int .u8 0] 48)
          have hsz := hB1.size
          clear hS0 hP1 hP2 H0 H1 H2 HN HB
          go_wp2_with (at_builtin; refine wpList_catG rfl (.tmp 46) (.tmp 47) rfl rfl hsz rfl UN rfl RB (by omega) ?_; intro A9 c9 w9 hN9 hg9; have V1 := U1.catG (by decide) UN hg9; have V0 := U0.catG (by decide) UN hg9; have V2 := U2.catG (by decide) UN hg9; have hB9 := grown_ownV UN hg9 hB1; have v0 := V2.cell 0; have v1 := V2.free 0)
          go_roundw
          case rel => exact ⟨j + 1, A9, c9, by omega, by go_num, Lib.hid (V0.far (p := ⟨w.heap.size + 1 + 1, 0, none⟩) (by simp; omega) _), Lib.hid (V1.far (p := ⟨w.heap.size + 1 + 1, 0, none⟩) (by simp) _), Lib.hid (V2.put 0 _), Lib.hid (by rw [tab_snoc, hext.out]; exact hN9.setT V2 (by decide) 0 _), Lib.hid (below_set hB9 (p := ⟨w.heap.size + 1 + 1, 0, none⟩) (by simp; omega) _)⟩
          case measure => simp [intOf]; omega
        · have hext := Lib.hid ((ext_out (by rw [hl.out]; exact hjn)).trans (by rw [hl.out]))
          have hn1 : IntKind.i64.wrap ((n : Int) - 1) = (n - 1 : Nat) := by rw [IntWalk.i64_in _ (by omega)]; omega
          clear H0 H1 H2 HN HB
          go_wp2
          refine region_k (by kernel_rfl) (fun u => owns w.heap.size #[.slice (some ⟨b1, o1, none⟩) n c, .bool true] u ∧ (owns (w.heap.size + 1) #[.slice none 0 0, .bool false] u ∧ (rdo w.heap.size (some ⟨b1, o1, none⟩) n l u ∧ blw w u))) [tru, tru, tru, tru, tru, tru, tru, tru, tru, tru, tru, nbs w.heap.size A' j c' (tab j (ext ⟨l, true⟩)), tru, owns (w.heap.size + 1 + 1) #[.slice A' j c', .bool true]] [isV (.pointer (some ⟨(w.heap.size + 1 + 1), 0, none⟩)), isV (.slice A' j c'), isV (.pointer (some ⟨w.heap.size, 0, none⟩)), isV (.slice (some ⟨b1, o1, none⟩) n c), isV (.pointer (some ⟨w.heap.size, 0, none⟩)), isV (.slice (some ⟨b1, o1, none⟩) n c), isV (.int .i64 n), isV (.int .i64 (n - 1 : Nat)), isV (.pointer (some ⟨b1, o1 + (n - 1), none⟩)), isV (.int .u8 (nth l (n - 1))), isOne w.heap.size (nth l (n - 1)), isNbL w.heap.size (j + 1) (tab j (ext ⟨l, true⟩) ++ [(nth l (n - 1))]), isV (.pointer (some ⟨(w.heap.size + 1 + 1), 0, none⟩)), didL w.heap.size (w.heap.size + 1 + 1) (j + 1) (tab j (ext ⟨l, true⟩) ++ [(nth l (n - 1))]) true] [some 32, some 33, some 34, some 35, some 36, some 37, some 38, some 39, some 40, some 41, some 42, some 43, some 44, none] [[], [0], [], [2], [], [4], [5], [6], [3, 7], [8], [9], [1, 10], [0, 1, 2, 3, 4, 5, 6, 7, 8, 9, 10, 11], [12, 11, 11, 0, 1, 2, 3, 4, 5, 6, 7, 8, 9, 10, 11]] [[], [0], [], [2], [], [4], [5], [6], [3, 7], [8], [9], [1, 10], [], [12, 11]] [[], [], [], [], [], [], [], [], [], [], [], [10], [], []] [[], [], [], [], [], [], [], [], [], [], [], [10, 13], [], []] (by kernel_rfl) (by kernel_rfl) (by kernel_rfl) (by kernel_rfl) (by kernel_rfl) rfl (by kernel_rfl) (by kernel_rfl) (by kernel_rfl) hS0 (by
            intro U hU
            simp only [List.mem_cons, List.not_mem_nil, or_false] at hU
            rcases hU with rfl | rfl | rfl | rfl | rfl | rfl | rfl | rfl | rfl | rfl | rfl | rfl | rfl | rfl
            all_goals first | trivial | exact hP1 | exact hP2) ?_ ?_
          · refine ⟨?_, ?_, ?_, ?_, ?_, ?_, ?_, ?_, ?_, ?_, ?_, ?_, ?_, ?_, trivial⟩
            · intro a w' hS hO hF' hP K hK; have ha := hO 5 (by rfl); refine if_ok (by rfl) ?_; refine wp_fa0 _ rfl (ev ha) ?_; exact hK _ w' nofun (keepK_same hS) rfl
            · intro a w' hS hO hF' hP K hK; have O := hP 13 _ (by rfl) rfl; obtain ⟨_, f0, rfl⟩ := (hF' 0 rfl).1 32 _ rfl rfl; refine if_ok (by rfl) ?_; refine wp_ldS _ rfl (ev f0) (O.cell 0) ?_; exact hK _ w' nofun (keepK_same hS) rfl
            · intro a w' hS hO hF' hP K hK; have ha := hO 2 (by rfl); refine if_ok (by rfl) ?_; refine wp_fa0 _ rfl (ev ha) ?_; exact hK _ w' nofun (keepK_same hS) rfl
            · intro a w' hS hO hF' hP K hK; obtain ⟨_, f0, rfl⟩ := (hF' 2 rfl).1 34 _ rfl rfl; refine if_ok (by rfl) ?_; refine wp_ldS _ rfl (ev f0) (hS.1.cell 0) ?_; exact hK _ w' nofun (keepK_same hS) rfl
            · intro a w' hS hO hF' hP K hK; have ha := hO 2 (by rfl); refine if_ok (by rfl) ?_; refine wp_fa0 _ rfl (ev ha) ?_; exact hK _ w' nofun (keepK_same hS) rfl
            · intro a w' hS hO hF' hP K hK; obtain ⟨_, f0, rfl⟩ := (hF' 4 rfl).1 36 _ rfl rfl; refine if_ok (by rfl) ?_; refine wp_ldS _ rfl (ev f0) (hS.1.cell 0) ?_; exact hK _ w' nofun (keepK_same hS) rfl
            · intro a w' hS hO hF' hP K hK; obtain ⟨_, f0, rfl⟩ := (hF' 5 rfl).1 37 _ rfl rfl; refine if_ok (by rfl) ?_; refine wp_len _ rfl (ev f0) ?_; exact hK _ w' nofun (keepK_same hS) rfl
            · intro a w' hS hO hF' hP K hK; obtain ⟨_, f0, rfl⟩ := (hF' 6 rfl).1 38 _ rfl rfl; refine if_ok (by rfl) ?_; refine wp_sub _ _ _ rfl (ev f0) rfl ?_; rw [hn1]; exact hK _ w' nofun (keepK_same hS) rfl
            · intro a w' hS hO hF' hP K hK; obtain ⟨_, f0, rfl⟩ := (hF' 3 rfl).1 35 _ rfl rfl; obtain ⟨_, f1, rfl⟩ := (hF' 7 rfl).1 39 _ rfl rfl; refine if_ok (by rfl) ?_; refine wp_ix _ _ rfl (ev f0) (ev f1) (by omega) ?_; exact hK _ w' nofun (keepK_same hS) rfl
            · intro a w' hS hO hF' hP K hK; obtain ⟨_, f0, rfl⟩ := (hF' 8 rfl).1 40 _ rfl rfl; refine if_ok (by rfl) ?_; refine wp_ldU _ rfl (ev f0) (rdo_cell hS.2.2.1 (k := (n - 1)) (by omega)) ?_; exact hK _ w' nofun (keepK_same hS) rfl
            · intro a w' hS hO hF' hP K hK; obtain ⟨_, f0, rfl⟩ := (hF' 9 rfl).1 41 _ rfl rfl; have hsz := hS.2.2.2.size; refine if_ok (by rfl) ?_; refine wp_bs1 _ rfl (ev f0) ?_; exact hK _ _ nofun (keepK_below (below_new (Below.refl _ _) _) hS) ⟨_, rfl, Own.new _ _ _, hsz⟩
            · intro a w' hS hO hF' hP K hK; obtain ⟨_, f0, rfl⟩ := (hF' 1 rfl).1 33 _ rfl rfl; obtain ⟨_, f1, g0, rfl, hO1, hg1⟩ := (hF' 10 rfl).1 42 _ rfl rfl; have hN := hP 11 _ (by rfl) rfl; have hsz := hS.2.2.2.size; refine if_ok (by rfl) ?_; refine wp_cat _ _ rfl rfl hsz (ev f0) hN (ev f1) (Rb.of_own hO1 (nnL_one (hnn.nth _)) rfl) (by omega) ?_; intro A9 c9 w9 hN9 hg9; exact hK _ w9 nofun (keepK_grown hN.rowB hg9 hsz inferInstance ⟨inferInstance, inferInstance, inferInstance, inferInstance, inferInstance, inferInstance, inferInstance, inferInstance, inferInstance, inferInstance, inferInstance, inferInstance, inferInstance, trivial⟩ ⟨.inr inferInstance, .inr inferInstance, .inr inferInstance, .inr inferInstance, .inr inferInstance, .inr inferInstance, .inr inferInstance, .inr inferInstance, .inr inferInstance, .inr inferInstance, .inl rfl, .inl rfl, .inr inferInstance, .inl rfl, trivial⟩ hS) ⟨A9, c9, rfl, hN9⟩
            · intro a w' hS hO hF' hP K hK; have ha := hO 5 (by rfl); refine if_ok (by rfl) ?_; refine wp_fa0 _ rfl (ev ha) ?_; exact hK _ w' nofun (keepK_same hS) rfl
            · intro a w' hS hO hF' hP K hK; obtain ⟨_, f0, rfl⟩ := (hF' 12 rfl).1 44 _ rfl rfl; obtain ⟨_, f1, A9, c9, rfl, hN⟩ := (hF' 11 rfl).1 43 _ rfl rfl; have O := hP 13 _ (by rfl) rfl; refine if_ok (by rfl) ?_; refine wp_st0 _ _ rfl (ev f0) (ev f1) O ?_; exact hK _ _ (fun _ => rfl) (keepK_store O inferInstance ⟨inferInstance, inferInstance, inferInstance, inferInstance, inferInstance, inferInstance, inferInstance, inferInstance, inferInstance, inferInstance, inferInstance, inferInstance, inferInstance, trivial⟩ ⟨inferInstance, inferInstance, inferInstance, inferInstance, inferInstance, inferInstance, inferInstance, inferInstance, inferInstance, inferInstance, inferInstance, inferInstance, inferInstance, trivial⟩ hS) ⟨A9, c9, O.row, hN.row O⟩
          · intro vs u hl hS hV
            match vs, hl, hV with
            | [v0, v1, v2, v3, v4, v5, v6, v7, v8, v9, v10, v11, v12, v13], _, hV =>
              simp only [puts, Act.put, List.setIfInBounds_toArray, List.set_cons_zero, List.set_cons_succ]
              obtain ⟨A9, c9, OU, hN9⟩ := hV 13 _ rfl rfl
              have hbx := hS.2.2.2
              have h0 := hS.1
              have h1 := hS.2.1
              clear hV hS
              go_wp2
              go_roundw
              case rel => exact ⟨j + 1, A9, c9, by omega, by go_num, Lib.hid h0, Lib.hid h1, Lib.hid OU, Lib.hid (by rw [tab_snoc, hext.out]; exact hN9), Lib.hid hbx⟩
              case measure => simp [intOf]; omega
    · obtain rfl : j = M := by omega
      have g0 := H1.out.cell 0
      have g1 := H1.out.cell 1
      have g2 := H1.out.free 0
      have g3 := H1.out.free 1
      have k0 := H2.out.cell 0
      have k1 := H2.out.cell 1
      have hlj : (tab j (ext ⟨l, s⟩)).length = j := tab_len _ _
      replace hlj := Lib.hid hlj
      go_wp2
      exact ret_vec Tryz.results134 rfl rfl (H1.out.put2 _ _) (RetV.mk' (v := ⟨tab j (ext ⟨l, s⟩), s⟩) ((HN.out.setT H1.out (by decide) 0 _).setT (H1.out.put 0 _) (by decide) 1 _) (below_set2 HB.out (Nat.le_succ _) _ _))
end Go.Proofs.YtognpmggfplekaaGreatDoor

namespace Go.Proofs.YtognpmggfplekaaGreatDoor
open Go Go.RowKit

def rdb (w : World) (A : Option Addr) (n x : Nat) : World → Prop := fun u => B.Rd u A n x ∧ ∀ b o, A = some ⟨b, o, none⟩ → 0 < n → b < w.heap.size
theorem rdb.of {w u : World} {A : Option Addr} {n x : Nat} (h : B.Rd w A n x) (hb : Below w.heap.size w u) : rdb w A n x u := ⟨h.step hb, fun b o e hn => by
  obtain ⟨b', o', e', hlt, _⟩ := h.2 hn
  rw [e] at e'
  simp only [Option.some.injEq, Addr.mk.injEq, and_true] at e'
  rw [e'.1]; exact hlt⟩
instance (w : World) (A : Option Addr) (n x : Nat) : Stb (rdb w A n x) := ⟨fun _ _ hb ⟨h, k⟩ => ⟨h.step hb, k⟩⟩
theorem rdb_cell {w u : World} {b o n k x : Nat} (h : rdb w (some ⟨b, o, none⟩) n x u) (hk : k < n) : u.cell? ⟨b, o + k, none⟩ = some (.bool (x.testBit k)) := by
  obtain ⟨b', o', e, _, hc⟩ := h.1.at_ hk
  have e1 := Option.some.inj e
  simp only [Addr.mk.injEq, and_true] at e1
  obtain ⟨rfl, rfl⟩ := e1
  exact hc
instance (w : World) (A : Option Addr) (n x : Nat) : Sgr w.heap.size (rdb w A n x) := ⟨fun u u' row hr hg _ ⟨h, k⟩ => ⟨⟨h.1, fun hn => by
  obtain ⟨b, o, e, hlt, hc⟩ := h.2 hn
  have hne : some b ≠ row := fun x => by have := (hr b x.symm).1; have := k b o e hn; omega
  exact ⟨b, o, e, Nat.lt_of_lt_of_le hlt hg.size, fun i hi => grown_cell hg hne (hc i hi)⟩⟩, k⟩⟩
instance (w : World) (g : Nat) (A : Option Addr) (n x : Nat) [V : Over w g] : Sst g (rdb w A n x) := ⟨fun u X a b s cs O ⟨h, k⟩ => ⟨⟨h.1, fun hn => by
  obtain ⟨b', o, e, hlt, hc⟩ := h.2 hn
  have hne : b' ≠ g := fun e2 => by have := k b' o e hn; have := V.le; omega
  refine ⟨b', o, e, by simpa [World.setRow] using hlt, fun i hi => ?_⟩
  have e3 : (u.setRow g cs).heap[b']? = u.heap[b']? := setRow_other u g b' cs hne
  have h5 := hc i hi
  unfold World.cell? at h5 ⊢
  simp only [e3]
  exact h5⟩, k⟩⟩
theorem fromI_nn (b : Bool) : 0 ≤ fromI b := by cases b <;> decide
section
variable {o : Oper} {a : Act} {w : World} {K : Act → World → Prop} {Q : Exit → Act → World → Prop}
theorem run_ixB (b p n c k : Nat) (hk : k < n) (W : World) : (Instr.indexAt 90 (.slice (some ⟨b, p, none⟩) n c) (.int .i64 k)).run Tryz.prog W = .ok (.pointer (some ⟨b, p + k, none⟩)) W := by
  have i1 : (k : Int) < n := by omega
  have i0 : (0 : Int) ≤ k := by omega
  simp [go_sem, i0, i1]
theorem wp_ixB (x y : Operand) (ho : o.op = .indexAddr 90 x y) {b p n c k : Nat} (hx : a.eval x = .slice (some ⟨b, p, none⟩) n c) (hy : a.eval y = .int .i64 k) (hk : k < n) (h : K (a.put o.dst (.pointer (some ⟨b, p + k, none⟩))) w) : o.wp Tryz.prog a w K Q := by
  refine wp_val ?_ h
  unfold execOp
  simp only [ho, hx, hy, Sem.run_bind, run_ixB _ _ _ _ _ hk, Result.andThen_ok, Sem.run_pure]
end
set_option maxHeartbeats 4000000 in
theorem rFromBools_any (A : Option Addr) (n c x : Nat) (s : Bool) (w : World) (h : B.Rd w A n x) (hn : n ≤ 1000) :
    Calls Tryz.prog 132 #[.slice A n c, .bool s] w (RetV w ⟨frN n x, s⟩) := by
  have O0 := ((Own.at1 w 24 #[.slice none 0 0, .bool false] (g := w.heap.size) (by simp)).alloc (.cells #[.slice none 0 0, .bool s] 24))
  have O1 := (Own.at1 (w.alloc (.cells #[.slice none 0 0, .bool false] 24)) 24 #[.slice none 0 0, .bool s] (g := w.heap.size + 1) (by simp))
  have BB := (below_new (below_new (Below.refl w.heap.size w) (.cells #[.slice none 0 0, .bool false] 24)) (.cells #[.slice none 0 0, .bool s] 24))
  have qO10 := O1.cell 0; have qO11 := O1.cell 1; have fO10 := O1.free 0; have fO11 := O1.free 1
  replace h := Lib.hid h
  go_enter Tryz.func132, Tryz.ntmps132
  go_wp2
  go_loopw [6] (fun i wr => ∃ (j : Nat) (A' : Option Addr) (c' : Nat), j ≤ n ∧ i = .int .i64 j ∧ Hid (Own wr w.heap.size 24 #[.slice none 0 0, .bool false]) ∧ Hid (Own wr (w.heap.size + 1) 24 #[.slice A' j c', .bool s]) ∧ Hid (Nb wr w.heap.size A' j c' (frN j x)) ∧ Hid (Below w.heap.size w wr)) (fun i _ => n - (intOf i).toNat)
  case atStart => exact ⟨0, none, 0, Nat.zero_le _, rfl, Lib.hid O0, Lib.hid O1, Lib.hid (Nb.nil _ _), Lib.hid BB⟩
  case round =>
    clear O0 O1 BB qO10 qO11 fO10 fO11
    obtain ⟨j, A', c', hj, rfl, H0, H1, HN, HB⟩ := hrel
    by_cases hlt : j < n
    · have d1 : (j : Int) < n := by omega
      obtain ⟨b1, o1, rfl, hb1, hc1⟩ := h.out.2 (by omega)
      have hS0 : owns w.heap.size #[.slice none 0 0, .bool false] wr.drew ∧ (rdb w (some ⟨b1, o1, none⟩) n x wr.drew ∧ blw w wr.drew) := ⟨H0.out, rdb.of h.out HB.out.drew, HB.out.drew⟩
      have hP1 : nbs w.heap.size A' j c' (frN j x) wr.drew := HN.out
      have hP2 : owns (w.heap.size + 1) #[.slice A' j c', .bool s] wr.drew := H1.out
      haveI : Over w (w.heap.size + 1) := ⟨by omega⟩
      haveI : Apart (w.heap.size + 1) w.heap.size := ⟨by omega⟩
      clear hc1 H0 H1 HN HB
      go_wp2
      refine region_k (by kernel_rfl) (fun u => owns w.heap.size #[.slice none 0 0, .bool false] u ∧ (rdb w (some ⟨b1, o1, none⟩) n x u ∧ blw w u)) [tru, tru, tru, tru, tru, tru, tru, tru, nbs w.heap.size A' j c' (frN j x), tru, owns (w.heap.size + 1) #[.slice A' j c', .bool s]] [isV (.pointer (some ⟨(w.heap.size + 1), 0, none⟩)), isV (.slice A' j c'), isV (.slice (some ⟨b1, o1, none⟩) n c), isV (.int .i64 j), isV (.pointer (some ⟨b1, o1 + j, none⟩)), isV (.bool (x.testBit j)), isV (.int .u8 (fromI (x.testBit j))), isOne w.heap.size (fromI (x.testBit j)), isNbL w.heap.size (j + 1) (frN j x ++ [(fromI (x.testBit j))]), isV (.pointer (some ⟨(w.heap.size + 1), 0, none⟩)), didL w.heap.size (w.heap.size + 1) (j + 1) (frN j x ++ [(fromI (x.testBit j))]) s] [some 15, some 16, some 17, some 18, some 19, some 20, some 21, some 22, some 23, some 24, none] [[], [0], [], [], [2, 3], [4], [5], [6], [1, 7, 6], [0, 1, 2, 3, 4, 5, 6, 7, 8], [9, 8, 8, 0, 1, 2, 3, 4, 5, 6, 7, 8]] [[], [0], [], [], [2, 3], [4], [5], [6], [1, 7], [], [9, 8]] [[], [], [], [], [], [], [], [], [7], [], []] [[], [], [], [], [], [], [], [], [7, 10], [], []] (by kernel_rfl) (by kernel_rfl) (by kernel_rfl) (by kernel_rfl) (by kernel_rfl) rfl (by kernel_rfl) (by kernel_rfl) (by kernel_rfl) hS0 (by
        intro U hU
        simp only [List.mem_cons, List.not_mem_nil, or_false] at hU
        rcases hU with rfl | rfl | rfl | rfl | rfl | rfl | rfl | rfl | rfl | rfl | rfl
        all_goals first | trivial | exact hP1 | exact hP2) ?_ ?_
      · refine ⟨?_, ?_, ?_, ?_, ?_, ?_, ?_, ?_, ?_, ?_, ?_, trivial⟩
        · intro a w' hS hO hF' hP K hK; have ha := hO 5 (by rfl); refine if_ok (by rfl) ?_; refine wp_fa0 _ rfl (ev ha) ?_; exact hK _ w' nofun (keepK_same hS) rfl
        · intro a w' hS hO hF' hP K hK; have O := hP 10 _ (by rfl) rfl; obtain ⟨_, f0, rfl⟩ := (hF' 0 rfl).1 15 _ rfl rfl; refine if_ok (by rfl) ?_; refine wp_ldS _ rfl (ev f0) (O.cell 0) ?_; exact hK _ w' nofun (keepK_same hS) rfl
        · intro a w' hS hO hF' hP K hK; have ha := hO 0 (by rfl); refine if_ok (by rfl) ?_; unfold Oper.wp execOp; simp only [Sem.run_pure, ev ha]; exact hK _ w' nofun (keepK_same hS) rfl
        · intro a w' hS hO hF' hP K hK; have ha := hO 6 (by rfl); refine if_ok (by rfl) ?_; unfold Oper.wp execOp; simp only [Sem.run_pure, ev ha]; exact hK _ w' nofun (keepK_same hS) rfl
        · intro a w' hS hO hF' hP K hK; obtain ⟨_, f0, rfl⟩ := (hF' 2 rfl).1 17 _ rfl rfl; obtain ⟨_, f1, rfl⟩ := (hF' 3 rfl).1 18 _ rfl rfl; refine if_ok (by rfl) ?_; refine wp_ixB _ _ rfl (ev f0) (ev f1) hlt ?_; exact hK _ w' nofun (keepK_same hS) rfl
        · intro a w' hS hO hF' hP K hK; obtain ⟨_, f0, rfl⟩ := (hF' 4 rfl).1 19 _ rfl rfl; refine if_ok (by rfl) ?_; refine wp_ldB _ rfl (ev f0) (rdb_cell hS.2.1 hlt) ?_; exact hK _ w' nofun (keepK_same hS) rfl
        · intro a w' hS hO hF' hP K hK; obtain ⟨_, f0, rfl⟩ := (hF' 5 rfl).1 20 _ rfl rfl; refine if_ok (by rfl) ?_; refine wp_calls rfl (enters_of Tryz.func188 (by kernel_rfl) rfl) (args := #[.bool (x.testBit j)]) (by simp [Act.eval, f0]) ?_; refine (rfrom_any _ _).mono ?_; rintro e w2 ⟨rfl, q, rfl⟩; exact ⟨_, rfl, hK _ _ nofun (keepK_below (below_drewN (Below.refl _ _) q) hS) rfl⟩
        · intro a w' hS hO hF' hP K hK; obtain ⟨_, f0, rfl⟩ := (hF' 6 rfl).1 21 _ rfl rfl; have hsz := hS.2.2.size; refine if_ok (by rfl) ?_; refine wp_bs1 _ rfl (ev f0) ?_; exact hK _ _ nofun (keepK_below (below_new (Below.refl _ _) _) hS) ⟨_, rfl, Own.new _ _ _, hsz⟩
        · intro a w' hS hO hF' hP K hK; obtain ⟨_, f0, rfl⟩ := (hF' 1 rfl).1 16 _ rfl rfl; obtain ⟨_, f1, g0, rfl, hO1, hg1⟩ := (hF' 7 rfl).1 22 _ rfl rfl; have hN := hP 8 _ (by rfl) rfl; have hsz := hS.2.2.size; refine if_ok (by rfl) ?_; refine wp_cat _ _ rfl rfl hsz (ev f0) hN (ev f1) (Rb.of_own hO1 (nnL_one (fromI_nn _)) rfl) (by omega) ?_; intro A9 c9 w9 hN9 hg9; exact hK _ w9 nofun (keepK_grown hN.rowB hg9 hsz inferInstance ⟨inferInstance, inferInstance, inferInstance, inferInstance, inferInstance, inferInstance, inferInstance, inferInstance, inferInstance, inferInstance, trivial⟩ ⟨.inr inferInstance, .inr inferInstance, .inr inferInstance, .inr inferInstance, .inr inferInstance, .inr inferInstance, .inr inferInstance, .inl rfl, .inl rfl, .inr inferInstance, .inl rfl, trivial⟩ hS) ⟨A9, c9, rfl, hN9⟩
        · intro a w' hS hO hF' hP K hK; have ha := hO 5 (by rfl); refine if_ok (by rfl) ?_; refine wp_fa0 _ rfl (ev ha) ?_; exact hK _ w' nofun (keepK_same hS) rfl
        · intro a w' hS hO hF' hP K hK; obtain ⟨_, f0, rfl⟩ := (hF' 9 rfl).1 24 _ rfl rfl; obtain ⟨_, f1, A9, c9, rfl, hN⟩ := (hF' 8 rfl).1 23 _ rfl rfl; have O := hP 10 _ (by rfl) rfl; refine if_ok (by rfl) ?_; refine wp_st0 _ _ rfl (ev f0) (ev f1) O ?_; exact hK _ _ (fun _ => rfl) (keepK_store O inferInstance ⟨inferInstance, inferInstance, inferInstance, inferInstance, inferInstance, inferInstance, inferInstance, inferInstance, inferInstance, inferInstance, trivial⟩ ⟨inferInstance, inferInstance, inferInstance, inferInstance, inferInstance, inferInstance, inferInstance, inferInstance, inferInstance, inferInstance, trivial⟩ hS) ⟨A9, c9, O.row, hN.row O⟩
      · intro vs u hl hS hV
        match vs, hl, hV with
        | [v0, v1, v2, v3, v4, v5, v6, v7, v8, v9, v10], _, hV =>
          simp only [puts, Act.put, List.setIfInBounds_toArray, List.set_cons_zero, List.set_cons_succ]
          obtain ⟨A9, c9, OU, hN9⟩ := hV 10 _ rfl rfl
          have hbx := hS.2.2
          have h1 := hS.1
          clear hV hS
          go_wp2
          go_roundw
          case rel => exact ⟨j + 1, A9, c9, by omega, by go_num, Lib.hid h1, Lib.hid OU, Lib.hid (by rw [frN, tab_snoc]; exact hN9), Lib.hid hbx⟩
          case measure => simp [intOf]; omega
    · obtain rfl : j = n := by omega
      have g0 := H0.out.cell 0
      have g1 := H0.out.cell 1
      have g2 := H0.out.free 0
      have g3 := H0.out.free 1
      have k0 := H1.out.cell 0
      have k1 := H1.out.cell 1
      go_wp2
      exact ret_vec Tryz.results132 rfl rfl (H0.out.put2 _ _) (RetV.mk' (v := ⟨frN j x, s⟩) ((HN.out.setT H0.out (by decide) 0 _).setT (H0.out.put 0 _) (by decide) 1 _) (below_set2 HB.out (Nat.le_refl _) _ _))
end Go.Proofs.YtognpmggfplekaaGreatDoor

namespace Go.Proofs.YtognpmggfplekaaGreatDoor
open Go Go.RowKit

theorem num_snoc : ∀ (l : List Int) (b : Int), num (l ++ [b]) = num l + 2 ^ l.length * (b == 1).toNat
  | [], b => by
    simp only [List.nil_append, num, List.length_nil, Nat.pow_zero]
    by_cases h : b = 1
    · subst h; rfl
    · rw [if_neg h, show (b == 1) = false by simpa using h]; rfl
  | a :: l, b => by
    rw [List.cons_append, num, num_snoc l b, num, List.length_cons, Nat.pow_succ]
    generalize 2 ^ l.length = p
    generalize (b == 1).toNat = q
    rw [Nat.mul_add, Nat.mul_comm p 2, Nat.mul_assoc, Nat.add_assoc]
theorem take_snoc {l : List Int} {j : Nat} (h : j < l.length) : l.take (j + 1) = l.take j ++ [nth l j] := by
  rw [List.take_add_one, nth, List.getD_eq_getElem?_getD, List.getElem?_eq_getElem h]; rfl
theorem num_nextB {l : List Int} {j : Nat} (h : j < l.length) : num (l.take (j + 1)) = num (l.take j) + 2 ^ j * (nth l j == 1).toNat := by
  rw [take_snoc h, num_snoc, List.length_take, Nat.min_eq_left (by omega)]
set_option maxHeartbeats 2000000 in
theorem rBools_any (A : Option Addr) (n c : Nat) (s : Bool) (l : List Int) (w : World) (h : Rb w A n l) (hn : n ≤ 1000) :
    Calls Tryz.prog 114 #[.agg #[.slice A n c, .bool s]] w (B.RetN w n (num l)) := by
  have O0 := (Own.at1 w 24 #[.slice A n c, .bool s] (g := w.heap.size) (by simp))
  have BB := (below_new (Below.refl w.heap.size w) (.cells #[.slice A n c, .bool s] 24))
  have hl := h.len
  have hb0 := h.step BB
  have q0 := O0.cell 0
  replace hl := Lib.hid hl
  replace h := Lib.hid h
  go_enter Tryz.func114, Tryz.ntmps114
  go_wp2
  generalize (w.alloc (.cells #[.slice A n c, .bool s] 24)) = W0 at *
  go_loopw [3, 4] (fun r i wr => ∃ (j : Nat) (A' : Option Addr) (c' : Nat), j ≤ n ∧ i = .int .i64 j ∧ r = .slice A' j c' ∧ Hid (Own wr w.heap.size 24 #[.slice A n c, .bool s]) ∧ Hid (B.Nw wr W0.heap.size A' j c' (num (l.take j))) ∧ Hid (Below W0.heap.size W0 wr)) (fun _ i _ => n - (intOf i).toNat)
  case atStart => exact ⟨0, none, 0, Nat.zero_le _, rfl, rfl, Lib.hid O0, Lib.hid (B.Nw.nil _ _), Lib.hid (Below.refl _ _)⟩
  case round =>
    obtain ⟨j, A', c', hj, rfl, rfl, H0, HN, HB⟩ := hrel
    have p0 := H0.out.cell 0
    by_cases hlt : j < n
    · obtain ⟨b1, o1, rfl, hl1, hc1⟩ := (hb0.step HB.out).at_ hlt
      have i1 : (j : Int) < n := by omega
      have hnx := Lib.hid (num_nextB (l := l) (by rw [hl.out]; exact hlt))
      have hlt0 := O0.lt
      have HB1 := HB.out
      have HN1 := HN.out
      replace hb0 := Lib.hid hb0
      generalize hy : nth l j = y at *
      clear q0
      go_wp2_with (at_builtin; refine B.wpList_push rfl (.tmp 12) (.tmp 19) rfl rfl HB1 rfl HN1 _ rfl (y == 1) rfl (by omega) ?_; intro A9 c9 w9 hN9 hb9)
      go_roundw
      case rel => exact ⟨j + 1, A9, c9, by omega, by go_num, rfl, Lib.hid (O0.step hb9), Lib.hid (by rw [hnx.out]; exact hN9), Lib.hid hb9⟩
      case measure => simp [intOf]; omega
    · obtain rfl : j = n := by omega
      have e : l.take j = l := List.take_of_length_le (by rw [hl.out]; exact Nat.le_refl _)
      have HN1 := HN.out
      rw [e] at HN1
      clear hb0
      go_wp2
      go_ret
      exact ⟨_, _, rfl, HN1.mono BB.size, below_step BB HB.out⟩
end Go.Proofs.YtognpmggfplekaaGreatDoor

namespace Go.Proofs.YtognpmggfplekaaGreatDoor
open Go Go.RowKit

end Go.Proofs.YtognpmggfplekaaGreatDoor

namespace Go.Proofs.YtognpmggfplekaaGreatDoor
open Go Go.RowKit

theorem ent_rfit : Ent 134 := enters_of Tryz.func134 (by kernel_rfl) rfl
set_option maxHeartbeats 4000000 in
theorem rBalance_any (A B : Option Addr) (n m c d : Nat) (s t : Bool) (l k : List Int) (w : World) (h : Rb w A n l) (h' : Rb w B m k) (hn : n ≤ 1000000) (hm : m ≤ 1000000) :
    Calls Tryz.prog 103 #[.agg #[.slice A n c, .bool s], .agg #[.slice B m d, .bool t]] w (RetP w (balL ⟨l, s⟩ ⟨k, t⟩) (balR ⟨l, s⟩ ⟨k, t⟩)) := by
  have HA := Lib.hid fun (u : World) (hr : Rb u A n l) => (rNorm_any A n c s l u hr hn).mono fun _ _ => RetV.retR
  have HB := Lib.hid fun (u : World) (hr : Rb u B m k) => (rNorm_any B m d t k u hr hm).mono fun _ _ => RetV.retR
  have b1 := nrm_len ⟨l, s⟩
  have b2 := nrm_len ⟨k, t⟩
  unfold balL balR balS balN
  generalize nrm ⟨l, s⟩ = x at *
  generalize nrm ⟨k, t⟩ = y at *
  obtain ⟨lx, sx⟩ := x
  obtain ⟨ly, sy⟩ := y
  simp only at *
  obtain ⟨N1, hN1⟩ : ∃ N1, lx.length = N1 := ⟨_, rfl⟩
  obtain ⟨N2, hN2⟩ : ∃ N2, ly.length = N2 := ⟨_, rfl⟩
  rw [hN1] at b1 ⊢
  rw [hN2] at b2 ⊢
  have R0 := Lib.hid h
  have R1 := Lib.hid h'
  clear h h'
  have O0 := (((Own.new w 24 #[.slice A n c, .bool s]).alloc (.cells #[.slice B m d, .bool t] 24)).alloc (.cells #[.slice none 0 0, .bool false] 24)).alloc (.cells #[.slice none 0 0, .bool false] 24)
  have O1 := ((Own.at1 (w.alloc (.cells #[.slice A n c, .bool s] 24)) 24 #[.slice B m d, .bool t] (g := w.heap.size + 1) (by simp)).alloc (.cells #[.slice none 0 0, .bool false] 24)).alloc (.cells #[.slice none 0 0, .bool false] 24)
  have O2 := (Own.at1 ((w.alloc (.cells #[.slice A n c, .bool s] 24)).alloc (.cells #[.slice B m d, .bool t] 24)) 24 #[.slice none 0 0, .bool false] (g := w.heap.size + 1 + 1) (by simp)).alloc (.cells #[.slice none 0 0, .bool false] 24)
  have O3 := Own.at1 (((w.alloc (.cells #[.slice A n c, .bool s] 24)).alloc (.cells #[.slice B m d, .bool t] 24)).alloc (.cells #[.slice none 0 0, .bool false] 24)) 24 #[.slice none 0 0, .bool false] (g := w.heap.size + 1 + 1 + 1) (by simp)
  have BB := below_new (below_new (below_new (below_new (Below.refl w.heap.size w) (.cells #[.slice A n c, .bool s] 24)) (.cells #[.slice B m d, .bool t] 24)) (.cells #[.slice none 0 0, .bool false] 24)) (.cells #[.slice none 0 0, .bool false] 24)
  go_enter Tryz.func103, Tryz.ntmps103
  go_wp2
  haveI : Over w w.heap.size := ⟨Nat.le_refl _⟩
  haveI : Over w (w.heap.size + 1) := ⟨by omega⟩
  haveI : Apart w.heap.size (w.heap.size + 1 + 1) := ⟨by omega⟩
  haveI : Apart w.heap.size (w.heap.size + 1 + 1 + 1) := ⟨by omega⟩
  haveI : Apart (w.heap.size + 1) (w.heap.size + 1 + 1) := ⟨by omega⟩
  haveI : Apart (w.heap.size + 1) (w.heap.size + 1 + 1 + 1) := ⟨by omega⟩
  haveI : Over w (w.heap.size + 1 + 1) := ⟨by omega⟩
  haveI : Over w (w.heap.size + 1 + 1 + 1) := ⟨by omega⟩
  refine pair_region (x := ⟨lx, sx⟩) (y := ⟨ly, sy⟩) (fun u => blw w u ∧ (owns (w.heap.size + 1 + 1) #[.slice none 0 0, .bool false] u ∧ owns (w.heap.size + 1 + 1 + 1) #[.slice none 0 0, .bool false] u)) _ _ _ _ _ _ rfl ⟨rfl, rfl⟩ ⟨rfl, rfl⟩ ⟨rfl, rfl⟩ ⟨rfl, rfl⟩ ⟨rfl, rfl⟩ ⟨rfl, rfl⟩ rfl (by kernel_rfl) (by kernel_rfl) (by kernel_rfl) ⟨by kernel_rfl, by kernel_rfl⟩ (by kernel_rfl) rfl rfl (by omega) ent_rnorm ent_rnorm ⟨below_drew BB, O2.drew, O3.drew⟩ O0 O1 (fun u hS => HA.out u (R0.out.step hS.1)) (fun u hS => HB.out u (R1.out.step hS.1)) ?_
  intro v0 v1 v2 v3 u A1 c1 A2 c2 hS P0 r1 P1 r2
  simp only [Act.put, List.setIfInBounds_toArray, List.set_cons_zero, List.set_cons_succ]
  obtain ⟨hb, P2, P3⟩ := hS
  simp only [hN1, hN2] at r1 r2 P0 P1
  clear HA HB R0 R1 O0 O1 O2 O3 BB
  have r1 := Lib.hid r1
  have r2 := Lib.hid r2
  have hb := Lib.hid hb
  have P2 := Lib.hid P2
  have P3 := Lib.hid P3
  have q00 := P0.cell 0
  have q01 := P0.cell 1
  have q10 := P1.cell 0
  have q11 := P1.cell 1
  have f01 := P0.free 1
  have f11 := P1.free 1
  have P0 := Lib.hid P0
  have P1 := Lib.hid P1
  replace hN1 := Lib.hid hN1
  replace hN2 := Lib.hid hN2
  have htri : N1 < N2 ∨ N1 = N2 ∨ N2 < N1 := by omega
  cases sx <;> cases sy
  · rcases htri with ht | rfl | ht
    · have hmax : max N1 N2 = N2 := by omega
      go_wp2
      have e0 := (P0.out.puts (.bool false)).far (p := ⟨w.heap.size + 1, 1, none⟩) (Nat.ne_of_lt (Nat.lt_succ_self _)) (.bool false)
      have e1 := (P1.out.far (p := ⟨w.heap.size, 1, none⟩) (Nat.succ_ne_self _) (.bool false)).puts (.bool false)
      have e2 := (P2.out.far (p := ⟨w.heap.size, 1, none⟩) (fun e => absurd (show w.heap.size + 1 + 1 = w.heap.size from e) (by omega)) (.bool false)).far (p := ⟨w.heap.size + 1, 1, none⟩) (fun e => absurd (show w.heap.size + 1 + 1 = w.heap.size + 1 from e) (by omega)) (.bool false)
      have e3 := (P3.out.far (p := ⟨w.heap.size, 1, none⟩) (fun e => absurd (show w.heap.size + 1 + 1 + 1 = w.heap.size from e) (by omega)) (.bool false)).far (p := ⟨w.heap.size + 1, 1, none⟩) (fun e => absurd (show w.heap.size + 1 + 1 + 1 = w.heap.size + 1 from e) (by omega)) (.bool false)
      have d0 := (r1.out.set1 (i := 1) P0.out (.bool false)).set1 (i := 1) (P1.out.far (p := ⟨w.heap.size, 1, none⟩) (Nat.succ_ne_self _) (.bool false)) (.bool false)
      have d1 := (r2.out.set1 (i := 1) P0.out (.bool false)).set1 (i := 1) (P1.out.far (p := ⟨w.heap.size, 1, none⟩) (Nat.succ_ne_self _) (.bool false)) (.bool false)
      have hb2 := below_set (p := ⟨w.heap.size + 1, 1, none⟩) (below_set (p := ⟨w.heap.size, 1, none⟩) hb.out (Nat.le_refl _) (.bool false)) (by simp) (.bool false)
      refine fits_region (M := N2) (B := w.heap.size) (x := fitV ⟨lx, false⟩ N2) (y := fitV ⟨ly, false⟩ N2) (fun u => blw w u ∧ (rds A1 N1 lx u ∧ rds A2 N2 ly u)) _ _ _ _ _ _ _ _ rfl ⟨rfl, rfl⟩ ⟨rfl, rfl⟩ ⟨rfl, rfl⟩ ⟨rfl, rfl⟩ ⟨rfl, rfl⟩ ⟨rfl, rfl⟩ ⟨rfl, rfl⟩ ⟨rfl, rfl⟩ rfl (by kernel_rfl) (by kernel_rfl) (by kernel_rfl) (by kernel_rfl) (by kernel_rfl) rfl rfl rfl rfl rfl (by omega) (by omega) (by omega) (by omega) (by omega) ent_rfit ⟨below_drew hb2, d0.drew, d1.drew⟩ hb2.size e0 e1 e2 e3 (fun u hS => rfit_any A1 N1 c1 N2 false lx u hS.2.1 (by omega) (by omega) (by omega)) (fun u hS => rfit_any A2 N2 c2 N2 false ly u hS.2.2 (by omega) (by omega) (by omega)) ?_
      intro v0 v1 v2 v3 v4 v5 u2 B1 d1 B2 d2 hS O4 n1 O5 n2
      simp only [Act.put, List.setIfInBounds_toArray, List.set_cons_zero, List.set_cons_succ]
      go_wp2
      exact ret_vec2 Tryz.results103 rfl rfl rfl O4 O5 (by rw [hmax]; exact ⟨B1, d1, B2, d2, rfl, n1, n2, hS.1⟩)
    · have hmax : max N1 N1 = N1 := by omega
      go_wp2
      have e0 := (P0.out.puts (.bool false)).far (p := ⟨w.heap.size + 1, 1, none⟩) (Nat.ne_of_lt (Nat.lt_succ_self _)) (.bool false)
      have e1 := (P1.out.far (p := ⟨w.heap.size, 1, none⟩) (Nat.succ_ne_self _) (.bool false)).puts (.bool false)
      have e2 := (P2.out.far (p := ⟨w.heap.size, 1, none⟩) (fun e => absurd (show w.heap.size + 1 + 1 = w.heap.size from e) (by omega)) (.bool false)).far (p := ⟨w.heap.size + 1, 1, none⟩) (fun e => absurd (show w.heap.size + 1 + 1 = w.heap.size + 1 from e) (by omega)) (.bool false)
      have e3 := (P3.out.far (p := ⟨w.heap.size, 1, none⟩) (fun e => absurd (show w.heap.size + 1 + 1 + 1 = w.heap.size from e) (by omega)) (.bool false)).far (p := ⟨w.heap.size + 1, 1, none⟩) (fun e => absurd (show w.heap.size + 1 + 1 + 1 = w.heap.size + 1 from e) (by omega)) (.bool false)
      have d0 := (r1.out.set1 (i := 1) P0.out (.bool false)).set1 (i := 1) (P1.out.far (p := ⟨w.heap.size, 1, none⟩) (Nat.succ_ne_self _) (.bool false)) (.bool false)
      have d1 := (r2.out.set1 (i := 1) P0.out (.bool false)).set1 (i := 1) (P1.out.far (p := ⟨w.heap.size, 1, none⟩) (Nat.succ_ne_self _) (.bool false)) (.bool false)
      have hb2 := below_set (p := ⟨w.heap.size + 1, 1, none⟩) (below_set (p := ⟨w.heap.size, 1, none⟩) hb.out (Nat.le_refl _) (.bool false)) (by simp) (.bool false)
      refine fits_region (M := N1) (B := w.heap.size) (x := fitV ⟨lx, false⟩ N1) (y := fitV ⟨ly, false⟩ N1) (fun u => blw w u ∧ (rds A1 N1 lx u ∧ rds A2 N1 ly u)) _ _ _ _ _ _ _ _ rfl ⟨rfl, rfl⟩ ⟨rfl, rfl⟩ ⟨rfl, rfl⟩ ⟨rfl, rfl⟩ ⟨rfl, rfl⟩ ⟨rfl, rfl⟩ ⟨rfl, rfl⟩ ⟨rfl, rfl⟩ rfl (by kernel_rfl) (by kernel_rfl) (by kernel_rfl) (by kernel_rfl) (by kernel_rfl) rfl rfl rfl rfl rfl (by omega) (by omega) (by omega) (by omega) (by omega) ent_rfit ⟨below_drew hb2, d0.drew, d1.drew⟩ hb2.size e0 e1 e2 e3 (fun u hS => rfit_any A1 N1 c1 N1 false lx u hS.2.1 (by omega) (by omega) (by omega)) (fun u hS => rfit_any A2 N1 c2 N1 false ly u hS.2.2 (by omega) (by omega) (by omega)) ?_
      intro v0 v1 v2 v3 v4 v5 u2 B1 d1 B2 d2 hS O4 n1 O5 n2
      simp only [Act.put, List.setIfInBounds_toArray, List.set_cons_zero, List.set_cons_succ]
      go_wp2
      exact ret_vec2 Tryz.results103 rfl rfl rfl O4 O5 (by rw [hmax]; exact ⟨B1, d1, B2, d2, rfl, n1, n2, hS.1⟩)
    · have hmax : max N1 N2 = N1 := by omega
      go_wp2
      have e0 := (P0.out.puts (.bool false)).far (p := ⟨w.heap.size + 1, 1, none⟩) (Nat.ne_of_lt (Nat.lt_succ_self _)) (.bool false)
      have e1 := (P1.out.far (p := ⟨w.heap.size, 1, none⟩) (Nat.succ_ne_self _) (.bool false)).puts (.bool false)
      have e2 := (P2.out.far (p := ⟨w.heap.size, 1, none⟩) (fun e => absurd (show w.heap.size + 1 + 1 = w.heap.size from e) (by omega)) (.bool false)).far (p := ⟨w.heap.size + 1, 1, none⟩) (fun e => absurd (show w.heap.size + 1 + 1 = w.heap.size + 1 from e) (by omega)) (.bool false)
      have e3 := (P3.out.far (p := ⟨w.heap.size, 1, none⟩) (fun e => absurd (show w.heap.size + 1 + 1 + 1 = w.heap.size from e) (by omega)) (.bool false)).far (p := ⟨w.heap.size + 1, 1, none⟩) (fun e => absurd (show w.heap.size + 1 + 1 + 1 = w.heap.size + 1 from e) (by omega)) (.bool false)
      have d0 := (r1.out.set1 (i := 1) P0.out (.bool false)).set1 (i := 1) (P1.out.far (p := ⟨w.heap.size, 1, none⟩) (Nat.succ_ne_self _) (.bool false)) (.bool false)
      have d1 := (r2.out.set1 (i := 1) P0.out (.bool false)).set1 (i := 1) (P1.out.far (p := ⟨w.heap.size, 1, none⟩) (Nat.succ_ne_self _) (.bool false)) (.bool false)
      have hb2 := below_set (p := ⟨w.heap.size + 1, 1, none⟩) (below_set (p := ⟨w.heap.size, 1, none⟩) hb.out (Nat.le_refl _) (.bool false)) (by simp) (.bool false)
      refine fits_region (M := N1) (B := w.heap.size) (x := fitV ⟨lx, false⟩ N1) (y := fitV ⟨ly, false⟩ N1) (fun u => blw w u ∧ (rds A1 N1 lx u ∧ rds A2 N2 ly u)) _ _ _ _ _ _ _ _ rfl ⟨rfl, rfl⟩ ⟨rfl, rfl⟩ ⟨rfl, rfl⟩ ⟨rfl, rfl⟩ ⟨rfl, rfl⟩ ⟨rfl, rfl⟩ ⟨rfl, rfl⟩ ⟨rfl, rfl⟩ rfl (by kernel_rfl) (by kernel_rfl) (by kernel_rfl) (by kernel_rfl) (by kernel_rfl) rfl rfl rfl rfl rfl (by omega) (by omega) (by omega) (by omega) (by omega) ent_rfit ⟨below_drew hb2, d0.drew, d1.drew⟩ hb2.size e0 e1 e2 e3 (fun u hS => rfit_any A1 N1 c1 N1 false lx u hS.2.1 (by omega) (by omega) (by omega)) (fun u hS => rfit_any A2 N2 c2 N1 false ly u hS.2.2 (by omega) (by omega) (by omega)) ?_
      intro v0 v1 v2 v3 v4 v5 u2 B1 d1 B2 d2 hS O4 n1 O5 n2
      simp only [Act.put, List.setIfInBounds_toArray, List.set_cons_zero, List.set_cons_succ]
      go_wp2
      exact ret_vec2 Tryz.results103 rfl rfl rfl O4 O5 (by rw [hmax]; exact ⟨B1, d1, B2, d2, rfl, n1, n2, hS.1⟩)
  · rcases htri with ht | rfl | ht
    · have hmax : max N1 N2 = N2 := by omega
      go_wp2
      have e0 := (P0.out.puts (.bool false)).far (p := ⟨w.heap.size + 1, 1, none⟩) (Nat.ne_of_lt (Nat.lt_succ_self _)) (.bool false)
      have e1 := (P1.out.far (p := ⟨w.heap.size, 1, none⟩) (Nat.succ_ne_self _) (.bool false)).puts (.bool false)
      have e2 := (P2.out.far (p := ⟨w.heap.size, 1, none⟩) (fun e => absurd (show w.heap.size + 1 + 1 = w.heap.size from e) (by omega)) (.bool false)).far (p := ⟨w.heap.size + 1, 1, none⟩) (fun e => absurd (show w.heap.size + 1 + 1 = w.heap.size + 1 from e) (by omega)) (.bool false)
      have e3 := (P3.out.far (p := ⟨w.heap.size, 1, none⟩) (fun e => absurd (show w.heap.size + 1 + 1 + 1 = w.heap.size from e) (by omega)) (.bool false)).far (p := ⟨w.heap.size + 1, 1, none⟩) (fun e => absurd (show w.heap.size + 1 + 1 + 1 = w.heap.size + 1 from e) (by omega)) (.bool false)
      have d0 := (r1.out.set1 (i := 1) P0.out (.bool false)).set1 (i := 1) (P1.out.far (p := ⟨w.heap.size, 1, none⟩) (Nat.succ_ne_self _) (.bool false)) (.bool false)
      have d1 := (r2.out.set1 (i := 1) P0.out (.bool false)).set1 (i := 1) (P1.out.far (p := ⟨w.heap.size, 1, none⟩) (Nat.succ_ne_self _) (.bool false)) (.bool false)
      have hb2 := below_set (p := ⟨w.heap.size + 1, 1, none⟩) (below_set (p := ⟨w.heap.size, 1, none⟩) hb.out (Nat.le_refl _) (.bool false)) (by simp) (.bool false)
      refine fits_region (M := N2) (B := w.heap.size) (x := fitV ⟨lx, false⟩ N2) (y := fitV ⟨ly, false⟩ N2) (fun u => blw w u ∧ (rds A1 N1 lx u ∧ rds A2 N2 ly u)) _ _ _ _ _ _ _ _ rfl ⟨rfl, rfl⟩ ⟨rfl, rfl⟩ ⟨rfl, rfl⟩ ⟨rfl, rfl⟩ ⟨rfl, rfl⟩ ⟨rfl, rfl⟩ ⟨rfl, rfl⟩ ⟨rfl, rfl⟩ rfl (by kernel_rfl) (by kernel_rfl) (by kernel_rfl) (by kernel_rfl) (by kernel_rfl) rfl rfl rfl rfl rfl (by omega) (by omega) (by omega) (by omega) (by omega) ent_rfit ⟨below_drew hb2, d0.drew, d1.drew⟩ hb2.size e0 e1 e2 e3 (fun u hS => rfit_any A1 N1 c1 N2 false lx u hS.2.1 (by omega) (by omega) (by omega)) (fun u hS => rfit_any A2 N2 c2 N2 false ly u hS.2.2 (by omega) (by omega) (by omega)) ?_
      intro v0 v1 v2 v3 v4 v5 u2 B1 d1 B2 d2 hS O4 n1 O5 n2
      simp only [Act.put, List.setIfInBounds_toArray, List.set_cons_zero, List.set_cons_succ]
      go_wp2
      exact ret_vec2 Tryz.results103 rfl rfl rfl O4 O5 (by rw [hmax]; exact ⟨B1, d1, B2, d2, rfl, n1, n2, hS.1⟩)
    · have hmax : max N1 N1 = N1 := by omega
      go_wp2
      have e0 := (P0.out.puts (.bool false)).far (p := ⟨w.heap.size + 1, 1, none⟩) (Nat.ne_of_lt (Nat.lt_succ_self _)) (.bool false)
      have e1 := (P1.out.far (p := ⟨w.heap.size, 1, none⟩) (Nat.succ_ne_self _) (.bool false)).puts (.bool false)
      have e2 := (P2.out.far (p := ⟨w.heap.size, 1, none⟩) (fun e => absurd (show w.heap.size + 1 + 1 = w.heap.size from e) (by omega)) (.bool false)).far (p := ⟨w.heap.size + 1, 1, none⟩) (fun e => absurd (show w.heap.size + 1 + 1 = w.heap.size + 1 from e) (by omega)) (.bool false)
      have e3 := (P3.out.far (p := ⟨w.heap.size, 1, none⟩) (fun e => absurd (show w.heap.size + 1 + 1 + 1 = w.heap.size from e) (by omega)) (.bool false)).far (p := ⟨w.heap.size + 1, 1, none⟩) (fun e => absurd (show w.heap.size + 1 + 1 + 1 = w.heap.size + 1 from e) (by omega)) (.bool false)
      have d0 := (r1.out.set1 (i := 1) P0.out (.bool false)).set1 (i := 1) (P1.out.far (p := ⟨w.heap.size, 1, none⟩) (Nat.succ_ne_self _) (.bool false)) (.bool false)
      have d1 := (r2.out.set1 (i := 1) P0.out (.bool false)).set1 (i := 1) (P1.out.far (p := ⟨w.heap.size, 1, none⟩) (Nat.succ_ne_self _) (.bool false)) (.bool false)
      have hb2 := below_set (p := ⟨w.heap.size + 1, 1, none⟩) (below_set (p := ⟨w.heap.size, 1, none⟩) hb.out (Nat.le_refl _) (.bool false)) (by simp) (.bool false)
      refine fits_region (M := N1) (B := w.heap.size) (x := fitV ⟨lx, false⟩ N1) (y := fitV ⟨ly, false⟩ N1) (fun u => blw w u ∧ (rds A1 N1 lx u ∧ rds A2 N1 ly u)) _ _ _ _ _ _ _ _ rfl ⟨rfl, rfl⟩ ⟨rfl, rfl⟩ ⟨rfl, rfl⟩ ⟨rfl, rfl⟩ ⟨rfl, rfl⟩ ⟨rfl, rfl⟩ ⟨rfl, rfl⟩ ⟨rfl, rfl⟩ rfl (by kernel_rfl) (by kernel_rfl) (by kernel_rfl) (by kernel_rfl) (by kernel_rfl) rfl rfl rfl rfl rfl (by omega) (by omega) (by omega) (by omega) (by omega) ent_rfit ⟨below_drew hb2, d0.drew, d1.drew⟩ hb2.size e0 e1 e2 e3 (fun u hS => rfit_any A1 N1 c1 N1 false lx u hS.2.1 (by omega) (by omega) (by omega)) (fun u hS => rfit_any A2 N1 c2 N1 false ly u hS.2.2 (by omega) (by omega) (by omega)) ?_
      intro v0 v1 v2 v3 v4 v5 u2 B1 d1 B2 d2 hS O4 n1 O5 n2
      simp only [Act.put, List.setIfInBounds_toArray, List.set_cons_zero, List.set_cons_succ]
      go_wp2
      exact ret_vec2 Tryz.results103 rfl rfl rfl O4 O5 (by rw [hmax]; exact ⟨B1, d1, B2, d2, rfl, n1, n2, hS.1⟩)
    · have hmax : max N1 N2 = N1 := by omega
      go_wp2
      have e0 := (P0.out.puts (.bool false)).far (p := ⟨w.heap.size + 1, 1, none⟩) (Nat.ne_of_lt (Nat.lt_succ_self _)) (.bool false)
      have e1 := (P1.out.far (p := ⟨w.heap.size, 1, none⟩) (Nat.succ_ne_self _) (.bool false)).puts (.bool false)
      have e2 := (P2.out.far (p := ⟨w.heap.size, 1, none⟩) (fun e => absurd (show w.heap.size + 1 + 1 = w.heap.size from e) (by omega)) (.bool false)).far (p := ⟨w.heap.size + 1, 1, none⟩) (fun e => absurd (show w.heap.size + 1 + 1 = w.heap.size + 1 from e) (by omega)) (.bool false)
      have e3 := (P3.out.far (p := ⟨w.heap.size, 1, none⟩) (fun e => absurd (show w.heap.size + 1 + 1 + 1 = w.heap.size from e) (by omega)) (.bool false)).far (p := ⟨w.heap.size + 1, 1, none⟩) (fun e => absurd (show w.heap.size + 1 + 1 + 1 = w.heap.size + 1 from e) (by omega)) (.bool false)
      have d0 := (r1.out.set1 (i := 1) P0.out (.bool false)).set1 (i := 1) (P1.out.far (p := ⟨w.heap.size, 1, none⟩) (Nat.succ_ne_self _) (.bool false)) (.bool false)
      have d1 := (r2.out.set1 (i := 1) P0.out (.bool false)).set1 (i := 1) (P1.out.far (p := ⟨w.heap.size, 1, none⟩) (Nat.succ_ne_self _) (.bool false)) (.bool false)
      have hb2 := below_set (p := ⟨w.heap.size + 1, 1, none⟩) (below_set (p := ⟨w.heap.size, 1, none⟩) hb.out (Nat.le_refl _) (.bool false)) (by simp) (.bool false)
      refine fits_region (M := N1) (B := w.heap.size) (x := fitV ⟨lx, false⟩ N1) (y := fitV ⟨ly, false⟩ N1) (fun u => blw w u ∧ (rds A1 N1 lx u ∧ rds A2 N2 ly u)) _ _ _ _ _ _ _ _ rfl ⟨rfl, rfl⟩ ⟨rfl, rfl⟩ ⟨rfl, rfl⟩ ⟨rfl, rfl⟩ ⟨rfl, rfl⟩ ⟨rfl, rfl⟩ ⟨rfl, rfl⟩ ⟨rfl, rfl⟩ rfl (by kernel_rfl) (by kernel_rfl) (by kernel_rfl) (by kernel_rfl) (by kernel_rfl) rfl rfl rfl rfl rfl (by omega) (by omega) (by omega) (by omega) (by omega) ent_rfit ⟨below_drew hb2, d0.drew, d1.drew⟩ hb2.size e0 e1 e2 e3 (fun u hS => rfit_any A1 N1 c1 N1 false lx u hS.2.1 (by omega) (by omega) (by omega)) (fun u hS => rfit_any A2 N2 c2 N1 false ly u hS.2.2 (by omega) (by omega) (by omega)) ?_
      intro v0 v1 v2 v3 v4 v5 u2 B1 d1 B2 d2 hS O4 n1 O5 n2
      simp only [Act.put, List.setIfInBounds_toArray, List.set_cons_zero, List.set_cons_succ]
      go_wp2
      exact ret_vec2 Tryz.results103 rfl rfl rfl O4 O5 (by rw [hmax]; exact ⟨B1, d1, B2, d2, rfl, n1, n2, hS.1⟩)
  · rcases htri with ht | rfl | ht
    · have hmax : max N1 N2 = N2 := by omega
      go_wp2
      have e0 := (P0.out.puts (.bool false)).far (p := ⟨w.heap.size + 1, 1, none⟩) (Nat.ne_of_lt (Nat.lt_succ_self _)) (.bool false)
      have e1 := (P1.out.far (p := ⟨w.heap.size, 1, none⟩) (Nat.succ_ne_self _) (.bool false)).puts (.bool false)
      have e2 := (P2.out.far (p := ⟨w.heap.size, 1, none⟩) (fun e => absurd (show w.heap.size + 1 + 1 = w.heap.size from e) (by omega)) (.bool false)).far (p := ⟨w.heap.size + 1, 1, none⟩) (fun e => absurd (show w.heap.size + 1 + 1 = w.heap.size + 1 from e) (by omega)) (.bool false)
      have e3 := (P3.out.far (p := ⟨w.heap.size, 1, none⟩) (fun e => absurd (show w.heap.size + 1 + 1 + 1 = w.heap.size from e) (by omega)) (.bool false)).far (p := ⟨w.heap.size + 1, 1, none⟩) (fun e => absurd (show w.heap.size + 1 + 1 + 1 = w.heap.size + 1 from e) (by omega)) (.bool false)
      have d0 := (r1.out.set1 (i := 1) P0.out (.bool false)).set1 (i := 1) (P1.out.far (p := ⟨w.heap.size, 1, none⟩) (Nat.succ_ne_self _) (.bool false)) (.bool false)
      have d1 := (r2.out.set1 (i := 1) P0.out (.bool false)).set1 (i := 1) (P1.out.far (p := ⟨w.heap.size, 1, none⟩) (Nat.succ_ne_self _) (.bool false)) (.bool false)
      have hb2 := below_set (p := ⟨w.heap.size + 1, 1, none⟩) (below_set (p := ⟨w.heap.size, 1, none⟩) hb.out (Nat.le_refl _) (.bool false)) (by simp) (.bool false)
      refine fits_region (M := N2) (B := w.heap.size) (x := fitV ⟨lx, false⟩ N2) (y := fitV ⟨ly, false⟩ N2) (fun u => blw w u ∧ (rds A1 N1 lx u ∧ rds A2 N2 ly u)) _ _ _ _ _ _ _ _ rfl ⟨rfl, rfl⟩ ⟨rfl, rfl⟩ ⟨rfl, rfl⟩ ⟨rfl, rfl⟩ ⟨rfl, rfl⟩ ⟨rfl, rfl⟩ ⟨rfl, rfl⟩ ⟨rfl, rfl⟩ rfl (by kernel_rfl) (by kernel_rfl) (by kernel_rfl) (by kernel_rfl) (by kernel_rfl) rfl rfl rfl rfl rfl (by omega) (by omega) (by omega) (by omega) (by omega) ent_rfit ⟨below_drew hb2, d0.drew, d1.drew⟩ hb2.size e0 e1 e2 e3 (fun u hS => rfit_any A1 N1 c1 N2 false lx u hS.2.1 (by omega) (by omega) (by omega)) (fun u hS => rfit_any A2 N2 c2 N2 false ly u hS.2.2 (by omega) (by omega) (by omega)) ?_
      intro v0 v1 v2 v3 v4 v5 u2 B1 d1 B2 d2 hS O4 n1 O5 n2
      simp only [Act.put, List.setIfInBounds_toArray, List.set_cons_zero, List.set_cons_succ]
      go_wp2
      exact ret_vec2 Tryz.results103 rfl rfl rfl O4 O5 (by rw [hmax]; exact ⟨B1, d1, B2, d2, rfl, n1, n2, hS.1⟩)
    · have hmax : max N1 N1 = N1 := by omega
      go_wp2
      have e0 := (P0.out.puts (.bool false)).far (p := ⟨w.heap.size + 1, 1, none⟩) (Nat.ne_of_lt (Nat.lt_succ_self _)) (.bool false)
      have e1 := (P1.out.far (p := ⟨w.heap.size, 1, none⟩) (Nat.succ_ne_self _) (.bool false)).puts (.bool false)
      have e2 := (P2.out.far (p := ⟨w.heap.size, 1, none⟩) (fun e => absurd (show w.heap.size + 1 + 1 = w.heap.size from e) (by omega)) (.bool false)).far (p := ⟨w.heap.size + 1, 1, none⟩) (fun e => absurd (show w.heap.size + 1 + 1 = w.heap.size + 1 from e) (by omega)) (.bool false)
      have e3 := (P3.out.far (p := ⟨w.heap.size, 1, none⟩) (fun e => absurd (show w.heap.size + 1 + 1 + 1 = w.heap.size from e) (by omega)) (.bool false)).far (p := ⟨w.heap.size + 1, 1, none⟩) (fun e => absurd (show w.heap.size + 1 + 1 + 1 = w.heap.size + 1 from e) (by omega)) (.bool false)
      have d0 := (r1.out.set1 (i := 1) P0.out (.bool false)).set1 (i := 1) (P1.out.far (p := ⟨w.heap.size, 1, none⟩) (Nat.succ_ne_self _) (.bool false)) (.bool false)
      have d1 := (r2.out.set1 (i := 1) P0.out (.bool false)).set1 (i := 1) (P1.out.far (p := ⟨w.heap.size, 1, none⟩) (Nat.succ_ne_self _) (.bool false)) (.bool false)
      have hb2 := below_set (p := ⟨w.heap.size + 1, 1, none⟩) (below_set (p := ⟨w.heap.size, 1, none⟩) hb.out (Nat.le_refl _) (.bool false)) (by simp) (.bool false)
      refine fits_region (M := N1) (B := w.heap.size) (x := fitV ⟨lx, false⟩ N1) (y := fitV ⟨ly, false⟩ N1) (fun u => blw w u ∧ (rds A1 N1 lx u ∧ rds A2 N1 ly u)) _ _ _ _ _ _ _ _ rfl ⟨rfl, rfl⟩ ⟨rfl, rfl⟩ ⟨rfl, rfl⟩ ⟨rfl, rfl⟩ ⟨rfl, rfl⟩ ⟨rfl, rfl⟩ ⟨rfl, rfl⟩ ⟨rfl, rfl⟩ rfl (by kernel_rfl) (by kernel_rfl) (by kernel_rfl) (by kernel_rfl) (by kernel_rfl) rfl rfl rfl rfl rfl (by omega) (by omega) (by omega) (by omega) (by omega) ent_rfit ⟨below_drew hb2, d0.drew, d1.drew⟩ hb2.size e0 e1 e2 e3 (fun u hS => rfit_any A1 N1 c1 N1 false lx u hS.2.1 (by omega) (by omega) (by omega)) (fun u hS => rfit_any A2 N1 c2 N1 false ly u hS.2.2 (by omega) (by omega) (by omega)) ?_
      intro v0 v1 v2 v3 v4 v5 u2 B1 d1 B2 d2 hS O4 n1 O5 n2
      simp only [Act.put, List.setIfInBounds_toArray, List.set_cons_zero, List.set_cons_succ]
      go_wp2
      exact ret_vec2 Tryz.results103 rfl rfl rfl O4 O5 (by rw [hmax]; exact ⟨B1, d1, B2, d2, rfl, n1, n2, hS.1⟩)
    · have hmax : max N1 N2 = N1 := by omega
      go_wp2
      have e0 := (P0.out.puts (.bool false)).far (p := ⟨w.heap.size + 1, 1, none⟩) (Nat.ne_of_lt (Nat.lt_succ_self _)) (.bool false)
      have e1 := (P1.out.far (p := ⟨w.heap.size, 1, none⟩) (Nat.succ_ne_self _) (.bool false)).puts (.bool false)
      have e2 := (P2.out.far (p := ⟨w.heap.size, 1, none⟩) (fun e => absurd (show w.heap.size + 1 + 1 = w.heap.size from e) (by omega)) (.bool false)).far (p := ⟨w.heap.size + 1, 1, none⟩) (fun e => absurd (show w.heap.size + 1 + 1 = w.heap.size + 1 from e) (by omega)) (.bool false)
      have e3 := (P3.out.far (p := ⟨w.heap.size, 1, none⟩) (fun e => absurd (show w.heap.size + 1 + 1 + 1 = w.heap.size from e) (by omega)) (.bool false)).far (p := ⟨w.heap.size + 1, 1, none⟩) (fun e => absurd (show w.heap.size + 1 + 1 + 1 = w.heap.size + 1 from e) (by omega)) (.bool false)
      have d0 := (r1.out.set1 (i := 1) P0.out (.bool false)).set1 (i := 1) (P1.out.far (p := ⟨w.heap.size, 1, none⟩) (Nat.succ_ne_self _) (.bool false)) (.bool false)
      have d1 := (r2.out.set1 (i := 1) P0.out (.bool false)).set1 (i := 1) (P1.out.far (p := ⟨w.heap.size, 1, none⟩) (Nat.succ_ne_self _) (.bool false)) (.bool false)
      have hb2 := below_set (p := ⟨w.heap.size + 1, 1, none⟩) (below_set (p := ⟨w.heap.size, 1, none⟩) hb.out (Nat.le_refl _) (.bool false)) (by simp) (.bool false)
      refine fits_region (M := N1) (B := w.heap.size) (x := fitV ⟨lx, false⟩ N1) (y := fitV ⟨ly, false⟩ N1) (fun u => blw w u ∧ (rds A1 N1 lx u ∧ rds A2 N2 ly u)) _ _ _ _ _ _ _ _ rfl ⟨rfl, rfl⟩ ⟨rfl, rfl⟩ ⟨rfl, rfl⟩ ⟨rfl, rfl⟩ ⟨rfl, rfl⟩ ⟨rfl, rfl⟩ ⟨rfl, rfl⟩ ⟨rfl, rfl⟩ rfl (by kernel_rfl) (by kernel_rfl) (by kernel_rfl) (by kernel_rfl) (by kernel_rfl) rfl rfl rfl rfl rfl (by omega) (by omega) (by omega) (by omega) (by omega) ent_rfit ⟨below_drew hb2, d0.drew, d1.drew⟩ hb2.size e0 e1 e2 e3 (fun u hS => rfit_any A1 N1 c1 N1 false lx u hS.2.1 (by omega) (by omega) (by omega)) (fun u hS => rfit_any A2 N2 c2 N1 false ly u hS.2.2 (by omega) (by omega) (by omega)) ?_
      intro v0 v1 v2 v3 v4 v5 u2 B1 d1 B2 d2 hS O4 n1 O5 n2
      simp only [Act.put, List.setIfInBounds_toArray, List.set_cons_zero, List.set_cons_succ]
      go_wp2
      exact ret_vec2 Tryz.results103 rfl rfl rfl O4 O5 (by rw [hmax]; exact ⟨B1, d1, B2, d2, rfl, n1, n2, hS.1⟩)
  · rcases htri with ht | rfl | ht
    · have hmax : max N1 N2 = N2 := by omega
      go_wp2
      have e0 := P0.out
      have e1 := P1.out
      have e2 := P2.out
      have e3 := P3.out
      have d0 := r1.out
      have d1 := r2.out
      have hb2 := hb.out
      refine fits_region (M := N2) (B := w.heap.size) (x := fitV ⟨lx, true⟩ N2) (y := fitV ⟨ly, true⟩ N2) (fun u => blw w u ∧ (rds A1 N1 lx u ∧ rds A2 N2 ly u)) _ _ _ _ _ _ _ _ rfl ⟨rfl, rfl⟩ ⟨rfl, rfl⟩ ⟨rfl, rfl⟩ ⟨rfl, rfl⟩ ⟨rfl, rfl⟩ ⟨rfl, rfl⟩ ⟨rfl, rfl⟩ ⟨rfl, rfl⟩ rfl (by kernel_rfl) (by kernel_rfl) (by kernel_rfl) (by kernel_rfl) (by kernel_rfl) rfl rfl rfl rfl rfl (by omega) (by omega) (by omega) (by omega) (by omega) ent_rfit ⟨below_drew hb2, d0.drew, d1.drew⟩ hb2.size e0 e1 e2 e3 (fun u hS => rfit_any A1 N1 c1 N2 true lx u hS.2.1 (by omega) (by omega) (by omega)) (fun u hS => rfit_any A2 N2 c2 N2 true ly u hS.2.2 (by omega) (by omega) (by omega)) ?_
      intro v0 v1 v2 v3 v4 v5 u2 B1 d1 B2 d2 hS O4 n1 O5 n2
      simp only [Act.put, List.setIfInBounds_toArray, List.set_cons_zero, List.set_cons_succ]
      go_wp2
      exact ret_vec2 Tryz.results103 rfl rfl rfl O4 O5 (by rw [hmax]; exact ⟨B1, d1, B2, d2, rfl, n1, n2, hS.1⟩)
    · have hmax : max N1 N1 = N1 := by omega
      go_wp2
      have e0 := P0.out
      have e1 := P1.out
      have e2 := P2.out
      have e3 := P3.out
      have d0 := r1.out
      have d1 := r2.out
      have hb2 := hb.out
      refine fits_region (M := N1) (B := w.heap.size) (x := fitV ⟨lx, true⟩ N1) (y := fitV ⟨ly, true⟩ N1) (fun u => blw w u ∧ (rds A1 N1 lx u ∧ rds A2 N1 ly u)) _ _ _ _ _ _ _ _ rfl ⟨rfl, rfl⟩ ⟨rfl, rfl⟩ ⟨rfl, rfl⟩ ⟨rfl, rfl⟩ ⟨rfl, rfl⟩ ⟨rfl, rfl⟩ ⟨rfl, rfl⟩ ⟨rfl, rfl⟩ rfl (by kernel_rfl) (by kernel_rfl) (by kernel_rfl) (by kernel_rfl) (by kernel_rfl) rfl rfl rfl rfl rfl (by omega) (by omega) (by omega) (by omega) (by omega) ent_rfit ⟨below_drew hb2, d0.drew, d1.drew⟩ hb2.size e0 e1 e2 e3 (fun u hS => rfit_any A1 N1 c1 N1 true lx u hS.2.1 (by omega) (by omega) (by omega)) (fun u hS => rfit_any A2 N1 c2 N1 true ly u hS.2.2 (by omega) (by omega) (by omega)) ?_
      intro v0 v1 v2 v3 v4 v5 u2 B1 d1 B2 d2 hS O4 n1 O5 n2
      simp only [Act.put, List.setIfInBounds_toArray, List.set_cons_zero, List.set_cons_succ]
      go_wp2
      exact ret_vec2 Tryz.results103 rfl rfl rfl O4 O5 (by rw [hmax]; exact ⟨B1, d1, B2, d2, rfl, n1, n2, hS.1⟩)
    · have hmax : max N1 N2 = N1 := by omega
      go_wp2
      have e0 := P0.out
      have e1 := P1.out
      have e2 := P2.out
      have e3 := P3.out
      have d0 := r1.out
      have d1 := r2.out
      have hb2 := hb.out
      refine fits_region (M := N1) (B := w.heap.size) (x := fitV ⟨lx, true⟩ N1) (y := fitV ⟨ly, true⟩ N1) (fun u => blw w u ∧ (rds A1 N1 lx u ∧ rds A2 N2 ly u)) _ _ _ _ _ _ _ _ rfl ⟨rfl, rfl⟩ ⟨rfl, rfl⟩ ⟨rfl, rfl⟩ ⟨rfl, rfl⟩ ⟨rfl, rfl⟩ ⟨rfl, rfl⟩ ⟨rfl, rfl⟩ ⟨rfl, rfl⟩ rfl (by kernel_rfl) (by kernel_rfl) (by kernel_rfl) (by kernel_rfl) (by kernel_rfl) rfl rfl rfl rfl rfl (by omega) (by omega) (by omega) (by omega) (by omega) ent_rfit ⟨below_drew hb2, d0.drew, d1.drew⟩ hb2.size e0 e1 e2 e3 (fun u hS => rfit_any A1 N1 c1 N1 true lx u hS.2.1 (by omega) (by omega) (by omega)) (fun u hS => rfit_any A2 N2 c2 N1 true ly u hS.2.2 (by omega) (by omega) (by omega)) ?_
      intro v0 v1 v2 v3 v4 v5 u2 B1 d1 B2 d2 hS O4 n1 O5 n2
      simp only [Act.put, List.setIfInBounds_toArray, List.set_cons_zero, List.set_cons_succ]
      go_wp2
      exact ret_vec2 Tryz.results103 rfl rfl rfl O4 O5 (by rw [hmax]; exact ⟨B1, d1, B2, d2, rfl, n1, n2, hS.1⟩)
theorem rBalance_q (A B : Option Addr) (n m c d : Nat) (s t : Bool) (l k : List Int) (w : World) (h : Rb w A n l) (h' : Rb w B m k) (hn : n ≤ 1000000) (hm : m ≤ 1000000) :
    Calls Tryz.prog 103 #[.agg #[.slice A n c, .bool s], .agg #[.slice B m d, .bool t]] w (RetQ w (balN ⟨l, s⟩ ⟨k, t⟩) (balS ⟨l, s⟩ ⟨k, t⟩) (balL ⟨l, s⟩ ⟨k, t⟩).l (balR ⟨l, s⟩ ⟨k, t⟩).l) :=
  (rBalance_any A B n m c d s t l k w h h' hn hm).mono fun _ _ h => h.retQ
end Go.Proofs.YtognpmggfplekaaGreatDoor
