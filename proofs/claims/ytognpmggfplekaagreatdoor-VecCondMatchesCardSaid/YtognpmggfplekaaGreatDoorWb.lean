/-
  The walk of VecCondMatches: it returns true. Conditions: the tables of package bit read as the program lays them.
-/
import Derived.Test.YtognpmggfplekaaGreatDoorW7
namespace Go.Proofs.YtognpmggfplekaaGreatDoor
open Go Go.RowKit

set_option maxRecDepth 100000 in
set_option maxHeartbeats 8000000 in
theorem walk_VecCondMatches (A0 : Option Addr) (n0 c0 : Nat) (s0 : Bool) (l0 : List Int) (A1 : Option Addr) (n1 c1 : Nat) (s1 : Bool) (l1 : List Int) (A2 : Option Addr) (n2 c2 : Nat) (s2 : Bool) (l2 : List Int) (w : World) (h0 : Rb w A0 n0 l0) (hc0 : n0 ≤ c0) (h1 : Rb w A1 n1 l1) (_hc1 : n1 ≤ c1) (h2 : Rb w A2 n2 l2) (_hc2 : n2 ≤ c2) (TT : Tabs w) : Calls Tryz.prog 6 #[.agg #[.slice A0 n0 c0, .bool s0], .agg #[.slice A1 n1 c1, .bool s1], .agg #[.slice A2 n2 c2, .bool s2]] w fun e w' => e = .returned (.bool true) ∧ Below w.heap.size w w' := by
  have O0 := (((Own.at1 w 24 #[.slice A0 n0 c0, .bool s0] (g := w.heap.size) (by simp)).alloc (.cells #[.slice A1 n1 c1, .bool s1] 24)).alloc (.cells #[.slice A2 n2 c2, .bool s2] 24))
  have O1 := ((Own.at1 (w.alloc (.cells #[.slice A0 n0 c0, .bool s0] 24)) 24 #[.slice A1 n1 c1, .bool s1] (g := w.heap.size + 1) (by simp)).alloc (.cells #[.slice A2 n2 c2, .bool s2] 24))
  have O2 := (Own.at1 ((w.alloc (.cells #[.slice A0 n0 c0, .bool s0] 24)).alloc (.cells #[.slice A1 n1 c1, .bool s1] 24)) 24 #[.slice A2 n2 c2, .bool s2] (g := w.heap.size + 1 + 1) (by simp))
  have BB := (below_new (below_new (below_new (Below.refl w.heap.size w) (.cells #[.slice A0 n0 c0, .bool s0] 24)) (.cells #[.slice A1 n1 c1, .bool s1] 24)) (.cells #[.slice A2 n2 c2, .bool s2] 24))
  have X3 := O0
  have X4 := O1
  have X5 := O2
  clear O0
  clear O1
  clear O2
  have O3 := X3
  clear X3
  have O4 := X4
  clear X4
  have O5 := X5
  clear X5
  replace TT := TT.step BB
  have r0 := h0.step BB
  have r1 := h1.step BB
  have r2 := h2.step BB
  clear h0 h1 h2
  replace BB := Lib.hid BB
  cases hl : lngB [n0, n1, n2]
  · skip
    have hn := lng_no hl
    have hn0 : n0 ≤ 140 := hn n0 (by simp)
    have hn1 : n1 ≤ 140 := hn n1 (by simp)
    have hn2 : n2 ≤ 140 := hn n2 (by simp)
    have HL := Lib.hid (long3_b _ A0 A1 A2 n0 c0 n1 c1 n2 c2 s0 s1 s2 hl)
    clear hl hn
    have q30 := O3.cell 0
    have q31 := O3.cell 1
    have q40 := O4.cell 0
    have q41 := O4.cell 1
    have q50 := O5.cell 0
    have q51 := O5.cell 1
    have hBase : w.heap.size + 1 + 1 + 1 ≥ w.heap.size := by omega
    go_enter Tryz.func6, Tryz.ntmps6
    go_wp2_with (first | (go_at_call 12; refine (HL.out _ _ (by simp)).mono ?_; rintro e wn ⟨rfl, rfl⟩; replace O3 := O3.alloc (.cells #[.slice A0 n0 c0, .bool s0, .slice A1 n1 c1, .bool s1, .slice A2 n2 c2, .bool s2] 24); replace O4 := O4.alloc (.cells #[.slice A0 n0 c0, .bool s0, .slice A1 n1 c1, .bool s1, .slice A2 n2 c2, .bool s2] 24); replace O5 := O5.alloc (.cells #[.slice A0 n0 c0, .bool s0, .slice A1 n1 c1, .bool s1, .slice A2 n2 c2, .bool s2] 24); replace r0 := r0.alloc (.cells #[.slice A0 n0 c0, .bool s0, .slice A1 n1 c1, .bool s1, .slice A2 n2 c2, .bool s2] 24); replace r1 := r1.alloc (.cells #[.slice A0 n0 c0, .bool s0, .slice A1 n1 c1, .bool s1, .slice A2 n2 c2, .bool s2] 24); replace r2 := r2.alloc (.cells #[.slice A0 n0 c0, .bool s0, .slice A1 n1 c1, .bool s1, .slice A2 n2 c2, .bool s2] 24); replace TT := TT.alloc (.cells #[.slice A0 n0 c0, .bool s0, .slice A1 n1 c1, .bool s1, .slice A2 n2 c2, .bool s2] 24); replace BB := Lib.hid (below_new BB.out (.cells #[.slice A0 n0 c0, .bool s0, .slice A1 n1 c1, .bool s1, .slice A2 n2 c2, .bool s2] 24))))
    refine region_l (by kernel_rfl) (fun u => owns w.heap.size #[.slice A0 n0 c0, .bool s0] u ∧ (owns (w.heap.size + 1) #[.slice A1 n1 c1, .bool s1] u ∧ (owns (w.heap.size + 1 + 1) #[.slice A2 n2 c2, .bool s2] u ∧ (rds A0 n0 l0 u ∧ (rds A1 n1 l1 u ∧ (rds A2 n2 l2 u ∧ (szW (w.heap.size + 1 + 1 + 1) u ∧ (tbs u ∧ blw w u)))))))) [un (isV (.agg #[.slice A1 n1 c1, .bool s1])), un (isW (⟨l1, s1⟩ : V)), un (isV (.agg #[.slice A2 n2 c2, .bool s2])), un (isW (⟨l2, s2⟩ : V)), un (isFr (w.heap.size + 1 + 1 + 1)), un (isFr (w.heap.size + 1 + 1 + 1)), filled (w.heap.size + 1 + 1 + 1) (⟨l1, s1⟩ : V), filled (w.heap.size + 1 + 1 + 1) (⟨l2, s2⟩ : V)] [some 17, some 18, some 19, some 20, some 7, some 8, none, none] [0, 1, 2, 3, 4, 5, 4, 5] [4, 5] [[], [0], [], [2, 1], [], [], [4, 1, 3, 0, 1, 4, 5], [5, 3, 6, 0, 1, 2, 3, 4, 5, 6]] (by kernel_rfl) (by kernel_rfl) rfl (by kernel_rfl) (by kernel_rfl) (by kernel_rfl) (by kernel_rfl) ⟨O3.drew, O4.drew, O5.drew, r0.drew, r1.drew, r2.drew, (by simp [szW, World.drew]), TT.drew, below_drew BB.out⟩ ?_ ?_
    · refine ⟨?_, ?_, ?_, ?_, ?_, ?_, ?_, ?_, trivial⟩
      · intro a w' hS hO hF hD K hK
        have ha := hO 4 (by rfl)
        refine if_ok (by rfl) ?_
        refine wp_load_row 24 (.tmp 4) rfl (w.heap.size + 1) (ev ha) _ _ (0, 0) _ hS.2.1 Tryz.underlying24 rfl (by kernel_rfl) ?_
        exact hK _ w' (fun h => by cases h) (Nat.le_refl _) (fun h => absurd h (by decide)) hS (fun _ _ _ _ h => h) (fun V hV => by obtain rfl := Option.some.inj hV; exact rfl)
      · intro a w' hS hO hF hD K hK
        have j0 := hF 0 rfl
        have f0 := j0.2 17 rfl
        rw [show valD _ _ 0 = _ from j0.1 _ rfl] at f0
        refine if_ok (by rfl) ?_
        refine wp_calls rfl (enters_of Tryz.func14 (by kernel_rfl) rfl) (args := #[(.agg #[.slice A1 n1 c1, .bool s1])]) (by simp [Act.eval, f0]) ?_
        obtain ⟨O3, O4, O5, r0, r1, r2, BZ, TT, BB⟩ := id hS
        apply Calls.mono
        (with_reducible apply own_w); (repeat (first | assumption | (with_reducible (apply Nb.rd; assumption)) | (with_reducible (apply Rb.at_later; assumption)) | (with_reducible (apply Tabs.at_later; assumption)) | (with_reducible apply Rb.alloc) | (with_reducible apply Tabs.alloc) | (with_reducible apply Rb.drew) | (with_reducible apply Tabs.drew) | (show I64 _; unfold I64; omega) | omega))
        rintro e w2 ⟨A, n, c, rfl, hc, hn, hv, hb⟩
        exact ⟨_, rfl, hK _ w2 (fun h => by cases h) hb.size (fun h => absurd h (by decide)) ((show Stb (fun u => owns w.heap.size #[.slice A0 n0 c0, .bool s0] u ∧ (owns (w.heap.size + 1) #[.slice A1 n1 c1, .bool s1] u ∧ (owns (w.heap.size + 1 + 1) #[.slice A2 n2 c2, .bool s2] u ∧ (rds A0 n0 l0 u ∧ (rds A1 n1 l1 u ∧ (rds A2 n2 l2 u ∧ (szW (w.heap.size + 1 + 1 + 1) u ∧ (tbs u ∧ blw w u)))))))) from inferInstance).st _ _ hb hS) (keepL_below hb) (fun V hV => by obtain rfl := Option.some.inj hV; exact ⟨A, n, c, rfl, hc, hn, hv.rd⟩)⟩
      · intro a w' hS hO hF hD K hK
        have ha := hO 5 (by rfl)
        refine if_ok (by rfl) ?_
        refine wp_load_row 24 (.tmp 5) rfl (w.heap.size + 1 + 1) (ev ha) _ _ (0, 0) _ hS.2.2.1 Tryz.underlying24 rfl (by kernel_rfl) ?_
        exact hK _ w' (fun h => by cases h) (Nat.le_refl _) (fun h => absurd h (by decide)) hS (fun _ _ _ _ h => h) (fun V hV => by obtain rfl := Option.some.inj hV; exact rfl)
      · intro a w' hS hO hF hD K hK
        have j0 := hF 2 rfl
        have f0 := j0.2 19 rfl
        rw [show valD _ _ 2 = _ from j0.1 _ rfl] at f0
        refine if_ok (by rfl) ?_
        refine wp_calls rfl (enters_of Tryz.func14 (by kernel_rfl) rfl) (args := #[(.agg #[.slice A2 n2 c2, .bool s2])]) (by simp [Act.eval, f0]) ?_
        obtain ⟨O3, O4, O5, r0, r1, r2, BZ, TT, BB⟩ := id hS
        apply Calls.mono
        (with_reducible apply own_w); (repeat (first | assumption | (with_reducible (apply Nb.rd; assumption)) | (with_reducible (apply Rb.at_later; assumption)) | (with_reducible (apply Tabs.at_later; assumption)) | (with_reducible apply Rb.alloc) | (with_reducible apply Tabs.alloc) | (with_reducible apply Rb.drew) | (with_reducible apply Tabs.drew) | (show I64 _; unfold I64; omega) | omega))
        rintro e w2 ⟨A, n, c, rfl, hc, hn, hv, hb⟩
        exact ⟨_, rfl, hK _ w2 (fun h => by cases h) hb.size (fun h => absurd h (by decide)) ((show Stb (fun u => owns w.heap.size #[.slice A0 n0 c0, .bool s0] u ∧ (owns (w.heap.size + 1) #[.slice A1 n1 c1, .bool s1] u ∧ (owns (w.heap.size + 1 + 1) #[.slice A2 n2 c2, .bool s2] u ∧ (rds A0 n0 l0 u ∧ (rds A1 n1 l1 u ∧ (rds A2 n2 l2 u ∧ (szW (w.heap.size + 1 + 1 + 1) u ∧ (tbs u ∧ blw w u)))))))) from inferInstance).st _ _ hb hS) (keepL_below hb) (fun V hV => by obtain rfl := Option.some.inj hV; exact ⟨A, n, c, rfl, hc, hn, hv.rd⟩)⟩
      · intro a w' hS hO hF hD K hK
        refine if_ok (by rfl) ?_
        refine wp_alloc rfl ?_
        have hb := below_new (Below.refl w'.heap.size w') (.cells #[.slice none 0 0, .bool false] 24)
        have hBz := hS.2.2.2.2.2.2.1
        exact hK _ _ (fun h => by cases h) hb.size (fun _ => ⟨rfl, by simp⟩) ((show Stb (fun u => owns w.heap.size #[.slice A0 n0 c0, .bool s0] u ∧ (owns (w.heap.size + 1) #[.slice A1 n1 c1, .bool s1] u ∧ (owns (w.heap.size + 1 + 1) #[.slice A2 n2 c2, .bool s2] u ∧ (rds A0 n0 l0 u ∧ (rds A1 n1 l1 u ∧ (rds A2 n2 l2 u ∧ (szW (w.heap.size + 1 + 1 + 1) u ∧ (tbs u ∧ blw w u)))))))) from inferInstance).st _ _ hb hS) (keepL_below hb) (fun V hV => by obtain rfl := Option.some.inj hV; exact ⟨_, rfl, hBz, _, _, _, _, Own.new w' 24 _⟩)
      · intro a w' hS hO hF hD K hK
        refine if_ok (by rfl) ?_
        refine wp_alloc rfl ?_
        have hb := below_new (Below.refl w'.heap.size w') (.cells #[.slice none 0 0, .bool false] 24)
        have hBz := hS.2.2.2.2.2.2.1
        exact hK _ _ (fun h => by cases h) hb.size (fun _ => ⟨rfl, by simp⟩) ((show Stb (fun u => owns w.heap.size #[.slice A0 n0 c0, .bool s0] u ∧ (owns (w.heap.size + 1) #[.slice A1 n1 c1, .bool s1] u ∧ (owns (w.heap.size + 1 + 1) #[.slice A2 n2 c2, .bool s2] u ∧ (rds A0 n0 l0 u ∧ (rds A1 n1 l1 u ∧ (rds A2 n2 l2 u ∧ (szW (w.heap.size + 1 + 1 + 1) u ∧ (tbs u ∧ blw w u)))))))) from inferInstance).st _ _ hb hS) (keepL_below hb) (fun V hV => by obtain rfl := Option.some.inj hV; exact ⟨_, rfl, hBz, _, _, _, _, Own.new w' 24 _⟩)
      · intro a w' hS hO hF hD K hK
        have j0 := hF 1 rfl
        have f0 := j0.2 18 rfl
        obtain ⟨Ay0, ny0, cy0, e0, hc0, hn0, hr0⟩ := j0.1 _ rfl
        rw [e0] at f0
        have jp := hF 4 rfl
        have fp := jp.2 7 rfl
        obtain ⟨g, eg, hg, X, q1, q2, q3, O⟩ := jp.1 _ rfl
        have hgx := eg
        rw [eg] at fp
        have hB0 := hBase
        haveI : Over w g := ⟨Nat.le_trans (show w.heap.size ≤ _ from hB0) hg⟩
        haveI : Apart g w.heap.size := ⟨fun e => by subst e; have := hB0; omega⟩
        haveI : Apart g (w.heap.size + 1) := ⟨fun e => by subst e; have := hB0; omega⟩
        haveI : Apart g (w.heap.size + 1 + 1) := ⟨fun e => by subst e; have := hB0; omega⟩
        refine if_ok (by rfl) ?_
        refine wp_store_row _ _ _ rfl g _ (ev fp) (ev f0) _ _ O vec_size rfl (by simp [Value.oneCell']) ?_
        exact hK _ _ (fun _ => rfl) (by simp [World.setRow]) (fun h => absurd h (by decide)) ((show Sst g (fun u => owns w.heap.size #[.slice A0 n0 c0, .bool s0] u ∧ (owns (w.heap.size + 1) #[.slice A1 n1 c1, .bool s1] u ∧ (owns (w.heap.size + 1 + 1) #[.slice A2 n2 c2, .bool s2] u ∧ (rds A0 n0 l0 u ∧ (rds A1 n1 l1 u ∧ (rds A2 n2 l2 u ∧ (szW (w.heap.size + 1 + 1 + 1) u ∧ (tbs u ∧ blw w u)))))))) from inferInstance).st _ _ _ _ _ _ O hS) (keepL_store O (fun j V hj hV => by
          match j, hj, hV with
          | 0, _, hV => obtain rfl := Option.some.inj hV; exact ssx_un
          | 1, _, hV => obtain rfl := Option.some.inj hV; exact ssx_un
          | 2, _, hV => obtain rfl := Option.some.inj hV; exact ssx_un
          | 3, _, hV => obtain rfl := Option.some.inj hV; exact ssx_un
          | 4, _, hV => obtain rfl := Option.some.inj hV; exact ssx_fr
          | 5, _, hV => obtain rfl := Option.some.inj hV; exact ssx_fr
          | 6, hj, _ => exact absurd rfl hj
          | 7, _, hV => obtain rfl := Option.some.inj hV; exact ssx_filled (fun e => hD 5 4 (by decide) rfl rfl rfl rfl (e.trans hgx.symm))
          | q + 8, _, hV => simp at hV)) (fun V hV => by obtain rfl := Option.some.inj hV; rw [if_neg (by decide)]; exact ⟨g, Ay0, ny0, cy0, hgx, hg, O.row, hc0, hn0, hr0.row O⟩)
      · intro a w' hS hO hF hD K hK
        have j0 := hF 3 rfl
        have f0 := j0.2 20 rfl
        obtain ⟨Ay0, ny0, cy0, e0, hc0, hn0, hr0⟩ := j0.1 _ rfl
        rw [e0] at f0
        have jp := hF 5 rfl
        have fp := jp.2 8 rfl
        obtain ⟨g, eg, hg, X, q1, q2, q3, O⟩ := jp.1 _ rfl
        have hgx := eg
        rw [eg] at fp
        have hB0 := hBase
        haveI : Over w g := ⟨Nat.le_trans (show w.heap.size ≤ _ from hB0) hg⟩
        haveI : Apart g w.heap.size := ⟨fun e => by subst e; have := hB0; omega⟩
        haveI : Apart g (w.heap.size + 1) := ⟨fun e => by subst e; have := hB0; omega⟩
        haveI : Apart g (w.heap.size + 1 + 1) := ⟨fun e => by subst e; have := hB0; omega⟩
        refine if_ok (by rfl) ?_
        refine wp_store_row _ _ _ rfl g _ (ev fp) (ev f0) _ _ O vec_size rfl (by simp [Value.oneCell']) ?_
        exact hK _ _ (fun _ => rfl) (by simp [World.setRow]) (fun h => absurd h (by decide)) ((show Sst g (fun u => owns w.heap.size #[.slice A0 n0 c0, .bool s0] u ∧ (owns (w.heap.size + 1) #[.slice A1 n1 c1, .bool s1] u ∧ (owns (w.heap.size + 1 + 1) #[.slice A2 n2 c2, .bool s2] u ∧ (rds A0 n0 l0 u ∧ (rds A1 n1 l1 u ∧ (rds A2 n2 l2 u ∧ (szW (w.heap.size + 1 + 1 + 1) u ∧ (tbs u ∧ blw w u)))))))) from inferInstance).st _ _ _ _ _ _ O hS) (keepL_store O (fun j V hj hV => by
          match j, hj, hV with
          | 0, _, hV => obtain rfl := Option.some.inj hV; exact ssx_un
          | 1, _, hV => obtain rfl := Option.some.inj hV; exact ssx_un
          | 2, _, hV => obtain rfl := Option.some.inj hV; exact ssx_un
          | 3, _, hV => obtain rfl := Option.some.inj hV; exact ssx_un
          | 4, _, hV => obtain rfl := Option.some.inj hV; exact ssx_fr
          | 5, _, hV => obtain rfl := Option.some.inj hV; exact ssx_fr
          | 6, _, hV => obtain rfl := Option.some.inj hV; exact ssx_filled (fun e => hD 4 5 (by decide) rfl rfl rfl rfl (e.trans hgx.symm))
          | 7, hj, _ => exact absurd rfl hj
          | q + 8, _, hV => simp at hV)) (fun V hV => by obtain rfl := Option.some.inj hV; rw [if_neg (by decide)]; exact ⟨g, Ay0, ny0, cy0, hgx, hg, O.row, hc0, hn0, hr0.row O⟩)
    · intro vs u hl hS hV
      match vs, hl, hV with
      | [v0, v1, v2, v3, v4, v5, v6, v7], _, hV =>
        obtain ⟨g7, A7, n7, c7, e7, hB7, O7, hcc7, hnn7, r7⟩ := hV 6 _ rfl
        replace e7 : v4 = .pointer (some ⟨g7, 0, none⟩) := e7
        subst e7
        obtain ⟨g8, A8, n8, c8, e8, hB8, O8, hcc8, hnn8, r8⟩ := hV 7 _ rfl
        replace e8 : v5 = .pointer (some ⟨g8, 0, none⟩) := e8
        subst e8
        obtain rfl := hV 0 _ rfl
        obtain ⟨_, _, _, rfl, _, _, _⟩ := hV 1 _ rfl
        obtain rfl := hV 2 _ rfl
        obtain ⟨_, _, _, rfl, _, _, _⟩ := hV 3 _ rfl
        simp only [puts, Act.put, List.setIfInBounds_toArray, List.set_cons_zero, List.set_cons_succ]
        obtain ⟨O3, O4, O5, r0, r1, r2, BZ, TT, BB⟩ := hS
        clear hV
        replace O7 : Own u g7 24 #[.slice A7 n7 c7, .bool s1] := O7
        replace O8 : Own u g8 24 #[.slice A8 n8 c8, .bool s2] := O8
        go_wp2
        go_loopw [9] (fun i wr => ∃ k : Nat, k ≤ 2 ∧ i = .int .i64 k ∧ Hid (Own wr w.heap.size 24 #[.slice A0 n0 c0, .bool s0]) ∧ Hid (Own wr (w.heap.size + 1) 24 #[.slice A1 n1 c1, .bool s1]) ∧ Hid (Own wr (w.heap.size + 1 + 1) 24 #[.slice A2 n2 c2, .bool s2]) ∧ Hid (Own wr g7 24 #[.slice A7 n7 c7, .bool s1]) ∧ Hid (Own wr g8 24 #[.slice A8 n8 c8, .bool s2]) ∧ Hid (Rb wr A0 n0 l0) ∧ Hid (Rb wr A1 n1 l1) ∧ Hid (Rb wr A2 n2 l2) ∧ Hid (Rb wr A7 n7 l1) ∧ Hid (Rb wr A8 n8 l2) ∧ Hid (Tabs wr) ∧ Hid (Below w.heap.size w wr)) (fun i _ => 2 - (intOf i).toNat)
        case atStart => exact ⟨0, by decide, rfl, Lib.hid O3, Lib.hid O4, Lib.hid O5, Lib.hid O7, Lib.hid O8, Lib.hid r0, Lib.hid r1, Lib.hid r2, Lib.hid r7, Lib.hid r8, Lib.hid TT, Lib.hid BB⟩
        case round =>
          clear O3 O4 O5 O7 O8 r0 r1 r2 r7 r8 TT BB
          obtain ⟨k, hk, rfl, O3, O4, O5, O7, O8, r0, r1, r2, r7, r8, TT, BB⟩ := hrel
          replace O3 := O3.out
          replace O4 := O4.out
          replace O5 := O5.out
          replace O7 := O7.out
          replace O8 := O8.out
          replace r0 := r0.out
          replace r1 := r1.out
          replace r2 := r2.out
          replace r7 := r7.out
          replace r8 := r8.out
          replace TT := TT.out
          have q30 := O3.cell 0
          have q31 := O3.cell 1
          have q40 := O4.cell 0
          have q41 := O4.cell 1
          have q50 := O5.cell 0
          have q51 := O5.cell 1
          have q70 := O7.cell 0
          have q71 := O7.cell 1
          have q80 := O8.cell 0
          have q81 := O8.cell 1
          by_cases hlt : k < 2
          · have d1 : decide ((k : Int) < 2) = true := by simp; omega
            go_wp2_with (go_at_call 51; apply Calls.mono; (with_reducible apply cond_any_w); (repeat (first | assumption | (with_reducible (apply Nb.rd; assumption)) | (with_reducible (apply Rb.at_later; assumption)) | (with_reducible (apply Tabs.at_later; assumption)) | (with_reducible apply Rb.alloc) | (with_reducible apply Tabs.alloc) | (with_reducible apply Rb.drew) | (with_reducible apply Tabs.drew) | (show I64 _; unfold I64; omega) | omega)); have QO3 := O3; have QO4 := O4; have QO5 := O5; have QO7 := O7; have QO8 := O8; have Qr0 := r0; have Qr1 := r1; have Qr2 := r2; have Qr7 := r7; have Qr8 := r8; have QTT := TT; have QBB := BB; rintro e w9 ⟨A9, n9, c9, rfl, hc9, hn9, hv, hb⟩; have kb := hb; replace O3 := O3.step kb; replace O4 := O4.step kb; replace O5 := O5.step kb; replace O7 := O7.step kb; replace O8 := O8.step kb; replace r0 := r0.step kb; replace r1 := r1.step kb; replace r2 := r2.step kb; replace r7 := r7.step kb; replace r8 := r8.step kb; replace TT := TT.step kb; replace BB := Lib.hid (below_step BB.out kb); replace O3 := O3.alloc (.cells #[.slice A9 n9 c9, .bool (condV ⟨l0, s0⟩ ⟨l1, s1⟩ ⟨l2, s2⟩).s] 24); replace O4 := O4.alloc (.cells #[.slice A9 n9 c9, .bool (condV ⟨l0, s0⟩ ⟨l1, s1⟩ ⟨l2, s2⟩).s] 24); replace O5 := O5.alloc (.cells #[.slice A9 n9 c9, .bool (condV ⟨l0, s0⟩ ⟨l1, s1⟩ ⟨l2, s2⟩).s] 24); replace O7 := O7.alloc (.cells #[.slice A9 n9 c9, .bool (condV ⟨l0, s0⟩ ⟨l1, s1⟩ ⟨l2, s2⟩).s] 24); replace O8 := O8.alloc (.cells #[.slice A9 n9 c9, .bool (condV ⟨l0, s0⟩ ⟨l1, s1⟩ ⟨l2, s2⟩).s] 24); replace r0 := r0.alloc (.cells #[.slice A9 n9 c9, .bool (condV ⟨l0, s0⟩ ⟨l1, s1⟩ ⟨l2, s2⟩).s] 24); replace r1 := r1.alloc (.cells #[.slice A9 n9 c9, .bool (condV ⟨l0, s0⟩ ⟨l1, s1⟩ ⟨l2, s2⟩).s] 24); replace r2 := r2.alloc (.cells #[.slice A9 n9 c9, .bool (condV ⟨l0, s0⟩ ⟨l1, s1⟩ ⟨l2, s2⟩).s] 24); replace r7 := r7.alloc (.cells #[.slice A9 n9 c9, .bool (condV ⟨l0, s0⟩ ⟨l1, s1⟩ ⟨l2, s2⟩).s] 24); replace r8 := r8.alloc (.cells #[.slice A9 n9 c9, .bool (condV ⟨l0, s0⟩ ⟨l1, s1⟩ ⟨l2, s2⟩).s] 24); replace TT := TT.alloc (.cells #[.slice A9 n9 c9, .bool (condV ⟨l0, s0⟩ ⟨l1, s1⟩ ⟨l2, s2⟩).s] 24); replace BB := Lib.hid (below_new BB.out (.cells #[.slice A9 n9 c9, .bool (condV ⟨l0, s0⟩ ⟨l1, s1⟩ ⟨l2, s2⟩).s] 24)); have O10 := Own.new w9 24 #[.slice A9 n9 c9, .bool (condV ⟨l0, s0⟩ ⟨l1, s1⟩ ⟨l2, s2⟩).s]; have r9 := hv.rd.alloc (.cells #[.slice A9 n9 c9, .bool (condV ⟨l0, s0⟩ ⟨l1, s1⟩ ⟨l2, s2⟩).s] 24); have N9 := hv.alloc (.cells #[.slice A9 n9 c9, .bool (condV ⟨l0, s0⟩ ⟨l1, s1⟩ ⟨l2, s2⟩).s] 24); have B8 := below_new hb (.cells #[.slice A9 n9 c9, .bool (condV ⟨l0, s0⟩ ⟨l1, s1⟩ ⟨l2, s2⟩).s] 24); clear hb kb hv)
            refine region_y (by kernel_rfl) (fun u => owns w.heap.size #[.slice A0 n0 c0, .bool s0] u ∧ (owns (w.heap.size + 1) #[.slice A1 n1 c1, .bool s1] u ∧ (owns (w.heap.size + 1 + 1) #[.slice A2 n2 c2, .bool s2] u ∧ (owns g7 #[.slice A7 n7 c7, .bool s1] u ∧ (owns g8 #[.slice A8 n8 c8, .bool s2] u ∧ (owns w9.heap.size #[.slice A9 n9 c9, .bool (condV ⟨l0, s0⟩ ⟨l1, s1⟩ ⟨l2, s2⟩).s] u ∧ (rds A0 n0 l0 u ∧ (rds A1 n1 l1 u ∧ (rds A2 n2 l2 u ∧ (rds A7 n7 l1 u ∧ (rds A8 n8 l2 u ∧ (rds A9 n9 (condV ⟨l0, s0⟩ ⟨l1, s1⟩ ⟨l2, s2⟩).l u ∧ (nbs wr.heap.size A9 n9 c9 (condV ⟨l0, s0⟩ ⟨l1, s1⟩ ⟨l2, s2⟩).l u ∧ (blw wr u ∧ (tbs u ∧ blw w u))))))))))))))) [] [isV (.agg #[.slice A9 n9 c9, .bool (condV ⟨l0, s0⟩ ⟨l1, s1⟩ ⟨l2, s2⟩).s]), isV (.agg #[.slice A0 n0 c0, .bool s0]), isV (.agg #[.slice A1 n1 c1, .bool s1]), isV (.agg #[.slice A2 n2 c2, .bool s2]), isW (condV (⟨l0, s0⟩ : V) (⟨l1, s1⟩ : V) (⟨l2, s2⟩ : V)), isV (.bool true), isV (.bool false)] [some 29, some 30, some 31, some 32, some 33, some 34, some 35] [[], [], [], [], [1, 2, 3], [0, 4, 4], [5]] (by kernel_rfl) (by kernel_rfl) rfl (by kernel_rfl) (by kernel_rfl) (by kernel_rfl) ⟨O3.drew, O4.drew, O5.drew, O7.drew, O8.drew, O10.drew, r0.drew, r1.drew, r2.drew, r7.drew, r8.drew, r9.drew, N9.drew, below_drew B8, TT.drew, below_drew BB.out⟩ (fun _ h => by cases h) ?_ ?_
            · refine ⟨?_, ?_, ?_, ?_, ?_, ?_, ?_, trivial⟩
              · intro a w' hS hO hF' hP K hK
                have ha := hO 10 (by rfl)
                refine if_ok (by rfl) ?_
                refine wp_load_row 24 (.tmp 10) rfl w9.heap.size (ev ha) _ _ (0, 0) _ hS.2.2.2.2.2.1 Tryz.underlying24 rfl (by kernel_rfl) ?_
                exact hK _ w' (fun h => by cases h) (keep_same hS) rfl
              · intro a w' hS hO hF' hP K hK
                have ha := hO 3 (by rfl)
                refine if_ok (by rfl) ?_
                refine wp_load_row 24 (.tmp 3) rfl w.heap.size (ev ha) _ _ (0, 0) _ hS.1 Tryz.underlying24 rfl (by kernel_rfl) ?_
                exact hK _ w' (fun h => by cases h) (keep_same hS) rfl
              · intro a w' hS hO hF' hP K hK
                have ha := hO 4 (by rfl)
                refine if_ok (by rfl) ?_
                refine wp_load_row 24 (.tmp 4) rfl (w.heap.size + 1) (ev ha) _ _ (0, 0) _ hS.2.1 Tryz.underlying24 rfl (by kernel_rfl) ?_
                exact hK _ w' (fun h => by cases h) (keep_same hS) rfl
              · intro a w' hS hO hF' hP K hK
                have ha := hO 5 (by rfl)
                refine if_ok (by rfl) ?_
                refine wp_load_row 24 (.tmp 5) rfl (w.heap.size + 1 + 1) (ev ha) _ _ (0, 0) _ hS.2.2.1 Tryz.underlying24 rfl (by kernel_rfl) ?_
                exact hK _ w' (fun h => by cases h) (keep_same hS) rfl
              · intro a w' hS hO hF' hP K hK
                obtain ⟨_, f0, rfl⟩ := (hF' 1 rfl).1 30 _ rfl rfl
                obtain ⟨_, f1, rfl⟩ := (hF' 2 rfl).1 31 _ rfl rfl
                obtain ⟨_, f2, rfl⟩ := (hF' 3 rfl).1 32 _ rfl rfl
                refine if_ok (by rfl) ?_
                refine wp_calls rfl (enters_of Tryz.func52 (by kernel_rfl) rfl) (args := #[(.agg #[.slice A0 n0 c0, .bool s0]), (.agg #[.slice A1 n1 c1, .bool s1]), (.agg #[.slice A2 n2 c2, .bool s2])]) (by simp [Act.eval, f0, f1, f2]) ?_
                obtain ⟨O3, O4, O5, O7, O8, O10, r0, r1, r2, r7, r8, r9, N9, B8, TT, BB⟩ := id hS
                apply Calls.mono
                (with_reducible apply rCond_any_w); (repeat (first | assumption | (with_reducible (apply Nb.rd; assumption)) | (with_reducible (apply Rb.at_later; assumption)) | (with_reducible (apply Tabs.at_later; assumption)) | (with_reducible apply Rb.alloc) | (with_reducible apply Tabs.alloc) | (with_reducible apply Rb.drew) | (with_reducible apply Tabs.drew) | (show I64 _; unfold I64; omega) | omega))
                rintro e w2 ⟨A, n, c, rfl, hc, hn, hv, hb⟩
                exact ⟨_, rfl, hK _ w2 (fun h => by cases h) (keep_below hb hS) ⟨A, n, c, rfl, hc, hn, hv.rd⟩⟩
              · intro a w' hS hO hF' hP K hK
                obtain ⟨_, f0, rfl⟩ := (hF' 0 rfl).1 29 _ rfl rfl
                obtain ⟨_, f1, Ay1, ny1, cy1, rfl, hc1, hn1, hr1⟩ := (hF' 4 rfl).1 33 _ rfl rfl
                refine if_ok (by rfl) ?_
                refine wp_calls rfl (enters_of Tryz.func16 (by kernel_rfl) rfl) (args := #[(.agg #[.slice A9 n9 c9, .bool (condV ⟨l0, s0⟩ ⟨l1, s1⟩ ⟨l2, s2⟩).s]), (.agg #[.slice Ay1 ny1 cy1, .bool (condV (⟨l0, s0⟩ : V) (⟨l1, s1⟩ : V) (⟨l2, s2⟩ : V)).s])]) (by simp [Act.eval, f0, f1]) ?_
                obtain ⟨O3, O4, O5, O7, O8, O10, r0, r1, r2, r7, r8, r9, N9, B8, TT, BB⟩ := id hS
                apply Calls.mono
                (with_reducible apply same_t); (repeat (first | assumption | (with_reducible (apply Nb.rd; assumption)) | (with_reducible (apply Rb.at_later; assumption)) | (with_reducible (apply Tabs.at_later; assumption)) | (with_reducible apply Rb.alloc) | (with_reducible apply Tabs.alloc) | (with_reducible apply Rb.drew) | (with_reducible apply Tabs.drew) | (show I64 _; unfold I64; omega) | omega)); (first | exact sameV_self _ | (decide +kernel))
                rintro e w2 ⟨rfl, hb⟩
                exact ⟨_, rfl, hK _ w2 (fun h => by cases h) (keep_below hb hS) rfl⟩
              · intro a w' hS hO hF' hP K hK
                obtain ⟨_, f0, rfl⟩ := (hF' 5 rfl).1 34 _ rfl rfl
                refine if_ok (by rfl) ?_
                refine wp_not _ rfl (ev f0) ?_
                exact hK _ w' (fun h => by cases h) (keep_same hS) rfl
            · intro vs u hl hS hV
              match vs, hl, hV with
              | [v0, v1, v2, v3, v4, v5, v6], _, hV =>
                obtain rfl := hV 0 _ rfl
                obtain rfl := hV 1 _ rfl
                obtain rfl := hV 2 _ rfl
                obtain rfl := hV 3 _ rfl
                obtain rfl := hV 5 _ rfl
                obtain rfl := hV 6 _ rfl
                simp only [puts, Act.put, List.setIfInBounds_toArray, List.set_cons_zero, List.set_cons_succ]
                obtain ⟨O3, O4, O5, O7, O8, O10, r0, r1, r2, r7, r8, r9, N9, B8, TT, BB⟩ := hS
                clear hV
                replace BB := Lib.hid BB
                have x0 := O10.cell 0
                have x1 := O10.cell 1
                go_wp2_with (go_at_call 18; refine (spoil1 B8 N9 hn9 _ (by simp)).mono ?_; rintro e w7 ⟨rfl, hb⟩; replace O3 := QO3.step hb; replace O4 := QO4.step hb; replace O5 := QO5.step hb; replace O7 := QO7.step hb; replace O8 := QO8.step hb; replace r0 := Qr0.step hb; replace r1 := Qr1.step hb; replace r2 := Qr2.step hb; replace r7 := Qr7.step hb; replace r8 := Qr8.step hb; replace TT := QTT.step hb; replace BB := Lib.hid (below_step QBB.out hb))
                go_roundw
                case rel => exact ⟨k + 1, by omega, by go_num, Lib.hid O3, Lib.hid O4, Lib.hid O5, Lib.hid O7, Lib.hid O8, Lib.hid r0, Lib.hid r1, Lib.hid r2, Lib.hid r7, Lib.hid r8, Lib.hid TT, BB⟩
                case measure => simp [intOf]; omega
          · obtain rfl : k = 2 := by omega
            go_wp2_with (first | (go_at_call 16; apply Calls.mono; (with_reducible apply same_t); (repeat (first | assumption | (with_reducible (apply Nb.rd; assumption)) | (with_reducible (apply Rb.at_later; assumption)) | (with_reducible (apply Tabs.at_later; assumption)) | (with_reducible apply Rb.alloc) | (with_reducible apply Tabs.alloc) | (with_reducible apply Rb.drew) | (with_reducible apply Tabs.drew) | (show I64 _; unfold I64; omega) | omega)); (first | exact sameV_self _ | (decide +kernel)); rintro e wn ⟨rfl, hb⟩; have kb := hb; (try replace O3 := O3.step kb); (try replace O4 := O4.step kb); (try replace O5 := O5.step kb); (try replace O7 := O7.step kb); (try replace O8 := O8.step kb); (try replace r0 := r0.step kb); (try replace r1 := r1.step kb); (try replace r2 := r2.step kb); (try replace r7 := r7.step kb); (try replace r8 := r8.step kb); (try replace TT := TT.step kb); replace BB := Lib.hid (below_step BB.out kb); (try clear q30 q31); (try (have q30 := O3.cell 0; have q31 := O3.cell 1)); (try clear q40 q41); (try (have q40 := O4.cell 0; have q41 := O4.cell 1)); (try clear q50 q51); (try (have q50 := O5.cell 0; have q51 := O5.cell 1)); (try clear q70 q71); (try (have q70 := O7.cell 0; have q71 := O7.cell 1)); (try clear q80 q81); (try (have q80 := O8.cell 0; have q81 := O8.cell 1))) | (go_at_call 13; refine (awake_any _ TT).mono ?_; rintro e wn ⟨rfl, hb⟩; replace BB := Lib.hid (below_step BB.out hb)))
            go_ret
            exact ⟨rfl, BB.out⟩
  · skip
    have HL := Lib.hid (long3_b _ A0 A1 A2 n0 c0 n1 c1 n2 c2 s0 s1 s2 hl)
    clear hl
    have q30 := O3.cell 0
    have q31 := O3.cell 1
    have q40 := O4.cell 0
    have q41 := O4.cell 1
    have q50 := O5.cell 0
    have q51 := O5.cell 1
    go_enter Tryz.func6, Tryz.ntmps6
    go_wp2_with (first | (go_at_call 12; refine (HL.out _ _ (by simp)).mono ?_; rintro e wn ⟨rfl, rfl⟩; replace O3 := O3.alloc (.cells #[.slice A0 n0 c0, .bool s0, .slice A1 n1 c1, .bool s1, .slice A2 n2 c2, .bool s2] 24); replace O4 := O4.alloc (.cells #[.slice A0 n0 c0, .bool s0, .slice A1 n1 c1, .bool s1, .slice A2 n2 c2, .bool s2] 24); replace O5 := O5.alloc (.cells #[.slice A0 n0 c0, .bool s0, .slice A1 n1 c1, .bool s1, .slice A2 n2 c2, .bool s2] 24); replace r0 := r0.alloc (.cells #[.slice A0 n0 c0, .bool s0, .slice A1 n1 c1, .bool s1, .slice A2 n2 c2, .bool s2] 24); replace r1 := r1.alloc (.cells #[.slice A0 n0 c0, .bool s0, .slice A1 n1 c1, .bool s1, .slice A2 n2 c2, .bool s2] 24); replace r2 := r2.alloc (.cells #[.slice A0 n0 c0, .bool s0, .slice A1 n1 c1, .bool s1, .slice A2 n2 c2, .bool s2] 24); replace TT := TT.alloc (.cells #[.slice A0 n0 c0, .bool s0, .slice A1 n1 c1, .bool s1, .slice A2 n2 c2, .bool s2] 24); replace BB := Lib.hid (below_new BB.out (.cells #[.slice A0 n0 c0, .bool s0, .slice A1 n1 c1, .bool s1, .slice A2 n2 c2, .bool s2] 24))) | (go_at_call 13; refine (awake_any _ TT).mono ?_; rintro e wn ⟨rfl, hb⟩; replace BB := Lib.hid (below_step BB.out hb)))
    go_ret
    exact ⟨rfl, BB.out⟩
end Go.Proofs.YtognpmggfplekaaGreatDoor
