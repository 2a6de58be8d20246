/-
  The walk of VecBasicsMatch: it returns true. Conditions: the tables of package bit read as the program lays them.
-/
import Derived.Test.YtognpmggfplekaaGreatDoorW6
namespace Go.Proofs.YtognpmggfplekaaGreatDoor
open Go Go.RowKit

def bmDs : List (Option Tmp) := some 39 :: some 40 :: some 41 :: some 42 :: some 43 :: some 44 :: some 45 :: some 46 :: some 47 :: some 48 :: some 49 :: some 50 :: some 51 :: some 52 :: some 53 :: some 54 :: some 55 :: some 56 :: some 57 :: some 58 :: some 59 :: some 60 :: some 61 :: some 62 :: some 63 :: some 64 :: some 65 :: some 66 :: some 67 :: some 68 :: some 69 :: some 70 :: some 71 :: some 72 :: some 73 :: some 74 :: some 75 :: some 76 :: some 77 :: some 78 :: some 79 :: some 80 :: some 81 :: some 82 :: some 83 :: some 84 :: some 85 :: some 86 :: some 87 :: some 88 :: some 89 :: some 90 :: some 91 :: some 92 :: some 93 :: some 94 :: some 95 :: some 96 :: some 97 :: some 6 :: []
def bmDp : List (List Nat) := [] :: [0] :: [] :: [2, 1] :: [1, 3] :: [4, 3] :: [5] :: [5] :: [6, 7, 5, 5] :: [5] :: [5] :: [9, 10, 8, 5] :: [8, 11, 5] :: [5, 12] :: [13, 11] :: [14] :: [15, 14, 14] :: [14] :: [17, 16, 14] :: [16, 18, 14] :: [14, 19] :: [20, 18] :: [21] :: [21] :: [22, 23, 21, 21] :: [21] :: [21] :: [25, 26, 24, 21] :: [24, 27, 21] :: [21, 28] :: [29, 27] :: [30] :: [30] :: [31, 32, 30] :: [30, 33] :: [34, 30] :: [35] :: [35] :: [36, 37, 35] :: [35, 38] :: [39, 35] :: [40] :: [41, 40, 40] :: [40] :: [43, 42, 40] :: [42, 44, 40] :: [40, 45] :: [46, 44] :: [47] :: [47] :: [48, 49, 47, 47] :: [47] :: [47] :: [51, 52, 50, 47] :: [50, 53, 53, 47] :: [47, 54] :: [55, 54] :: [56, 56] :: [56, 57] :: (58 :: 57 :: 0 :: 1 :: 2 :: 3 :: 4 :: 5 :: 6 :: 7 :: 8 :: 9 :: 10 :: 11 :: 12 :: 13 :: 14 :: 15 :: 16 :: 17 :: 18 :: 19 :: 20 :: 21 :: 22 :: 23 :: 24 :: 25 :: 26 :: 27 :: 28 :: 29 :: 30 :: 31 :: 32 :: 33 :: 34 :: 35 :: 36 :: 37 :: 38 :: 39 :: 40 :: 41 :: 42 :: 43 :: 44 :: 45 :: 46 :: 47 :: 48 :: 49 :: 50 :: 51 :: 52 :: 53 :: 54 :: 55 :: 56 :: 57 :: 58 :: []) :: []
def bmVs (A0 A1 : Option Addr) (n0 c0 n1 c1 : Nat) (s0 s1 a2 : Bool) (l0 l1 : List Int) : List (Value → World → Prop) := (isV (.agg #[.slice A0 n0 c0, .bool s0])) :: (isV (.int .i64 (chk (⟨l0, s0⟩ : V).l))) :: (isV (.agg #[.slice A0 n0 c0, .bool s0])) :: (isV (.int .i64 (chk (⟨l0, s0⟩ : V).l))) :: (isV (.bool true)) :: (isV (.bool true)) :: (isV (.agg #[.slice A0 n0 c0, .bool s0])) :: (isV (.agg #[.slice A1 n1 c1, .bool s1])) :: (isV (.bool (sameV (⟨l0, s0⟩ : V) (⟨l1, s1⟩ : V)))) :: (isV (.agg #[.slice A0 n0 c0, .bool s0])) :: (isV (.agg #[.slice A1 n1 c1, .bool s1])) :: (isV (.bool (sameV (⟨l0, s0⟩ : V) (⟨l1, s1⟩ : V)))) :: (isV (.bool true)) :: (isV (.bool true)) :: (isV (.bool true)) :: (isV (.agg #[.slice A0 n0 c0, .bool s0])) :: (isV (.bool (kn (⟨l0, s0⟩ : V)))) :: (isV (.agg #[.slice A0 n0 c0, .bool s0])) :: (isV (.bool (kn (⟨l0, s0⟩ : V)))) :: (isV (.bool true)) :: (isV (.bool true)) :: (isV (.bool true)) :: (isV (.agg #[.slice A0 n0 c0, .bool s0])) :: (isV (.agg #[.slice A1 n1 c1, .bool s1])) :: (isV (.bool (leqV (⟨l0, s0⟩ : V) (⟨l1, s1⟩ : V)))) :: (isV (.agg #[.slice A0 n0 c0, .bool s0])) :: (isV (.agg #[.slice A1 n1 c1, .bool s1])) :: (isV (.bool (leqV (⟨l0, s0⟩ : V) (⟨l1, s1⟩ : V)))) :: (isV (.bool true)) :: (isV (.bool true)) :: (isV (.bool true)) :: (isV (.int .i64 (iVal ⟨l0, s0⟩))) :: (isV (.int .i64 (iVal ⟨l0, s0⟩))) :: (isV (.bool true)) :: (isV (.bool true)) :: (isV (.bool true)) :: (isV (.bool (iOk ⟨l0, s0⟩))) :: (isV (.bool (iOk ⟨l0, s0⟩))) :: (isV (.bool true)) :: (isV (.bool true)) :: (isV (.bool true)) :: (isV (.agg #[.slice A0 n0 c0, .bool s0])) :: (isV (.int .u8 (truth (⟨l0, s0⟩ : V)))) :: (isV (.agg #[.slice A0 n0 c0, .bool s0])) :: (isV (.int .u8 (truth (⟨l0, s0⟩ : V)))) :: (isV (.bool true)) :: (isV (.bool true)) :: (isV (.bool true)) :: (isV (.agg #[.slice A0 n0 c0, .bool s0])) :: (isV (.bool a2)) :: (isW (⟨(nrm (⟨l0, s0⟩ : V)).l, a2⟩ : V)) :: (isV (.agg #[.slice A0 n0 c0, .bool s0])) :: (isV (.bool a2)) :: (isW (⟨(nrm (⟨l0, s0⟩ : V)).l, a2⟩ : V)) :: (isV (.bool true)) :: (isV (.bool true)) :: (isV (.bool true)) :: (isV (.bool true)) :: (isV (.bool true)) :: (isV (.bool true)) :: []
instance (A0 A1 : Option Addr) (n0 c0 n1 c1 : Nat) (s0 s1 a2 : Bool) (l0 l1 : List Int) : StVs (bmVs A0 A1 n0 c0 n1 c1 s0 s1 a2 l0 l1) := by unfold bmVs; exact by repeat (first | exact stvs_nil | refine stvs_cons inferInstance ?_)
set_option maxRecDepth 100000 in
set_option maxHeartbeats 8000000 in
theorem walk_VecBasicsMatch (A0 : Option Addr) (n0 c0 : Nat) (s0 : Bool) (l0 : List Int) (A1 : Option Addr) (n1 c1 : Nat) (s1 : Bool) (l1 : List Int) (a2 : Bool) (w : World) (h0 : Rb w A0 n0 l0) (hc0 : n0 ≤ c0) (h1 : Rb w A1 n1 l1) (_hc1 : n1 ≤ c1)  (TT : Tabs w) : Calls Tryz.prog 4 #[.agg #[.slice A0 n0 c0, .bool s0], .agg #[.slice A1 n1 c1, .bool s1], .bool a2] w fun e w' => e = .returned (.bool true) ∧ Below w.heap.size w w' := by
  have O0 := ((Own.at1 w 24 #[.slice A0 n0 c0, .bool s0] (g := w.heap.size) (by simp)).alloc (.cells #[.slice A1 n1 c1, .bool s1] 24))
  have O1 := (Own.at1 (w.alloc (.cells #[.slice A0 n0 c0, .bool s0] 24)) 24 #[.slice A1 n1 c1, .bool s1] (g := w.heap.size + 1) (by simp))
  have BB := (below_new (below_new (Below.refl w.heap.size w) (.cells #[.slice A0 n0 c0, .bool s0] 24)) (.cells #[.slice A1 n1 c1, .bool s1] 24))
  have X3 := O0
  have X4 := O1
  clear O0
  clear O1
  have O3 := X3
  clear X3
  have O4 := X4
  clear X4
  replace TT := TT.step BB
  have r0 := h0.step BB
  have r1 := h1.step BB
  clear h0 h1
  replace BB := Lib.hid BB
  cases hl : lngB [n0, n1]
  · have hn := lng_no hl
    have hn0 : n0 ≤ 140 := hn n0 (by simp)
    have hn1 : n1 ≤ 140 := hn n1 (by simp)
    have HL := Lib.hid (long2_b _ A0 A1 n0 c0 n1 c1 s0 s1 hl)
    clear hl hn
    have q30 := O3.cell 0
    have q31 := O3.cell 1
    have q40 := O4.cell 0
    have q41 := O4.cell 1
    go_enter Tryz.func4, Tryz.ntmps4
    go_wp2_with (first | (go_at_call 12; refine (HL.out _ _ (by simp)).mono ?_; rintro e wn ⟨rfl, rfl⟩; replace O3 := O3.alloc (.cells #[.slice A0 n0 c0, .bool s0, .slice A1 n1 c1, .bool s1] 24); replace O4 := O4.alloc (.cells #[.slice A0 n0 c0, .bool s0, .slice A1 n1 c1, .bool s1] 24); replace r0 := r0.alloc (.cells #[.slice A0 n0 c0, .bool s0, .slice A1 n1 c1, .bool s1] 24); replace r1 := r1.alloc (.cells #[.slice A0 n0 c0, .bool s0, .slice A1 n1 c1, .bool s1] 24); replace TT := TT.alloc (.cells #[.slice A0 n0 c0, .bool s0, .slice A1 n1 c1, .bool s1] 24); replace BB := Lib.hid (below_new BB.out (.cells #[.slice A0 n0 c0, .bool s0, .slice A1 n1 c1, .bool s1] 24))) | (go_at_call 24; apply Calls.mono; (with_reducible apply int_v); (repeat (first | assumption | (with_reducible (apply Nb.rd; assumption)) | (with_reducible (apply Rb.at_later; assumption)) | (with_reducible (apply Tabs.at_later; assumption)) | (with_reducible apply Rb.alloc) | (with_reducible apply Tabs.alloc) | (with_reducible apply Rb.drew) | (with_reducible apply Tabs.drew) | (show I64 _; unfold I64; omega) | omega)); rintro e wn ⟨rfl, hb⟩; have kb := hb; (try replace O3 := O3.step kb); (try replace O4 := O4.step kb); (try replace r0 := r0.step kb); (try replace r1 := r1.step kb); (try replace TT := TT.step kb); replace BB := Lib.hid (below_step BB.out kb); (try clear q30 q31); (try (have q30 := O3.cell 0; have q31 := O3.cell 1)); (try clear q40 q41); (try (have q40 := O4.cell 0; have q41 := O4.cell 1))) | (go_at_call 25; apply Calls.mono; (with_reducible apply rInt_v); (repeat (first | assumption | (with_reducible (apply Nb.rd; assumption)) | (with_reducible (apply Rb.at_later; assumption)) | (with_reducible (apply Tabs.at_later; assumption)) | (with_reducible apply Rb.alloc) | (with_reducible apply Tabs.alloc) | (with_reducible apply Rb.drew) | (with_reducible apply Tabs.drew) | (show I64 _; unfold I64; omega) | omega)); rintro e w8 ⟨rfl, hb⟩; have kb := hb; (try replace O3 := O3.step kb); (try replace O4 := O4.step kb); (try replace r0 := r0.step kb); (try replace r1 := r1.step kb); (try replace TT := TT.step kb); replace BB := Lib.hid (below_step BB.out kb); (try clear q30 q31); (try (have q30 := O3.cell 0; have q31 := O3.cell 1)); (try clear q40 q41); (try (have q40 := O4.cell 0; have q41 := O4.cell 1))) | (go_at_call 26; apply Calls.mono; (with_reducible apply withSign_any_w); (repeat (first | assumption | (with_reducible (apply Nb.rd; assumption)) | (with_reducible (apply Rb.at_later; assumption)) | (with_reducible (apply Tabs.at_later; assumption)) | (with_reducible apply Rb.alloc) | (with_reducible apply Tabs.alloc) | (with_reducible apply Rb.drew) | (with_reducible apply Tabs.drew) | (show I64 _; unfold I64; omega) | omega)); have Q3 := O3; have Q4 := O4; have q0 := r0; have q1 := r1; have QT := TT; have QB := BB; rintro e w9 ⟨A9, n9, c9, rfl, hc9, hn9, hv, hb⟩; have kb := hb; replace O3 := O3.step kb; replace O4 := O4.step kb; replace r0 := r0.step kb; replace r1 := r1.step kb; replace TT := TT.step kb; replace BB := Lib.hid (below_step BB.out kb); replace O3 := O3.alloc (.cells #[.slice A9 n9 c9, .bool a2] 24); replace O4 := O4.alloc (.cells #[.slice A9 n9 c9, .bool a2] 24); replace r0 := r0.alloc (.cells #[.slice A9 n9 c9, .bool a2] 24); replace r1 := r1.alloc (.cells #[.slice A9 n9 c9, .bool a2] 24); replace TT := TT.alloc (.cells #[.slice A9 n9 c9, .bool a2] 24); replace BB := Lib.hid (below_new BB.out (.cells #[.slice A9 n9 c9, .bool a2] 24)); have O11 := Own.new w9 24 #[.slice A9 n9 c9, .bool a2]; have r9 := hv.rd.alloc (.cells #[.slice A9 n9 c9, .bool a2] 24); have N9 := hv.alloc (.cells #[.slice A9 n9 c9, .bool a2] 24); have B8 := below_new hb (.cells #[.slice A9 n9 c9, .bool a2] 24); clear hb kb hv))
    refine region_y (by kernel_rfl) (fun u => owns w.heap.size #[.slice A0 n0 c0, .bool s0] u ∧ (owns (w.heap.size + 1) #[.slice A1 n1 c1, .bool s1] u ∧ (owns w9.heap.size #[.slice A9 n9 c9, .bool a2] u ∧ (rds A0 n0 l0 u ∧ (rds A1 n1 l1 u ∧ (rds A9 n9 (nrm ⟨l0, s0⟩).l u ∧ (nbs w8.heap.size A9 n9 c9 (nrm ⟨l0, s0⟩).l u ∧ (blw w8 u ∧ (tbs u ∧ blw w u))))))))) [] [isV (.agg #[.slice A9 n9 c9, .bool a2]), isV (.agg #[.slice A0 n0 c0, .bool s0]), isV (.bool a2), isW (⟨(nrm (⟨l0, s0⟩ : V)).l, a2⟩ : V), isV (.bool true), isV (.bool false)] [some 30, some 31, some 32, some 33, some 34, some 35] [[], [], [], [1, 2], [0, 3, 3], [4]] (by kernel_rfl) (by kernel_rfl) rfl (by kernel_rfl) (by kernel_rfl) (by kernel_rfl) ⟨O3.drew, O4.drew, O11.drew, r0.drew, r1.drew, r9.drew, N9.drew, below_drew B8, TT.drew, below_drew BB.out⟩ (fun _ h => by cases h) ?_ ?_
    · refine ⟨?_, ?_, ?_, ?_, ?_, ?_, trivial⟩
      · intro a w' hS hO hF' hP K hK
        have ha := hO 11 (by rfl)
        refine if_ok (by rfl) ?_
        refine wp_load_row 24 (.tmp 11) rfl w9.heap.size (ev ha) _ _ (0, 0) _ hS.2.2.1 Tryz.underlying24 rfl (by kernel_rfl) ?_
        exact hK _ w' (fun h => by cases h) (keep_same hS) rfl
      · intro a w' hS hO hF' hP K hK
        have ha := hO 3 (by rfl)
        refine if_ok (by rfl) ?_
        refine wp_load_row 24 (.tmp 3) rfl w.heap.size (ev ha) _ _ (0, 0) _ hS.1 Tryz.underlying24 rfl (by kernel_rfl) ?_
        exact hK _ w' (fun h => by cases h) (keep_same hS) rfl
      · intro a w' hS hO hF' hP K hK
        have f0 := hO 2 (by rfl)
        refine if_ok (by rfl) ?_
        unfold Oper.wp execOp
        simp only [Sem.run_pure, ev f0]
        exact hK _ w' (fun h => by cases h) (keep_same hS) rfl
      · intro a w' hS hO hF' hP K hK
        obtain ⟨_, f0, rfl⟩ := (hF' 1 rfl).1 31 _ rfl rfl
        obtain ⟨_, f1, rfl⟩ := (hF' 2 rfl).1 32 _ rfl rfl
        refine if_ok (by rfl) ?_
        refine wp_calls rfl (enters_of Tryz.func27 (by kernel_rfl) rfl) (args := #[(.agg #[.slice A0 n0 c0, .bool s0]), (.bool a2)]) (by simp [Act.eval, f0, f1]) ?_
        obtain ⟨O3, O4, O11, r0, r1, r9, N9, B8, TT, BB⟩ := id hS
        apply Calls.mono
        (with_reducible apply rWithSign_any_w); (repeat (first | assumption | (with_reducible (apply Nb.rd; assumption)) | (with_reducible (apply Rb.at_later; assumption)) | (with_reducible (apply Tabs.at_later; assumption)) | (with_reducible apply Rb.alloc) | (with_reducible apply Tabs.alloc) | (with_reducible apply Rb.drew) | (with_reducible apply Tabs.drew) | (show I64 _; unfold I64; omega) | omega))
        rintro e w2 ⟨A, n, c, rfl, hc, hn, hv, hb⟩
        exact ⟨_, rfl, hK _ w2 (fun h => by cases h) (keep_below hb hS) ⟨A, n, c, rfl, hc, hn, hv.rd⟩⟩
      · intro a w' hS hO hF' hP K hK
        obtain ⟨_, f0, rfl⟩ := (hF' 0 rfl).1 30 _ rfl rfl
        obtain ⟨_, f1, A1, n1, c1, rfl, hc1, hn1, hr1⟩ := (hF' 3 rfl).1 33 _ rfl rfl
        refine if_ok (by rfl) ?_
        refine wp_calls rfl (enters_of Tryz.func16 (by kernel_rfl) rfl) (args := #[(.agg #[.slice A9 n9 c9, .bool a2]), (.agg #[.slice A1 n1 c1, .bool (⟨(nrm (⟨l0, s0⟩ : V)).l, a2⟩ : V).s])]) (by simp [Act.eval, f0, f1]) ?_
        obtain ⟨O3, O4, O11, r0, r1, r9, N9, B8, TT, BB⟩ := id hS
        apply Calls.mono
        (with_reducible apply same_t); (repeat (first | assumption | (with_reducible (apply Nb.rd; assumption)) | (with_reducible (apply Rb.at_later; assumption)) | (with_reducible (apply Tabs.at_later; assumption)) | (with_reducible apply Rb.alloc) | (with_reducible apply Tabs.alloc) | (with_reducible apply Rb.drew) | (with_reducible apply Tabs.drew) | (show I64 _; unfold I64; omega) | omega)); (first | exact sameV_self _ | (decide +kernel))
        rintro e w2 ⟨rfl, hb⟩
        exact ⟨_, rfl, hK _ w2 (fun h => by cases h) (keep_below hb hS) rfl⟩
      · intro a w' hS hO hF' hP K hK
        obtain ⟨_, f0, rfl⟩ := (hF' 4 rfl).1 34 _ rfl rfl
        refine if_ok (by rfl) ?_
        refine wp_not _ rfl (ev f0) ?_
        exact hK _ w' (fun h => by cases h) (keep_same hS) rfl
    · intro vs u hl hS hV
      match vs, hl, hV with
      | [v0, v1, v2, v3, v4, v5], _, hV =>
        obtain rfl := hV 0 _ rfl
        obtain rfl := hV 1 _ rfl
        obtain rfl := hV 2 _ rfl
        obtain rfl := hV 4 _ rfl
        obtain rfl := hV 5 _ rfl
        simp only [puts, Act.put, List.setIfInBounds_toArray, List.set_cons_zero, List.set_cons_succ]
        obtain ⟨O3, O4, O11, r0, r1, r9, N9, B8, TT, BB⟩ := hS
        clear hV
        replace BB := Lib.hid BB
        have x0 := O11.cell 0
        have x1 := O11.cell 1
        have q30 := O3.cell 0
        have q31 := O3.cell 1
        go_wp2_with (go_at_call 18; refine (spoil1 B8 N9 hn9 _ (by simp)).mono ?_; rintro e w7 ⟨rfl, hb⟩; clear x0 x1 O11 O3 O4 r0 r1 r9 N9 TT BB B8; have O3 := Q3.step hb; have O4 := Q4.step hb; have r0 := q0.step hb; have r1 := q1.step hb; have TT := QT.step hb; have BB := below_step QB.out hb; clear Q3 Q4 q0 q1 QT QB hb)
        refine region_z (by kernel_rfl) (fun u => owns w.heap.size #[.slice A0 n0 c0, .bool s0] u ∧ (owns (w.heap.size + 1) #[.slice A1 n1 c1, .bool s1] u ∧ (rds A0 n0 l0 u ∧ (rds A1 n1 l1 u ∧ (tbs u ∧ blw w u))))) [] (bmVs A0 A1 n0 c0 n1 c1 s0 s1 a2 l0 l1) bmDs bmDp (by kernel_rfl) (by kernel_rfl) rfl (by kernel_rfl) (by kernel_rfl) (by kernel_rfl) ⟨O3.drew, O4.drew, r0.drew, r1.drew, TT.drew, below_drew BB⟩ (fun _ h => by cases h) ?_ ?_
        · refine ⟨?_, ?_, ?_, ?_, ?_, ?_, ?_, ?_, ?_, ?_, ?_, ?_, ?_, ?_, ?_, ?_, ?_, ?_, ?_, ?_, ?_, ?_, ?_, ?_, ?_, ?_, ?_, ?_, ?_, ?_, ?_, ?_, ?_, ?_, ?_, ?_, ?_, ?_, ?_, ?_, ?_, ?_, ?_, ?_, ?_, ?_, ?_, ?_, ?_, ?_, ?_, ?_, ?_, ?_, ?_, ?_, ?_, ?_, ?_, ?_, trivial⟩
          · intro a w' hS hO hF' hP K hK
            have ha := hO 3 (by rfl)
            refine if_ok (by rfl) ?_
            refine wp_load_row 24 (.tmp 3) rfl w.heap.size (ev ha) _ _ (0, 0) _ hS.1 Tryz.underlying24 rfl (by kernel_rfl) ?_
            exact hK _ w' (fun h => by cases h) (keep_same hS) rfl
          · intro a w' hS hO hF' hP K hK
            obtain ⟨_, f0, rfl⟩ := (hF' 0 rfl).1 39 _ rfl rfl
            refine if_ok (by rfl) ?_
            refine wp_calls rfl (enters_of Tryz.func28 (by kernel_rfl) rfl) (args := #[(.agg #[.slice A0 n0 c0, .bool s0])]) (by simp [Act.eval, f0]) ?_
            obtain ⟨O3, O4, r0, r1, TT, BB⟩ := id hS
            apply Calls.mono
            (with_reducible apply check_any); (repeat (first | assumption | (with_reducible (apply Nb.rd; assumption)) | (with_reducible (apply Rb.at_later; assumption)) | (with_reducible (apply Tabs.at_later; assumption)) | (with_reducible apply Rb.alloc) | (with_reducible apply Tabs.alloc) | (with_reducible apply Rb.drew) | (with_reducible apply Tabs.drew) | (show I64 _; unfold I64; omega) | omega))
            rintro e w2 ⟨rfl, hb⟩
            exact ⟨_, rfl, hK _ w2 (fun h => by cases h) (keep_below hb hS) rfl⟩
          · intro a w' hS hO hF' hP K hK
            have ha := hO 3 (by rfl)
            refine if_ok (by rfl) ?_
            refine wp_load_row 24 (.tmp 3) rfl w.heap.size (ev ha) _ _ (0, 0) _ hS.1 Tryz.underlying24 rfl (by kernel_rfl) ?_
            exact hK _ w' (fun h => by cases h) (keep_same hS) rfl
          · intro a w' hS hO hF' hP K hK
            obtain ⟨_, f0, rfl⟩ := (hF' 2 rfl).1 41 _ rfl rfl
            refine if_ok (by rfl) ?_
            refine wp_calls rfl (enters_of Tryz.func29 (by kernel_rfl) rfl) (args := #[(.agg #[.slice A0 n0 c0, .bool s0])]) (by simp [Act.eval, f0]) ?_
            obtain ⟨O3, O4, r0, r1, TT, BB⟩ := id hS
            apply Calls.mono
            (with_reducible apply rCheck_any); (repeat (first | assumption | (with_reducible (apply Nb.rd; assumption)) | (with_reducible (apply Rb.at_later; assumption)) | (with_reducible (apply Tabs.at_later; assumption)) | (with_reducible apply Rb.alloc) | (with_reducible apply Tabs.alloc) | (with_reducible apply Rb.drew) | (with_reducible apply Tabs.drew) | (show I64 _; unfold I64; omega) | omega))
            rintro e w2 ⟨rfl, hb⟩
            exact ⟨_, rfl, hK _ w2 (fun h => by cases h) (keep_below hb hS) rfl⟩
          · intro a w' hS hO hF' hP K hK
            obtain ⟨_, f0, rfl⟩ := (hF' 1 rfl).1 40 _ rfl rfl
            obtain ⟨_, f1, rfl⟩ := (hF' 3 rfl).1 42 _ rfl rfl
            refine if_ok (by rfl) ?_
            refine wp_val (w' := w') (q := .bool true) (by unfold execOp; simp only [(ev f0), (ev f1)]; simp [go_sem]) ?_
            exact hK _ w' (fun h => by cases h) (keep_same hS) rfl
          · intro a w' hS hO hF' hP K hK
            obtain ⟨_, f0, rfl⟩ := (hF' 4 rfl).1 43 _ rfl rfl
            refine if_ok (by rfl) ?_
            unfold Oper.wp execOp
            simp only [Sem.run_pure, ev f0]
            exact hK _ w' (fun h => by cases h) (keep_same hS) rfl
          · intro a w' hS hO hF' hP K hK
            obtain ⟨_, fg, rfl⟩ := (hF' 5 rfl).1 44 _ rfl rfl
            have ha := hO 3 (by rfl)
            refine if_wanted (by rfl) (yield_of (by rfl) fg) ?_
            refine wp_load_row 24 (.tmp 3) rfl w.heap.size (ev ha) _ _ (0, 0) _ hS.1 Tryz.underlying24 rfl (by kernel_rfl) ?_
            exact hK _ w' (fun h => by cases h) (keep_same hS) rfl
          · intro a w' hS hO hF' hP K hK
            obtain ⟨_, fg, rfl⟩ := (hF' 5 rfl).1 44 _ rfl rfl
            have ha := hO 4 (by rfl)
            refine if_wanted (by rfl) (yield_of (by rfl) fg) ?_
            refine wp_load_row 24 (.tmp 4) rfl (w.heap.size + 1) (ev ha) _ _ (0, 0) _ hS.2.1 Tryz.underlying24 rfl (by kernel_rfl) ?_
            exact hK _ w' (fun h => by cases h) (keep_same hS) rfl
          · intro a w' hS hO hF' hP K hK
            obtain ⟨_, fg, rfl⟩ := (hF' 5 rfl).1 44 _ rfl rfl
            obtain ⟨_, f0, rfl⟩ := (hF' 6 rfl).1 45 _ rfl rfl
            obtain ⟨_, f1, rfl⟩ := (hF' 7 rfl).1 46 _ rfl rfl
            refine if_wanted (by rfl) (yield_of (by rfl) fg) ?_
            refine wp_calls rfl (enters_of Tryz.func30 (by kernel_rfl) rfl) (args := #[(.agg #[.slice A0 n0 c0, .bool s0]), (.agg #[.slice A1 n1 c1, .bool s1])]) (by simp [Act.eval, f0, f1]) ?_
            obtain ⟨O3, O4, r0, r1, TT, BB⟩ := id hS
            apply Calls.mono
            (with_reducible apply same_v); (repeat (first | assumption | (with_reducible (apply Nb.rd; assumption)) | (with_reducible (apply Rb.at_later; assumption)) | (with_reducible (apply Tabs.at_later; assumption)) | (with_reducible apply Rb.alloc) | (with_reducible apply Tabs.alloc) | (with_reducible apply Rb.drew) | (with_reducible apply Tabs.drew) | (show I64 _; unfold I64; omega) | omega))
            rintro e w2 ⟨rfl, hb⟩
            exact ⟨_, rfl, hK _ w2 (fun h => by cases h) (keep_below hb hS) rfl⟩
          · intro a w' hS hO hF' hP K hK
            obtain ⟨_, fg, rfl⟩ := (hF' 5 rfl).1 44 _ rfl rfl
            have ha := hO 3 (by rfl)
            refine if_wanted (by rfl) (yield_of (by rfl) fg) ?_
            refine wp_load_row 24 (.tmp 3) rfl w.heap.size (ev ha) _ _ (0, 0) _ hS.1 Tryz.underlying24 rfl (by kernel_rfl) ?_
            exact hK _ w' (fun h => by cases h) (keep_same hS) rfl
          · intro a w' hS hO hF' hP K hK
            obtain ⟨_, fg, rfl⟩ := (hF' 5 rfl).1 44 _ rfl rfl
            have ha := hO 4 (by rfl)
            refine if_wanted (by rfl) (yield_of (by rfl) fg) ?_
            refine wp_load_row 24 (.tmp 4) rfl (w.heap.size + 1) (ev ha) _ _ (0, 0) _ hS.2.1 Tryz.underlying24 rfl (by kernel_rfl) ?_
            exact hK _ w' (fun h => by cases h) (keep_same hS) rfl
          · intro a w' hS hO hF' hP K hK
            obtain ⟨_, fg, rfl⟩ := (hF' 5 rfl).1 44 _ rfl rfl
            obtain ⟨_, f0, rfl⟩ := (hF' 9 rfl).1 48 _ rfl rfl
            obtain ⟨_, f1, rfl⟩ := (hF' 10 rfl).1 49 _ rfl rfl
            refine if_wanted (by rfl) (yield_of (by rfl) fg) ?_
            refine wp_calls rfl (enters_of Tryz.func16 (by kernel_rfl) rfl) (args := #[(.agg #[.slice A0 n0 c0, .bool s0]), (.agg #[.slice A1 n1 c1, .bool s1])]) (by simp [Act.eval, f0, f1]) ?_
            obtain ⟨O3, O4, r0, r1, TT, BB⟩ := id hS
            apply Calls.mono
            (with_reducible apply rSame_any); (repeat (first | assumption | (with_reducible (apply Nb.rd; assumption)) | (with_reducible (apply Rb.at_later; assumption)) | (with_reducible (apply Tabs.at_later; assumption)) | (with_reducible apply Rb.alloc) | (with_reducible apply Tabs.alloc) | (with_reducible apply Rb.drew) | (with_reducible apply Tabs.drew) | (show I64 _; unfold I64; omega) | omega))
            rintro e w2 ⟨rfl, hb⟩
            exact ⟨_, rfl, hK _ w2 (fun h => by cases h) (keep_below hb hS) rfl⟩
          · intro a w' hS hO hF' hP K hK
            obtain ⟨_, fg, rfl⟩ := (hF' 5 rfl).1 44 _ rfl rfl
            obtain ⟨_, f0, rfl⟩ := (hF' 8 rfl).1 47 _ rfl rfl
            obtain ⟨_, f1, rfl⟩ := (hF' 11 rfl).1 50 _ rfl rfl
            refine if_wanted (by rfl) (yield_of (by rfl) fg) ?_
            refine wp_val (w' := w') (q := .bool true) (by unfold execOp; simp only [(ev f0), (ev f1)]; simp [go_sem]) ?_
            exact hK _ w' (fun h => by cases h) (keep_same hS) rfl
          · intro a w' hS hO hF' hP K hK
            obtain ⟨_, f0, rfl⟩ := (hF' 5 rfl).1 44 _ rfl rfl
            obtain ⟨_, f1, rfl⟩ := (hF' 12 rfl).1 51 _ rfl rfl
            refine if_ok (by rfl) ?_
            refine wp_pick_and _ _ _ rfl (ev f0) (ev f1) ?_
            exact hK _ w' (fun h => by cases h) (keep_same hS) rfl
          · intro a w' hS hO hF' hP K hK
            obtain ⟨_, f0, rfl⟩ := (hF' 13 rfl).1 52 _ rfl rfl
            refine if_ok (by rfl) ?_
            unfold Oper.wp execOp
            simp only [Sem.run_pure, ev f0]
            exact hK _ w' (fun h => by cases h) (keep_same hS) rfl
          · intro a w' hS hO hF' hP K hK
            obtain ⟨_, fg, rfl⟩ := (hF' 14 rfl).1 53 _ rfl rfl
            have ha := hO 3 (by rfl)
            refine if_wanted (by rfl) (yield_of (by rfl) fg) ?_
            refine wp_load_row 24 (.tmp 3) rfl w.heap.size (ev ha) _ _ (0, 0) _ hS.1 Tryz.underlying24 rfl (by kernel_rfl) ?_
            exact hK _ w' (fun h => by cases h) (keep_same hS) rfl
          · intro a w' hS hO hF' hP K hK
            obtain ⟨_, fg, rfl⟩ := (hF' 14 rfl).1 53 _ rfl rfl
            obtain ⟨_, f0, rfl⟩ := (hF' 15 rfl).1 54 _ rfl rfl
            refine if_wanted (by rfl) (yield_of (by rfl) fg) ?_
            refine wp_calls rfl (enters_of Tryz.func31 (by kernel_rfl) rfl) (args := #[(.agg #[.slice A0 n0 c0, .bool s0])]) (by simp [Act.eval, f0]) ?_
            obtain ⟨O3, O4, r0, r1, TT, BB⟩ := id hS
            apply Calls.mono
            (with_reducible apply known_v); (repeat (first | assumption | (with_reducible (apply Nb.rd; assumption)) | (with_reducible (apply Rb.at_later; assumption)) | (with_reducible (apply Tabs.at_later; assumption)) | (with_reducible apply Rb.alloc) | (with_reducible apply Tabs.alloc) | (with_reducible apply Rb.drew) | (with_reducible apply Tabs.drew) | (show I64 _; unfold I64; omega) | omega))
            rintro e w2 ⟨rfl, hb⟩
            exact ⟨_, rfl, hK _ w2 (fun h => by cases h) (keep_below hb hS) rfl⟩
          · intro a w' hS hO hF' hP K hK
            obtain ⟨_, fg, rfl⟩ := (hF' 14 rfl).1 53 _ rfl rfl
            have ha := hO 3 (by rfl)
            refine if_wanted (by rfl) (yield_of (by rfl) fg) ?_
            refine wp_load_row 24 (.tmp 3) rfl w.heap.size (ev ha) _ _ (0, 0) _ hS.1 Tryz.underlying24 rfl (by kernel_rfl) ?_
            exact hK _ w' (fun h => by cases h) (keep_same hS) rfl
          · intro a w' hS hO hF' hP K hK
            obtain ⟨_, fg, rfl⟩ := (hF' 14 rfl).1 53 _ rfl rfl
            obtain ⟨_, f0, rfl⟩ := (hF' 17 rfl).1 56 _ rfl rfl
            refine if_wanted (by rfl) (yield_of (by rfl) fg) ?_
            refine wp_calls rfl (enters_of Tryz.func32 (by kernel_rfl) rfl) (args := #[(.agg #[.slice A0 n0 c0, .bool s0])]) (by simp [Act.eval, f0]) ?_
            obtain ⟨O3, O4, r0, r1, TT, BB⟩ := id hS
            apply Calls.mono
            (with_reducible apply rKnown_any); (repeat (first | assumption | (with_reducible (apply Nb.rd; assumption)) | (with_reducible (apply Rb.at_later; assumption)) | (with_reducible (apply Tabs.at_later; assumption)) | (with_reducible apply Rb.alloc) | (with_reducible apply Tabs.alloc) | (with_reducible apply Rb.drew) | (with_reducible apply Tabs.drew) | (show I64 _; unfold I64; omega) | omega))
            rintro e w2 ⟨rfl, hb⟩
            exact ⟨_, rfl, hK _ w2 (fun h => by cases h) (keep_below hb hS) rfl⟩
          · intro a w' hS hO hF' hP K hK
            obtain ⟨_, fg, rfl⟩ := (hF' 14 rfl).1 53 _ rfl rfl
            obtain ⟨_, f0, rfl⟩ := (hF' 16 rfl).1 55 _ rfl rfl
            obtain ⟨_, f1, rfl⟩ := (hF' 18 rfl).1 57 _ rfl rfl
            refine if_wanted (by rfl) (yield_of (by rfl) fg) ?_
            refine wp_val (w' := w') (q := .bool true) (by unfold execOp; simp only [(ev f0), (ev f1)]; simp [go_sem]) ?_
            exact hK _ w' (fun h => by cases h) (keep_same hS) rfl
          · intro a w' hS hO hF' hP K hK
            obtain ⟨_, f0, rfl⟩ := (hF' 14 rfl).1 53 _ rfl rfl
            obtain ⟨_, f1, rfl⟩ := (hF' 19 rfl).1 58 _ rfl rfl
            refine if_ok (by rfl) ?_
            refine wp_pick_and _ _ _ rfl (ev f0) (ev f1) ?_
            exact hK _ w' (fun h => by cases h) (keep_same hS) rfl
          · intro a w' hS hO hF' hP K hK
            obtain ⟨_, f0, rfl⟩ := (hF' 20 rfl).1 59 _ rfl rfl
            refine if_ok (by rfl) ?_
            unfold Oper.wp execOp
            simp only [Sem.run_pure, ev f0]
            exact hK _ w' (fun h => by cases h) (keep_same hS) rfl
          · intro a w' hS hO hF' hP K hK
            obtain ⟨_, fg, rfl⟩ := (hF' 21 rfl).1 60 _ rfl rfl
            have ha := hO 3 (by rfl)
            refine if_wanted (by rfl) (yield_of (by rfl) fg) ?_
            refine wp_load_row 24 (.tmp 3) rfl w.heap.size (ev ha) _ _ (0, 0) _ hS.1 Tryz.underlying24 rfl (by kernel_rfl) ?_
            exact hK _ w' (fun h => by cases h) (keep_same hS) rfl
          · intro a w' hS hO hF' hP K hK
            obtain ⟨_, fg, rfl⟩ := (hF' 21 rfl).1 60 _ rfl rfl
            have ha := hO 4 (by rfl)
            refine if_wanted (by rfl) (yield_of (by rfl) fg) ?_
            refine wp_load_row 24 (.tmp 4) rfl (w.heap.size + 1) (ev ha) _ _ (0, 0) _ hS.2.1 Tryz.underlying24 rfl (by kernel_rfl) ?_
            exact hK _ w' (fun h => by cases h) (keep_same hS) rfl
          · intro a w' hS hO hF' hP K hK
            obtain ⟨_, fg, rfl⟩ := (hF' 21 rfl).1 60 _ rfl rfl
            obtain ⟨_, f0, rfl⟩ := (hF' 22 rfl).1 61 _ rfl rfl
            obtain ⟨_, f1, rfl⟩ := (hF' 23 rfl).1 62 _ rfl rfl
            refine if_wanted (by rfl) (yield_of (by rfl) fg) ?_
            refine wp_calls rfl (enters_of Tryz.func33 (by kernel_rfl) rfl) (args := #[(.agg #[.slice A0 n0 c0, .bool s0]), (.agg #[.slice A1 n1 c1, .bool s1])]) (by simp [Act.eval, f0, f1]) ?_
            obtain ⟨O3, O4, r0, r1, TT, BB⟩ := id hS
            apply Calls.mono
            (with_reducible apply leq_v); (repeat (first | assumption | (with_reducible (apply Nb.rd; assumption)) | (with_reducible (apply Rb.at_later; assumption)) | (with_reducible (apply Tabs.at_later; assumption)) | (with_reducible apply Rb.alloc) | (with_reducible apply Tabs.alloc) | (with_reducible apply Rb.drew) | (with_reducible apply Tabs.drew) | (show I64 _; unfold I64; omega) | omega))
            rintro e w2 ⟨rfl, hb⟩
            exact ⟨_, rfl, hK _ w2 (fun h => by cases h) (keep_below hb hS) rfl⟩
          · intro a w' hS hO hF' hP K hK
            obtain ⟨_, fg, rfl⟩ := (hF' 21 rfl).1 60 _ rfl rfl
            have ha := hO 3 (by rfl)
            refine if_wanted (by rfl) (yield_of (by rfl) fg) ?_
            refine wp_load_row 24 (.tmp 3) rfl w.heap.size (ev ha) _ _ (0, 0) _ hS.1 Tryz.underlying24 rfl (by kernel_rfl) ?_
            exact hK _ w' (fun h => by cases h) (keep_same hS) rfl
          · intro a w' hS hO hF' hP K hK
            obtain ⟨_, fg, rfl⟩ := (hF' 21 rfl).1 60 _ rfl rfl
            have ha := hO 4 (by rfl)
            refine if_wanted (by rfl) (yield_of (by rfl) fg) ?_
            refine wp_load_row 24 (.tmp 4) rfl (w.heap.size + 1) (ev ha) _ _ (0, 0) _ hS.2.1 Tryz.underlying24 rfl (by kernel_rfl) ?_
            exact hK _ w' (fun h => by cases h) (keep_same hS) rfl
          · intro a w' hS hO hF' hP K hK
            obtain ⟨_, fg, rfl⟩ := (hF' 21 rfl).1 60 _ rfl rfl
            obtain ⟨_, f0, rfl⟩ := (hF' 25 rfl).1 64 _ rfl rfl
            obtain ⟨_, f1, rfl⟩ := (hF' 26 rfl).1 65 _ rfl rfl
            refine if_wanted (by rfl) (yield_of (by rfl) fg) ?_
            refine wp_calls rfl (enters_of Tryz.func34 (by kernel_rfl) rfl) (args := #[(.agg #[.slice A0 n0 c0, .bool s0]), (.agg #[.slice A1 n1 c1, .bool s1])]) (by simp [Act.eval, f0, f1]) ?_
            obtain ⟨O3, O4, r0, r1, TT, BB⟩ := id hS
            apply Calls.mono
            (with_reducible apply rLeq_any); (repeat (first | assumption | (with_reducible (apply Nb.rd; assumption)) | (with_reducible (apply Rb.at_later; assumption)) | (with_reducible (apply Tabs.at_later; assumption)) | (with_reducible apply Rb.alloc) | (with_reducible apply Tabs.alloc) | (with_reducible apply Rb.drew) | (with_reducible apply Tabs.drew) | (show I64 _; unfold I64; omega) | omega))
            rintro e w2 ⟨rfl, hb⟩
            exact ⟨_, rfl, hK _ w2 (fun h => by cases h) (keep_below hb hS) rfl⟩
          · intro a w' hS hO hF' hP K hK
            obtain ⟨_, fg, rfl⟩ := (hF' 21 rfl).1 60 _ rfl rfl
            obtain ⟨_, f0, rfl⟩ := (hF' 24 rfl).1 63 _ rfl rfl
            obtain ⟨_, f1, rfl⟩ := (hF' 27 rfl).1 66 _ rfl rfl
            refine if_wanted (by rfl) (yield_of (by rfl) fg) ?_
            refine wp_val (w' := w') (q := .bool true) (by unfold execOp; simp only [(ev f0), (ev f1)]; simp [go_sem]) ?_
            exact hK _ w' (fun h => by cases h) (keep_same hS) rfl
          · intro a w' hS hO hF' hP K hK
            obtain ⟨_, f0, rfl⟩ := (hF' 21 rfl).1 60 _ rfl rfl
            obtain ⟨_, f1, rfl⟩ := (hF' 28 rfl).1 67 _ rfl rfl
            refine if_ok (by rfl) ?_
            refine wp_pick_and _ _ _ rfl (ev f0) (ev f1) ?_
            exact hK _ w' (fun h => by cases h) (keep_same hS) rfl
          · intro a w' hS hO hF' hP K hK
            obtain ⟨_, f0, rfl⟩ := (hF' 29 rfl).1 68 _ rfl rfl
            refine if_ok (by rfl) ?_
            unfold Oper.wp execOp
            simp only [Sem.run_pure, ev f0]
            exact hK _ w' (fun h => by cases h) (keep_same hS) rfl
          · intro a w' hS hO hF' hP K hK
            obtain ⟨_, fg, rfl⟩ := (hF' 30 rfl).1 69 _ rfl rfl
            have f0 := hO 7 (by rfl)
            refine if_wanted (by rfl) (yield_of (by rfl) fg) ?_
            unfold Oper.wp execOp
            simp only [Sem.run_pure, ev f0]
            exact hK _ w' (fun h => by cases h) (keep_same hS) rfl
          · intro a w' hS hO hF' hP K hK
            obtain ⟨_, fg, rfl⟩ := (hF' 30 rfl).1 69 _ rfl rfl
            have f0 := hO 9 (by rfl)
            refine if_wanted (by rfl) (yield_of (by rfl) fg) ?_
            unfold Oper.wp execOp
            simp only [Sem.run_pure, ev f0]
            exact hK _ w' (fun h => by cases h) (keep_same hS) rfl
          · intro a w' hS hO hF' hP K hK
            obtain ⟨_, fg, rfl⟩ := (hF' 30 rfl).1 69 _ rfl rfl
            obtain ⟨_, f0, rfl⟩ := (hF' 31 rfl).1 70 _ rfl rfl
            obtain ⟨_, f1, rfl⟩ := (hF' 32 rfl).1 71 _ rfl rfl
            refine if_wanted (by rfl) (yield_of (by rfl) fg) ?_
            refine wp_val (w' := w') (q := .bool true) (by unfold execOp; simp only [(ev f0), (ev f1)]; simp [go_sem]) ?_
            exact hK _ w' (fun h => by cases h) (keep_same hS) rfl
          · intro a w' hS hO hF' hP K hK
            obtain ⟨_, f0, rfl⟩ := (hF' 30 rfl).1 69 _ rfl rfl
            obtain ⟨_, f1, rfl⟩ := (hF' 33 rfl).1 72 _ rfl rfl
            refine if_ok (by rfl) ?_
            refine wp_pick_and _ _ _ rfl (ev f0) (ev f1) ?_
            exact hK _ w' (fun h => by cases h) (keep_same hS) rfl
          · intro a w' hS hO hF' hP K hK
            obtain ⟨_, f0, rfl⟩ := (hF' 34 rfl).1 73 _ rfl rfl
            refine if_ok (by rfl) ?_
            unfold Oper.wp execOp
            simp only [Sem.run_pure, ev f0]
            exact hK _ w' (fun h => by cases h) (keep_same hS) rfl
          · intro a w' hS hO hF' hP K hK
            obtain ⟨_, fg, rfl⟩ := (hF' 35 rfl).1 74 _ rfl rfl
            have f0 := hO 8 (by rfl)
            refine if_wanted (by rfl) (yield_of (by rfl) fg) ?_
            unfold Oper.wp execOp
            simp only [Sem.run_pure, ev f0]
            exact hK _ w' (fun h => by cases h) (keep_same hS) rfl
          · intro a w' hS hO hF' hP K hK
            obtain ⟨_, fg, rfl⟩ := (hF' 35 rfl).1 74 _ rfl rfl
            have f0 := hO 10 (by rfl)
            refine if_wanted (by rfl) (yield_of (by rfl) fg) ?_
            unfold Oper.wp execOp
            simp only [Sem.run_pure, ev f0]
            exact hK _ w' (fun h => by cases h) (keep_same hS) rfl
          · intro a w' hS hO hF' hP K hK
            obtain ⟨_, fg, rfl⟩ := (hF' 35 rfl).1 74 _ rfl rfl
            obtain ⟨_, f0, rfl⟩ := (hF' 36 rfl).1 75 _ rfl rfl
            obtain ⟨_, f1, rfl⟩ := (hF' 37 rfl).1 76 _ rfl rfl
            refine if_wanted (by rfl) (yield_of (by rfl) fg) ?_
            refine wp_val (w' := w') (q := .bool true) (by unfold execOp; simp only [(ev f0), (ev f1)]; simp [go_sem]) ?_
            exact hK _ w' (fun h => by cases h) (keep_same hS) rfl
          · intro a w' hS hO hF' hP K hK
            obtain ⟨_, f0, rfl⟩ := (hF' 35 rfl).1 74 _ rfl rfl
            obtain ⟨_, f1, rfl⟩ := (hF' 38 rfl).1 77 _ rfl rfl
            refine if_ok (by rfl) ?_
            refine wp_pick_and _ _ _ rfl (ev f0) (ev f1) ?_
            exact hK _ w' (fun h => by cases h) (keep_same hS) rfl
          · intro a w' hS hO hF' hP K hK
            obtain ⟨_, f0, rfl⟩ := (hF' 39 rfl).1 78 _ rfl rfl
            refine if_ok (by rfl) ?_
            unfold Oper.wp execOp
            simp only [Sem.run_pure, ev f0]
            exact hK _ w' (fun h => by cases h) (keep_same hS) rfl
          · intro a w' hS hO hF' hP K hK
            obtain ⟨_, fg, rfl⟩ := (hF' 40 rfl).1 79 _ rfl rfl
            have ha := hO 3 (by rfl)
            refine if_wanted (by rfl) (yield_of (by rfl) fg) ?_
            refine wp_load_row 24 (.tmp 3) rfl w.heap.size (ev ha) _ _ (0, 0) _ hS.1 Tryz.underlying24 rfl (by kernel_rfl) ?_
            exact hK _ w' (fun h => by cases h) (keep_same hS) rfl
          · intro a w' hS hO hF' hP K hK
            obtain ⟨_, fg, rfl⟩ := (hF' 40 rfl).1 79 _ rfl rfl
            obtain ⟨_, f0, rfl⟩ := (hF' 41 rfl).1 80 _ rfl rfl
            refine if_wanted (by rfl) (yield_of (by rfl) fg) ?_
            refine wp_calls rfl (enters_of Tryz.func35 (by kernel_rfl) rfl) (args := #[(.agg #[.slice A0 n0 c0, .bool s0])]) (by simp [Act.eval, f0]) ?_
            obtain ⟨O3, O4, r0, r1, TT, BB⟩ := id hS
            apply Calls.mono
            (with_reducible apply truth_any); (repeat (first | assumption | (with_reducible (apply Nb.rd; assumption)) | (with_reducible (apply Rb.at_later; assumption)) | (with_reducible (apply Tabs.at_later; assumption)) | (with_reducible apply Rb.alloc) | (with_reducible apply Tabs.alloc) | (with_reducible apply Rb.drew) | (with_reducible apply Tabs.drew) | (show I64 _; unfold I64; omega) | omega))
            rintro e w2 ⟨rfl, hb⟩
            exact ⟨_, rfl, hK _ w2 (fun h => by cases h) (keep_below hb hS) rfl⟩
          · intro a w' hS hO hF' hP K hK
            obtain ⟨_, fg, rfl⟩ := (hF' 40 rfl).1 79 _ rfl rfl
            have ha := hO 3 (by rfl)
            refine if_wanted (by rfl) (yield_of (by rfl) fg) ?_
            refine wp_load_row 24 (.tmp 3) rfl w.heap.size (ev ha) _ _ (0, 0) _ hS.1 Tryz.underlying24 rfl (by kernel_rfl) ?_
            exact hK _ w' (fun h => by cases h) (keep_same hS) rfl
          · intro a w' hS hO hF' hP K hK
            obtain ⟨_, fg, rfl⟩ := (hF' 40 rfl).1 79 _ rfl rfl
            obtain ⟨_, f0, rfl⟩ := (hF' 43 rfl).1 82 _ rfl rfl
            refine if_wanted (by rfl) (yield_of (by rfl) fg) ?_
            refine wp_calls rfl (enters_of Tryz.func36 (by kernel_rfl) rfl) (args := #[(.agg #[.slice A0 n0 c0, .bool s0])]) (by simp [Act.eval, f0]) ?_
            obtain ⟨O3, O4, r0, r1, TT, BB⟩ := id hS
            apply Calls.mono
            (with_reducible apply rTruth_any); (repeat (first | assumption | (with_reducible (apply Nb.rd; assumption)) | (with_reducible (apply Rb.at_later; assumption)) | (with_reducible (apply Tabs.at_later; assumption)) | (with_reducible apply Rb.alloc) | (with_reducible apply Tabs.alloc) | (with_reducible apply Rb.drew) | (with_reducible apply Tabs.drew) | (show I64 _; unfold I64; omega) | omega))
            rintro e w2 ⟨rfl, hb⟩
            exact ⟨_, rfl, hK _ w2 (fun h => by cases h) (keep_below hb hS) rfl⟩
          · intro a w' hS hO hF' hP K hK
            obtain ⟨_, fg, rfl⟩ := (hF' 40 rfl).1 79 _ rfl rfl
            obtain ⟨_, f0, rfl⟩ := (hF' 42 rfl).1 81 _ rfl rfl
            obtain ⟨_, f1, rfl⟩ := (hF' 44 rfl).1 83 _ rfl rfl
            refine if_wanted (by rfl) (yield_of (by rfl) fg) ?_
            refine wp_val (w' := w') (q := .bool true) (by unfold execOp; simp only [(ev f0), (ev f1)]; simp [go_sem]) ?_
            exact hK _ w' (fun h => by cases h) (keep_same hS) rfl
          · intro a w' hS hO hF' hP K hK
            obtain ⟨_, f0, rfl⟩ := (hF' 40 rfl).1 79 _ rfl rfl
            obtain ⟨_, f1, rfl⟩ := (hF' 45 rfl).1 84 _ rfl rfl
            refine if_ok (by rfl) ?_
            refine wp_pick_and _ _ _ rfl (ev f0) (ev f1) ?_
            exact hK _ w' (fun h => by cases h) (keep_same hS) rfl
          · intro a w' hS hO hF' hP K hK
            obtain ⟨_, f0, rfl⟩ := (hF' 46 rfl).1 85 _ rfl rfl
            refine if_ok (by rfl) ?_
            unfold Oper.wp execOp
            simp only [Sem.run_pure, ev f0]
            exact hK _ w' (fun h => by cases h) (keep_same hS) rfl
          · intro a w' hS hO hF' hP K hK
            obtain ⟨_, fg, rfl⟩ := (hF' 47 rfl).1 86 _ rfl rfl
            have ha := hO 3 (by rfl)
            refine if_wanted (by rfl) (yield_of (by rfl) fg) ?_
            refine wp_load_row 24 (.tmp 3) rfl w.heap.size (ev ha) _ _ (0, 0) _ hS.1 Tryz.underlying24 rfl (by kernel_rfl) ?_
            exact hK _ w' (fun h => by cases h) (keep_same hS) rfl
          · intro a w' hS hO hF' hP K hK
            obtain ⟨_, fg, rfl⟩ := (hF' 47 rfl).1 86 _ rfl rfl
            have f0 := hO 2 (by rfl)
            refine if_wanted (by rfl) (yield_of (by rfl) fg) ?_
            unfold Oper.wp execOp
            simp only [Sem.run_pure, ev f0]
            exact hK _ w' (fun h => by cases h) (keep_same hS) rfl
          · intro a w' hS hO hF' hP K hK
            obtain ⟨_, fg, rfl⟩ := (hF' 47 rfl).1 86 _ rfl rfl
            obtain ⟨_, f0, rfl⟩ := (hF' 48 rfl).1 87 _ rfl rfl
            obtain ⟨_, f1, rfl⟩ := (hF' 49 rfl).1 88 _ rfl rfl
            refine if_wanted (by rfl) (yield_of (by rfl) fg) ?_
            refine wp_calls rfl (enters_of Tryz.func26 (by kernel_rfl) rfl) (args := #[(.agg #[.slice A0 n0 c0, .bool s0]), (.bool a2)]) (by simp [Act.eval, f0, f1]) ?_
            obtain ⟨O3, O4, r0, r1, TT, BB⟩ := id hS
            apply Calls.mono
            (with_reducible apply withSign_any_w); (repeat (first | assumption | (with_reducible (apply Nb.rd; assumption)) | (with_reducible (apply Rb.at_later; assumption)) | (with_reducible (apply Tabs.at_later; assumption)) | (with_reducible apply Rb.alloc) | (with_reducible apply Tabs.alloc) | (with_reducible apply Rb.drew) | (with_reducible apply Tabs.drew) | (show I64 _; unfold I64; omega) | omega))
            rintro e w2 ⟨A, n, c, rfl, hc, hn, hv, hb⟩
            exact ⟨_, rfl, hK _ w2 (fun h => by cases h) (keep_below hb hS) ⟨A, n, c, rfl, hc, hn, hv.rd⟩⟩
          · intro a w' hS hO hF' hP K hK
            obtain ⟨_, fg, rfl⟩ := (hF' 47 rfl).1 86 _ rfl rfl
            have ha := hO 3 (by rfl)
            refine if_wanted (by rfl) (yield_of (by rfl) fg) ?_
            refine wp_load_row 24 (.tmp 3) rfl w.heap.size (ev ha) _ _ (0, 0) _ hS.1 Tryz.underlying24 rfl (by kernel_rfl) ?_
            exact hK _ w' (fun h => by cases h) (keep_same hS) rfl
          · intro a w' hS hO hF' hP K hK
            obtain ⟨_, fg, rfl⟩ := (hF' 47 rfl).1 86 _ rfl rfl
            have f0 := hO 2 (by rfl)
            refine if_wanted (by rfl) (yield_of (by rfl) fg) ?_
            unfold Oper.wp execOp
            simp only [Sem.run_pure, ev f0]
            exact hK _ w' (fun h => by cases h) (keep_same hS) rfl
          · intro a w' hS hO hF' hP K hK
            obtain ⟨_, fg, rfl⟩ := (hF' 47 rfl).1 86 _ rfl rfl
            obtain ⟨_, f0, rfl⟩ := (hF' 51 rfl).1 90 _ rfl rfl
            obtain ⟨_, f1, rfl⟩ := (hF' 52 rfl).1 91 _ rfl rfl
            refine if_wanted (by rfl) (yield_of (by rfl) fg) ?_
            refine wp_calls rfl (enters_of Tryz.func27 (by kernel_rfl) rfl) (args := #[(.agg #[.slice A0 n0 c0, .bool s0]), (.bool a2)]) (by simp [Act.eval, f0, f1]) ?_
            obtain ⟨O3, O4, r0, r1, TT, BB⟩ := id hS
            apply Calls.mono
            (with_reducible apply rWithSign_any_w); (repeat (first | assumption | (with_reducible (apply Nb.rd; assumption)) | (with_reducible (apply Rb.at_later; assumption)) | (with_reducible (apply Tabs.at_later; assumption)) | (with_reducible apply Rb.alloc) | (with_reducible apply Tabs.alloc) | (with_reducible apply Rb.drew) | (with_reducible apply Tabs.drew) | (show I64 _; unfold I64; omega) | omega))
            rintro e w2 ⟨A, n, c, rfl, hc, hn, hv, hb⟩
            exact ⟨_, rfl, hK _ w2 (fun h => by cases h) (keep_below hb hS) ⟨A, n, c, rfl, hc, hn, hv.rd⟩⟩
          · intro a w' hS hO hF' hP K hK
            obtain ⟨_, fg, rfl⟩ := (hF' 47 rfl).1 86 _ rfl rfl
            obtain ⟨_, f0, A0, n0, c0, rfl, hc0, hn0, hr0⟩ := (hF' 50 rfl).1 89 _ rfl rfl
            obtain ⟨_, f1, A1, n1, c1, rfl, hc1, hn1, hr1⟩ := (hF' 53 rfl).1 92 _ rfl rfl
            refine if_wanted (by rfl) (yield_of (by rfl) fg) ?_
            refine wp_calls rfl (enters_of Tryz.func16 (by kernel_rfl) rfl) (args := #[(.agg #[.slice A0 n0 c0, .bool (⟨(nrm (⟨l0, s0⟩ : V)).l, a2⟩ : V).s]), (.agg #[.slice A1 n1 c1, .bool (⟨(nrm (⟨l0, s0⟩ : V)).l, a2⟩ : V).s])]) (by simp [Act.eval, f0, f1]) ?_
            obtain ⟨O3, O4, r0, r1, TT, BB⟩ := id hS
            apply Calls.mono
            (with_reducible apply same_t); (repeat (first | assumption | (with_reducible (apply Nb.rd; assumption)) | (with_reducible (apply Rb.at_later; assumption)) | (with_reducible (apply Tabs.at_later; assumption)) | (with_reducible apply Rb.alloc) | (with_reducible apply Tabs.alloc) | (with_reducible apply Rb.drew) | (with_reducible apply Tabs.drew) | (show I64 _; unfold I64; omega) | omega)); (first | exact sameV_self _ | (decide +kernel))
            rintro e w2 ⟨rfl, hb⟩
            exact ⟨_, rfl, hK _ w2 (fun h => by cases h) (keep_below hb hS) rfl⟩
          · intro a w' hS hO hF' hP K hK
            obtain ⟨_, f0, rfl⟩ := (hF' 47 rfl).1 86 _ rfl rfl
            obtain ⟨_, f1, rfl⟩ := (hF' 54 rfl).1 93 _ rfl rfl
            refine if_ok (by rfl) ?_
            refine wp_pick_and _ _ _ rfl (ev f0) (ev f1) ?_
            exact hK _ w' (fun h => by cases h) (keep_same hS) rfl
          · intro a w' hS hO hF' hP K hK
            obtain ⟨_, f0, rfl⟩ := (hF' 55 rfl).1 94 _ rfl rfl
            refine if_ok (by rfl) ?_
            unfold Oper.wp execOp
            simp only [Sem.run_pure, ev f0]
            exact hK _ w' (fun h => by cases h) (keep_same hS) rfl
          · intro a w' hS hO hF' hP K hK
            obtain ⟨_, fg, rfl⟩ := (hF' 56 rfl).1 95 _ rfl rfl
            refine if_wanted (by rfl) (yield_of (by rfl) fg) ?_
            refine wp_calls rfl (enters_of Tryz.func13 (by kernel_rfl) rfl) (args := #[]) (by simp) ?_
            obtain ⟨O3, O4, r0, r1, TT, BB⟩ := id hS
            apply Calls.mono
            (with_reducible apply awake_any); assumption
            rintro e w2 ⟨rfl, hb⟩
            exact ⟨_, rfl, hK _ w2 (fun h => by cases h) (keep_below hb hS) rfl⟩
          · intro a w' hS hO hF' hP K hK
            obtain ⟨_, f0, rfl⟩ := (hF' 56 rfl).1 95 _ rfl rfl
            obtain ⟨_, f1, rfl⟩ := (hF' 57 rfl).1 96 _ rfl rfl
            refine if_ok (by rfl) ?_
            refine wp_pick_and _ _ _ rfl (ev f0) (ev f1) ?_
            exact hK _ w' (fun h => by cases h) (keep_same hS) rfl
          · intro a w' hS hO hF' hP K hK
            obtain ⟨_, f0, rfl⟩ := (hF' 58 rfl).1 97 _ rfl rfl
            refine if_ok (by rfl) ?_
            unfold Oper.wp execOp
            simp only [Sem.run_pure, ev f0]
            exact hK _ w' (fun h => by cases h) (keep_same hS) rfl
        · intro a u hd hz hS hV
          obtain ⟨O3, O4, r0, r1, TT, BB⟩ := hS
          obtain ⟨v0, f0, hv0⟩ := hV 59 6 _ rfl rfl
          obtain rfl : v0 = .bool true := hv0
          clear hV
          go_wp2
          refine bodyPost_ret (results_tmp rfl _ _ _) (hd.trans rfl) ?_
          exact ⟨by rw [Array.getD_eq_getD_getElem?, f0]; rfl, BB⟩
  · have HL := Lib.hid (long2_b _ A0 A1 n0 c0 n1 c1 s0 s1 hl)
    clear hl
    have q30 := O3.cell 0
    have q31 := O3.cell 1
    have q40 := O4.cell 0
    have q41 := O4.cell 1
    go_enter Tryz.func4, Tryz.ntmps4
    go_wp2_with (first | (go_at_call 12; refine (HL.out _ _ (by simp)).mono ?_; rintro e wn ⟨rfl, rfl⟩; replace O3 := O3.alloc (.cells #[.slice A0 n0 c0, .bool s0, .slice A1 n1 c1, .bool s1] 24); replace O4 := O4.alloc (.cells #[.slice A0 n0 c0, .bool s0, .slice A1 n1 c1, .bool s1] 24); replace r0 := r0.alloc (.cells #[.slice A0 n0 c0, .bool s0, .slice A1 n1 c1, .bool s1] 24); replace r1 := r1.alloc (.cells #[.slice A0 n0 c0, .bool s0, .slice A1 n1 c1, .bool s1] 24); replace TT := TT.alloc (.cells #[.slice A0 n0 c0, .bool s0, .slice A1 n1 c1, .bool s1] 24); replace BB := Lib.hid (below_new BB.out (.cells #[.slice A0 n0 c0, .bool s0, .slice A1 n1 c1, .bool s1] 24))) | (go_at_call 13; refine (awake_any _ TT).mono ?_; rintro e wn ⟨rfl, hb⟩; replace BB := Lib.hid (below_step BB.out hb)))
    go_ret
    exact ⟨rfl, BB.out⟩
end Go.Proofs.YtognpmggfplekaaGreatDoor
