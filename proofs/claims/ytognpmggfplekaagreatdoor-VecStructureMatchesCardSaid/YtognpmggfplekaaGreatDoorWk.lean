/-
  The walk of VecStructureMatches: it returns true. Conditions: the tables of package bit read as the program lays them.
-/
import Derived.Test.YtognpmggfplekaaGreatDoorW7
import Derived.Test.YtognpmggfplekaaGreatDoorWf
import Derived.Test.YtognpmggfplekaaGreatDoorWj
namespace Go.Proofs.YtognpmggfplekaaGreatDoor
open Go Go.RowKit

set_option maxRecDepth 100000 in
theorem parts8 (A0 A1 A2 A13 A14 A15 : Option Addr) (n0 c0 n1 c1 n2 c2 n13 c13 n14 c14 n15 c15 : Nat) (s0 s1 s2 : Bool) (l0 l1 l2 : List Int) (a3 a4 a5 : Int) (b3 : I64 a3) (b4 : I64 a4) (b5 : I64 a5) (hn0 : n0 ≤ 140) (hn1 : n1 ≤ 140) (hn2 : n2 ≤ 140) :
    ∃ (x0 x1 x2 x3 x4 x5 x6 x7 : V) (e0 e1 e2 e3 e4 e5 e6 e7 : Int),
    (∀ (u : World), Calls Tryz.prog 37 #[.int .i64 a5, .int .i64 a3, .bool s1] u (RetX u x0 e0)) ∧ (∀ (u : World), Calls Tryz.prog 38 #[.int .i64 a5, .int .i64 a3, .bool s1] u (RetX u x0 e0)) ∧ (∀ (u : World), Calls Tryz.prog 39 #[.int .i64 a3, .bool s0] u (RetX u x1 e1)) ∧ (∀ (u : World), Calls Tryz.prog 40 #[.int .i64 a3, .bool s0] u (RetX u x1 e1)) ∧ (∀ (u : World), Rb u A13 n13 l0 → Calls Tryz.prog 41 #[.agg #[.slice A13 n13 c13, .bool s0], .int .i64 a3] u (RetX u x2 e2)) ∧ (∀ (u : World), Rb u A0 n0 l0 → Calls Tryz.prog 42 #[.agg #[.slice A0 n0 c0, .bool s0], .int .i64 a3] u (RetX u x2 e2)) ∧ (∀ (u : World) (H : Nat), u.heap.size = H → Rb u A13 n13 l0 → Rb u A14 n14 l1 → Rb u A15 n15 l2 → Calls Tryz.prog 43 #[.slice (some ⟨H, 0, none⟩) 3 3] (u.alloc (.cells #[.slice A13 n13 c13, .bool s0, .slice A14 n14 c14, .bool s1, .slice A15 n15 c15, .bool s2] 24)) (RetX (u.alloc (.cells #[.slice A13 n13 c13, .bool s0, .slice A14 n14 c14, .bool s1, .slice A15 n15 c15, .bool s2] 24)) x3 e3)) ∧ (∀ (u : World) (H : Nat), u.heap.size = H → Rb u A0 n0 l0 → Rb u A1 n1 l1 → Rb u A2 n2 l2 → Calls Tryz.prog 44 #[.slice (some ⟨H, 0, none⟩) 3 3] (u.alloc (.cells #[.slice A0 n0 c0, .bool s0, .slice A1 n1 c1, .bool s1, .slice A2 n2 c2, .bool s2] 24)) (RetX (u.alloc (.cells #[.slice A0 n0 c0, .bool s0, .slice A1 n1 c1, .bool s1, .slice A2 n2 c2, .bool s2] 24)) x3 e3)) ∧ (∀ (u : World), Rb u A13 n13 l0 → Calls Tryz.prog 45 #[.agg #[.slice A13 n13 c13, .bool s0], .int .i64 a3] u (RetX u x4 e4)) ∧ (∀ (u : World), Rb u A0 n0 l0 → Calls Tryz.prog 46 #[.agg #[.slice A0 n0 c0, .bool s0], .int .i64 a3] u (RetX u x4 e4)) ∧ (∀ (u : World), Rb u A13 n13 l0 → Calls Tryz.prog 47 #[.agg #[.slice A13 n13 c13, .bool s0], .int .i64 a3, .int .i64 a4] u (RetX u x5 e5)) ∧ (∀ (u : World), Rb u A0 n0 l0 → Calls Tryz.prog 48 #[.agg #[.slice A0 n0 c0, .bool s0], .int .i64 a3, .int .i64 a4] u (RetX u x5 e5)) ∧ (∀ (u : World), Rb u A13 n13 l0 → Rb u A14 n14 l1 → Calls Tryz.prog 49 #[.agg #[.slice A13 n13 c13, .bool s0], .int .i64 a3, .int .i64 a4, .agg #[.slice A14 n14 c14, .bool s1]] u (RetX u x6 e6)) ∧ (∀ (u : World), Rb u A0 n0 l0 → Rb u A1 n1 l1 → Calls Tryz.prog 50 #[.agg #[.slice A0 n0 c0, .bool s0], .int .i64 a3, .int .i64 a4, .agg #[.slice A1 n1 c1, .bool s1]] u (RetX u x6 e6)) ∧ (∀ (u : World) (H : Nat), u.heap.size = H → Rb u A14 n14 l1 → Calls Tryz.prog 43 #[.slice (some ⟨H, 0, none⟩) 1 1] (u.alloc (.cells #[.slice A14 n14 c14, .bool s1] 24)) (RetX (u.alloc (.cells #[.slice A14 n14 c14, .bool s1] 24)) x7 e7)) ∧ (∀ (u : World) (H : Nat), u.heap.size = H → Rb u A1 n1 l1 → Calls Tryz.prog 44 #[.slice (some ⟨H, 0, none⟩) 1 1] (u.alloc (.cells #[.slice A1 n1 c1, .bool s1] 24)) (RetX (u.alloc (.cells #[.slice A1 n1 c1, .bool s1] 24)) x7 e7)) := by
  refine ⟨(fromV a5 a3 s1), (unkV a3 s0), (resV (⟨l0, s0⟩ : V) a3), (coV 3 (two3 (⟨l0, s0⟩ : V) (⟨l1, s1⟩ : V) (⟨l2, s2⟩ : V))), (reV (⟨l0, s0⟩ : V) a3), (slV (⟨l0, s0⟩ : V) a3 a4), (putV (⟨l0, s0⟩ : V) a3 a4 (⟨l1, s1⟩ : V)), (coV 1 fun _ => (⟨l1, s1⟩ : V)), (vwE a3), (vwE a3), (vwE a3), (coE 3 (two3 (⟨l0, s0⟩ : V) (⟨l1, s1⟩ : V) (⟨l2, s2⟩ : V))), (reE (⟨l0, s0⟩ : V) a3), (spE a3 a4), (spE a3 a4), (coE 1 fun _ => (⟨l1, s1⟩ : V)), ?_, ?_, ?_, ?_, ?_, ?_, ?_, ?_, ?_, ?_, ?_, ?_, ?_, ?_, ?_, ?_⟩
  · exact fun u => fromInt_v_w a5 a3 s1 u b5
  · exact fun u => rFromInt_v_w a5 a3 s1 u
  · exact fun u => unknown_v_w a3 s0 u
  · exact fun u => rUnknown_any_w a3 s0 u
  · exact fun u h => resize_v_w A13 n13 c13 s0 l0 a3 u h
  · exact fun u h => rResize_v_w A0 n0 c0 s0 l0 a3 u h (by omega)
  · exact fun u H hH h0 h1 h2 => by subst hH; exact conc3 A13 A14 A15 n13 c13 n14 c14 n15 c15 s0 s1 s2 l0 l1 l2 u h0 h1 h2
  · exact fun u H hH h0 h1 h2 => by subst hH; exact rconc3 A0 A1 A2 n0 c0 n1 c1 n2 c2 s0 s1 s2 l0 l1 l2 u h0 h1 h2 (by omega) (by omega) (by omega)
  · exact fun u h => repeat_v_w A13 n13 c13 s0 l0 a3 u h
  · exact fun u h => rRepeat_v_w A0 n0 c0 s0 l0 a3 u h (by omega)
  · exact fun u h => slice_v_w A13 n13 c13 s0 l0 a3 a4 u h b3 b4
  · exact fun u h => rSlice_v_w A0 n0 c0 s0 l0 a3 a4 u h (by omega) b3 b4
  · exact fun u h h' => put_v_w A13 A14 n13 n14 c13 c14 s0 s1 l0 l1 a3 a4 u h h' b3 b4
  · exact fun u h h' => rPut_v_w A0 A1 n0 n1 c0 c1 s0 s1 l0 l1 a3 a4 u h h' (by omega) (by omega) b3 b4
  · exact fun u H hH h0 => by subst hH; exact conc1 A14 n14 c14 s1 l1 u h0
  · exact fun u H hH h0 => by subst hH; exact rconc1 A1 n1 c1 s1 l1 u h0 (by omega)

set_option maxRecDepth 100000 in
set_option maxHeartbeats 16000000 in
theorem walk_VecStructureMatches (A0 : Option Addr) (n0 c0 : Nat) (s0 : Bool) (l0 : List Int) (A1 : Option Addr) (n1 c1 : Nat) (s1 : Bool) (l1 : List Int) (A2 : Option Addr) (n2 c2 : Nat) (s2 : Bool) (l2 : List Int) (a3 : Int) (a4 : Int) (a5 : Int) (w : World) (h0 : Rb w A0 n0 l0) (_hc0 : n0 ≤ c0) (h1 : Rb w A1 n1 l1) (_hc1 : n1 ≤ c1) (h2 : Rb w A2 n2 l2) (_hc2 : n2 ≤ c2) (b3 : I64 a3) (b4 : I64 a4) (b5 : I64 a5) (TT : Tabs w) : Calls Tryz.prog 5 #[.agg #[.slice A0 n0 c0, .bool s0], .agg #[.slice A1 n1 c1, .bool s1], .agg #[.slice A2 n2 c2, .bool s2], .int .i64 a3, .int .i64 a4, .int .i64 a5] w fun e w' => e = .returned (.bool true) ∧ Below w.heap.size w w' := by
  have O0 := (((Own.at1 w 24 #[.slice A0 n0 c0, .bool s0] (g := w.heap.size) (by simp)).alloc (.cells #[.slice A1 n1 c1, .bool s1] 24)).alloc (.cells #[.slice A2 n2 c2, .bool s2] 24))
  have O1 := ((Own.at1 (w.alloc (.cells #[.slice A0 n0 c0, .bool s0] 24)) 24 #[.slice A1 n1 c1, .bool s1] (g := w.heap.size + 1) (by simp)).alloc (.cells #[.slice A2 n2 c2, .bool s2] 24))
  have O2 := (Own.at1 ((w.alloc (.cells #[.slice A0 n0 c0, .bool s0] 24)).alloc (.cells #[.slice A1 n1 c1, .bool s1] 24)) 24 #[.slice A2 n2 c2, .bool s2] (g := w.heap.size + 1 + 1) (by simp))
  have BB := (below_new (below_new (below_new (Below.refl w.heap.size w) (.cells #[.slice A0 n0 c0, .bool s0] 24)) (.cells #[.slice A1 n1 c1, .bool s1] 24)) (.cells #[.slice A2 n2 c2, .bool s2] 24))
  have X6 := O0
  have X7 := O1
  have X8 := O2
  clear O0
  clear O1
  clear O2
  have O6 := X6
  clear X6
  have O7 := X7
  clear X7
  have O8 := X8
  clear X8
  replace TT := TT.step BB
  have r0 := h0.step BB
  have r1 := h1.step BB
  have r2 := h2.step BB
  clear h0 h1 h2
  replace BB := Lib.hid BB
  cases hl : lngB [n0, n1, n2]
  · skip
    have hn := lng_no hl
    have hn0 : n0 ≤ 140 := hn n0 (by simp)
    have hn1 : n1 ≤ 140 := hn n1 (by simp)
    have hn2 : n2 ≤ 140 := hn n2 (by simp)
    have HL := Lib.hid (long3_b _ A0 A1 A2 n0 c0 n1 c1 n2 c2 s0 s1 s2 hl)
    clear hl hn
    have q60 := O6.cell 0
    have q61 := O6.cell 1
    have q70 := O7.cell 0
    have q71 := O7.cell 1
    have q80 := O8.cell 0
    have q81 := O8.cell 1
    have hBase : w.heap.size + 1 + 1 + 1 ≥ w.heap.size := by omega
    go_enter Tryz.func5, Tryz.ntmps5
    go_wp2_with (first | (go_at_call 12; refine (HL.out _ _ (by simp)).mono ?_; rintro e wn ⟨rfl, rfl⟩; replace O6 := O6.alloc (.cells #[.slice A0 n0 c0, .bool s0, .slice A1 n1 c1, .bool s1, .slice A2 n2 c2, .bool s2] 24); replace O7 := O7.alloc (.cells #[.slice A0 n0 c0, .bool s0, .slice A1 n1 c1, .bool s1, .slice A2 n2 c2, .bool s2] 24); replace O8 := O8.alloc (.cells #[.slice A0 n0 c0, .bool s0, .slice A1 n1 c1, .bool s1, .slice A2 n2 c2, .bool s2] 24); replace r0 := r0.alloc (.cells #[.slice A0 n0 c0, .bool s0, .slice A1 n1 c1, .bool s1, .slice A2 n2 c2, .bool s2] 24); replace r1 := r1.alloc (.cells #[.slice A0 n0 c0, .bool s0, .slice A1 n1 c1, .bool s1, .slice A2 n2 c2, .bool s2] 24); replace r2 := r2.alloc (.cells #[.slice A0 n0 c0, .bool s0, .slice A1 n1 c1, .bool s1, .slice A2 n2 c2, .bool s2] 24); replace TT := TT.alloc (.cells #[.slice A0 n0 c0, .bool s0, .slice A1 n1 c1, .bool s1, .slice A2 n2 c2, .bool s2] 24); replace BB := Lib.hid (below_new BB.out (.cells #[.slice A0 n0 c0, .bool s0, .slice A1 n1 c1, .bool s1, .slice A2 n2 c2, .bool s2] 24))))
    refine region_l (by kernel_rfl) (fun u => owns w.heap.size #[.slice A0 n0 c0, .bool s0] u ∧ (owns (w.heap.size + 1) #[.slice A1 n1 c1, .bool s1] u ∧ (owns (w.heap.size + 1 + 1) #[.slice A2 n2 c2, .bool s2] u ∧ (rds A0 n0 l0 u ∧ (rds A1 n1 l1 u ∧ (rds A2 n2 l2 u ∧ (szW (w.heap.size + 1 + 1 + 1) u ∧ (tbs u ∧ blw w u)))))))) [un (isV (.agg #[.slice A0 n0 c0, .bool s0])), un (isW (⟨l0, s0⟩ : V)), un (isV (.agg #[.slice A1 n1 c1, .bool s1])), un (isW (⟨l1, s1⟩ : V)), un (isV (.agg #[.slice A2 n2 c2, .bool s2])), un (isW (⟨l2, s2⟩ : V)), un (isFr (w.heap.size + 1 + 1 + 1)), un (isFr (w.heap.size + 1 + 1 + 1)), un (isFr (w.heap.size + 1 + 1 + 1)), filled (w.heap.size + 1 + 1 + 1) (⟨l0, s0⟩ : V), filled (w.heap.size + 1 + 1 + 1) (⟨l1, s1⟩ : V), filled (w.heap.size + 1 + 1 + 1) (⟨l2, s2⟩ : V)] [some 28, some 29, some 30, some 31, some 32, some 33, some 13, some 14, some 15, none, none, none] [0, 1, 2, 3, 4, 5, 6, 7, 8, 6, 7, 8] [6, 7, 8] [[], [0], [], [2, 1], [], [4, 3], [], [], [], [6, 1, 5, 0, 1, 6, 7, 8], [7, 3, 9, 0, 1, 2, 3, 6, 7, 8, 9], [8, 5, 10, 0, 1, 2, 3, 4, 5, 6, 7, 8, 9, 10]] (by kernel_rfl) (by kernel_rfl) rfl (by kernel_rfl) (by kernel_rfl) (by kernel_rfl) (by kernel_rfl) ⟨O6.drew, O7.drew, O8.drew, r0.drew, r1.drew, r2.drew, (by simp [szW, World.drew]), TT.drew, below_drew BB.out⟩ ?_ ?_
    · refine ⟨?_, ?_, ?_, ?_, ?_, ?_, ?_, ?_, ?_, ?_, ?_, ?_, trivial⟩
      · intro a w' hS hO hF hD K hK
        have ha := hO 6 (by rfl)
        refine if_ok (by rfl) ?_
        refine wp_load_row 24 (.tmp 6) rfl w.heap.size (ev ha) _ _ (0, 0) _ hS.1 Tryz.underlying24 rfl (by kernel_rfl) ?_
        exact hK _ w' (fun h => by cases h) (Nat.le_refl _) (fun h => absurd h (by decide)) hS (fun _ _ _ _ h => h) (fun V hV => by obtain rfl := Option.some.inj hV; exact rfl)
      · intro a w' hS hO hF hD K hK
        have j0 := hF 0 rfl
        have f0 := j0.2 28 rfl
        rw [show valD _ _ 0 = _ from j0.1 _ rfl] at f0
        refine if_ok (by rfl) ?_
        refine wp_calls rfl (enters_of Tryz.func14 (by kernel_rfl) rfl) (args := #[(.agg #[.slice A0 n0 c0, .bool s0])]) (by simp [Act.eval, f0]) ?_
        obtain ⟨O6, O7, O8, r0, r1, r2, BZ, TT, BB⟩ := id hS
        apply Calls.mono
        (with_reducible apply own_w); (repeat (first | assumption | (with_reducible (apply Nb.rd; assumption)) | (with_reducible (apply Rb.at_later; assumption)) | (with_reducible (apply Tabs.at_later; assumption)) | (with_reducible apply Rb.alloc) | (with_reducible apply Tabs.alloc) | (with_reducible apply Rb.drew) | (with_reducible apply Tabs.drew) | (show I64 _; unfold I64; omega) | omega))
        rintro e w2 ⟨A, n, c, rfl, hc, hn, hv, hb⟩
        exact ⟨_, rfl, hK _ w2 (fun h => by cases h) hb.size (fun h => absurd h (by decide)) ((show Stb (fun u => owns w.heap.size #[.slice A0 n0 c0, .bool s0] u ∧ (owns (w.heap.size + 1) #[.slice A1 n1 c1, .bool s1] u ∧ (owns (w.heap.size + 1 + 1) #[.slice A2 n2 c2, .bool s2] u ∧ (rds A0 n0 l0 u ∧ (rds A1 n1 l1 u ∧ (rds A2 n2 l2 u ∧ (szW (w.heap.size + 1 + 1 + 1) u ∧ (tbs u ∧ blw w u)))))))) from inferInstance).st _ _ hb hS) (keepL_below hb) (fun V hV => by obtain rfl := Option.some.inj hV; exact ⟨A, n, c, rfl, hc, hn, hv.rd⟩)⟩
      · intro a w' hS hO hF hD K hK
        have ha := hO 7 (by rfl)
        refine if_ok (by rfl) ?_
        refine wp_load_row 24 (.tmp 7) rfl (w.heap.size + 1) (ev ha) _ _ (0, 0) _ hS.2.1 Tryz.underlying24 rfl (by kernel_rfl) ?_
        exact hK _ w' (fun h => by cases h) (Nat.le_refl _) (fun h => absurd h (by decide)) hS (fun _ _ _ _ h => h) (fun V hV => by obtain rfl := Option.some.inj hV; exact rfl)
      · intro a w' hS hO hF hD K hK
        have j0 := hF 2 rfl
        have f0 := j0.2 30 rfl
        rw [show valD _ _ 2 = _ from j0.1 _ rfl] at f0
        refine if_ok (by rfl) ?_
        refine wp_calls rfl (enters_of Tryz.func14 (by kernel_rfl) rfl) (args := #[(.agg #[.slice A1 n1 c1, .bool s1])]) (by simp [Act.eval, f0]) ?_
        obtain ⟨O6, O7, O8, r0, r1, r2, BZ, TT, BB⟩ := id hS
        apply Calls.mono
        (with_reducible apply own_w); (repeat (first | assumption | (with_reducible (apply Nb.rd; assumption)) | (with_reducible (apply Rb.at_later; assumption)) | (with_reducible (apply Tabs.at_later; assumption)) | (with_reducible apply Rb.alloc) | (with_reducible apply Tabs.alloc) | (with_reducible apply Rb.drew) | (with_reducible apply Tabs.drew) | (show I64 _; unfold I64; omega) | omega))
        rintro e w2 ⟨A, n, c, rfl, hc, hn, hv, hb⟩
        exact ⟨_, rfl, hK _ w2 (fun h => by cases h) hb.size (fun h => absurd h (by decide)) ((show Stb (fun u => owns w.heap.size #[.slice A0 n0 c0, .bool s0] u ∧ (owns (w.heap.size + 1) #[.slice A1 n1 c1, .bool s1] u ∧ (owns (w.heap.size + 1 + 1) #[.slice A2 n2 c2, .bool s2] u ∧ (rds A0 n0 l0 u ∧ (rds A1 n1 l1 u ∧ (rds A2 n2 l2 u ∧ (szW (w.heap.size + 1 + 1 + 1) u ∧ (tbs u ∧ blw w u)))))))) from inferInstance).st _ _ hb hS) (keepL_below hb) (fun V hV => by obtain rfl := Option.some.inj hV; exact ⟨A, n, c, rfl, hc, hn, hv.rd⟩)⟩
      · intro a w' hS hO hF hD K hK
        have ha := hO 8 (by rfl)
        refine if_ok (by rfl) ?_
        refine wp_load_row 24 (.tmp 8) rfl (w.heap.size + 1 + 1) (ev ha) _ _ (0, 0) _ hS.2.2.1 Tryz.underlying24 rfl (by kernel_rfl) ?_
        exact hK _ w' (fun h => by cases h) (Nat.le_refl _) (fun h => absurd h (by decide)) hS (fun _ _ _ _ h => h) (fun V hV => by obtain rfl := Option.some.inj hV; exact rfl)
      · intro a w' hS hO hF hD K hK
        have j0 := hF 4 rfl
        have f0 := j0.2 32 rfl
        rw [show valD _ _ 4 = _ from j0.1 _ rfl] at f0
        refine if_ok (by rfl) ?_
        refine wp_calls rfl (enters_of Tryz.func14 (by kernel_rfl) rfl) (args := #[(.agg #[.slice A2 n2 c2, .bool s2])]) (by simp [Act.eval, f0]) ?_
        obtain ⟨O6, O7, O8, r0, r1, r2, BZ, TT, BB⟩ := id hS
        apply Calls.mono
        (with_reducible apply own_w); (repeat (first | assumption | (with_reducible (apply Nb.rd; assumption)) | (with_reducible (apply Rb.at_later; assumption)) | (with_reducible (apply Tabs.at_later; assumption)) | (with_reducible apply Rb.alloc) | (with_reducible apply Tabs.alloc) | (with_reducible apply Rb.drew) | (with_reducible apply Tabs.drew) | (show I64 _; unfold I64; omega) | omega))
        rintro e w2 ⟨A, n, c, rfl, hc, hn, hv, hb⟩
        exact ⟨_, rfl, hK _ w2 (fun h => by cases h) hb.size (fun h => absurd h (by decide)) ((show Stb (fun u => owns w.heap.size #[.slice A0 n0 c0, .bool s0] u ∧ (owns (w.heap.size + 1) #[.slice A1 n1 c1, .bool s1] u ∧ (owns (w.heap.size + 1 + 1) #[.slice A2 n2 c2, .bool s2] u ∧ (rds A0 n0 l0 u ∧ (rds A1 n1 l1 u ∧ (rds A2 n2 l2 u ∧ (szW (w.heap.size + 1 + 1 + 1) u ∧ (tbs u ∧ blw w u)))))))) from inferInstance).st _ _ hb hS) (keepL_below hb) (fun V hV => by obtain rfl := Option.some.inj hV; exact ⟨A, n, c, rfl, hc, hn, hv.rd⟩)⟩
      · intro a w' hS hO hF hD K hK
        refine if_ok (by rfl) ?_
        refine wp_alloc rfl ?_
        have hb := below_new (Below.refl w'.heap.size w') (.cells #[.slice none 0 0, .bool false] 24)
        have hBz := hS.2.2.2.2.2.2.1
        exact hK _ _ (fun h => by cases h) hb.size (fun _ => ⟨rfl, by simp⟩) ((show Stb (fun u => owns w.heap.size #[.slice A0 n0 c0, .bool s0] u ∧ (owns (w.heap.size + 1) #[.slice A1 n1 c1, .bool s1] u ∧ (owns (w.heap.size + 1 + 1) #[.slice A2 n2 c2, .bool s2] u ∧ (rds A0 n0 l0 u ∧ (rds A1 n1 l1 u ∧ (rds A2 n2 l2 u ∧ (szW (w.heap.size + 1 + 1 + 1) u ∧ (tbs u ∧ blw w u)))))))) from inferInstance).st _ _ hb hS) (keepL_below hb) (fun V hV => by obtain rfl := Option.some.inj hV; exact ⟨_, rfl, hBz, _, _, _, _, Own.new w' 24 _⟩)
      · intro a w' hS hO hF hD K hK
        refine if_ok (by rfl) ?_
        refine wp_alloc rfl ?_
        have hb := below_new (Below.refl w'.heap.size w') (.cells #[.slice none 0 0, .bool false] 24)
        have hBz := hS.2.2.2.2.2.2.1
        exact hK _ _ (fun h => by cases h) hb.size (fun _ => ⟨rfl, by simp⟩) ((show Stb (fun u => owns w.heap.size #[.slice A0 n0 c0, .bool s0] u ∧ (owns (w.heap.size + 1) #[.slice A1 n1 c1, .bool s1] u ∧ (owns (w.heap.size + 1 + 1) #[.slice A2 n2 c2, .bool s2] u ∧ (rds A0 n0 l0 u ∧ (rds A1 n1 l1 u ∧ (rds A2 n2 l2 u ∧ (szW (w.heap.size + 1 + 1 + 1) u ∧ (tbs u ∧ blw w u)))))))) from inferInstance).st _ _ hb hS) (keepL_below hb) (fun V hV => by obtain rfl := Option.some.inj hV; exact ⟨_, rfl, hBz, _, _, _, _, Own.new w' 24 _⟩)
      · intro a w' hS hO hF hD K hK
        refine if_ok (by rfl) ?_
        refine wp_alloc rfl ?_
        have hb := below_new (Below.refl w'.heap.size w') (.cells #[.slice none 0 0, .bool false] 24)
        have hBz := hS.2.2.2.2.2.2.1
        exact hK _ _ (fun h => by cases h) hb.size (fun _ => ⟨rfl, by simp⟩) ((show Stb (fun u => owns w.heap.size #[.slice A0 n0 c0, .bool s0] u ∧ (owns (w.heap.size + 1) #[.slice A1 n1 c1, .bool s1] u ∧ (owns (w.heap.size + 1 + 1) #[.slice A2 n2 c2, .bool s2] u ∧ (rds A0 n0 l0 u ∧ (rds A1 n1 l1 u ∧ (rds A2 n2 l2 u ∧ (szW (w.heap.size + 1 + 1 + 1) u ∧ (tbs u ∧ blw w u)))))))) from inferInstance).st _ _ hb hS) (keepL_below hb) (fun V hV => by obtain rfl := Option.some.inj hV; exact ⟨_, rfl, hBz, _, _, _, _, Own.new w' 24 _⟩)
      · intro a w' hS hO hF hD K hK
        have j0 := hF 1 rfl
        have f0 := j0.2 29 rfl
        obtain ⟨Ay0, ny0, cy0, e0, hc0, hn0, hr0⟩ := j0.1 _ rfl
        rw [e0] at f0
        have jp := hF 6 rfl
        have fp := jp.2 13 rfl
        obtain ⟨g, eg, hg, X, q1, q2, q3, O⟩ := jp.1 _ rfl
        have hgx := eg
        rw [eg] at fp
        have hB0 := hBase
        haveI : Over w g := ⟨Nat.le_trans (show w.heap.size ≤ _ from hB0) hg⟩
        haveI : Apart g w.heap.size := ⟨fun e => by subst e; have := hB0; omega⟩
        haveI : Apart g (w.heap.size + 1) := ⟨fun e => by subst e; have := hB0; omega⟩
        haveI : Apart g (w.heap.size + 1 + 1) := ⟨fun e => by subst e; have := hB0; omega⟩
        refine if_ok (by rfl) ?_
        refine wp_store_row _ _ _ rfl g _ (ev fp) (ev f0) _ _ O vec_size rfl (by simp [Value.oneCell']) ?_
        exact hK _ _ (fun _ => rfl) (by simp [World.setRow]) (fun h => absurd h (by decide)) ((show Sst g (fun u => owns w.heap.size #[.slice A0 n0 c0, .bool s0] u ∧ (owns (w.heap.size + 1) #[.slice A1 n1 c1, .bool s1] u ∧ (owns (w.heap.size + 1 + 1) #[.slice A2 n2 c2, .bool s2] u ∧ (rds A0 n0 l0 u ∧ (rds A1 n1 l1 u ∧ (rds A2 n2 l2 u ∧ (szW (w.heap.size + 1 + 1 + 1) u ∧ (tbs u ∧ blw w u)))))))) from inferInstance).st _ _ _ _ _ _ O hS) (keepL_store O (fun j V hj hV => by
          match j, hj, hV with
          | 0, _, hV => obtain rfl := Option.some.inj hV; exact ssx_un
          | 1, _, hV => obtain rfl := Option.some.inj hV; exact ssx_un
          | 2, _, hV => obtain rfl := Option.some.inj hV; exact ssx_un
          | 3, _, hV => obtain rfl := Option.some.inj hV; exact ssx_un
          | 4, _, hV => obtain rfl := Option.some.inj hV; exact ssx_un
          | 5, _, hV => obtain rfl := Option.some.inj hV; exact ssx_un
          | 6, _, hV => obtain rfl := Option.some.inj hV; exact ssx_fr
          | 7, _, hV => obtain rfl := Option.some.inj hV; exact ssx_fr
          | 8, _, hV => obtain rfl := Option.some.inj hV; exact ssx_fr
          | 9, hj, _ => exact absurd rfl hj
          | 10, _, hV => obtain rfl := Option.some.inj hV; exact ssx_filled (fun e => hD 7 6 (by decide) rfl rfl rfl rfl (e.trans hgx.symm))
          | 11, _, hV => obtain rfl := Option.some.inj hV; exact ssx_filled (fun e => hD 8 6 (by decide) rfl rfl rfl rfl (e.trans hgx.symm))
          | q + 12, _, hV => simp at hV)) (fun V hV => by obtain rfl := Option.some.inj hV; rw [if_neg (by decide)]; exact ⟨g, Ay0, ny0, cy0, hgx, hg, O.row, hc0, hn0, hr0.row O⟩)
      · intro a w' hS hO hF hD K hK
        have j0 := hF 3 rfl
        have f0 := j0.2 31 rfl
        obtain ⟨Ay0, ny0, cy0, e0, hc0, hn0, hr0⟩ := j0.1 _ rfl
        rw [e0] at f0
        have jp := hF 7 rfl
        have fp := jp.2 14 rfl
        obtain ⟨g, eg, hg, X, q1, q2, q3, O⟩ := jp.1 _ rfl
        have hgx := eg
        rw [eg] at fp
        have hB0 := hBase
        haveI : Over w g := ⟨Nat.le_trans (show w.heap.size ≤ _ from hB0) hg⟩
        haveI : Apart g w.heap.size := ⟨fun e => by subst e; have := hB0; omega⟩
        haveI : Apart g (w.heap.size + 1) := ⟨fun e => by subst e; have := hB0; omega⟩
        haveI : Apart g (w.heap.size + 1 + 1) := ⟨fun e => by subst e; have := hB0; omega⟩
        refine if_ok (by rfl) ?_
        refine wp_store_row _ _ _ rfl g _ (ev fp) (ev f0) _ _ O vec_size rfl (by simp [Value.oneCell']) ?_
        exact hK _ _ (fun _ => rfl) (by simp [World.setRow]) (fun h => absurd h (by decide)) ((show Sst g (fun u => owns w.heap.size #[.slice A0 n0 c0, .bool s0] u ∧ (owns (w.heap.size + 1) #[.slice A1 n1 c1, .bool s1] u ∧ (owns (w.heap.size + 1 + 1) #[.slice A2 n2 c2, .bool s2] u ∧ (rds A0 n0 l0 u ∧ (rds A1 n1 l1 u ∧ (rds A2 n2 l2 u ∧ (szW (w.heap.size + 1 + 1 + 1) u ∧ (tbs u ∧ blw w u)))))))) from inferInstance).st _ _ _ _ _ _ O hS) (keepL_store O (fun j V hj hV => by
          match j, hj, hV with
          | 0, _, hV => obtain rfl := Option.some.inj hV; exact ssx_un
          | 1, _, hV => obtain rfl := Option.some.inj hV; exact ssx_un
          | 2, _, hV => obtain rfl := Option.some.inj hV; exact ssx_un
          | 3, _, hV => obtain rfl := Option.some.inj hV; exact ssx_un
          | 4, _, hV => obtain rfl := Option.some.inj hV; exact ssx_un
          | 5, _, hV => obtain rfl := Option.some.inj hV; exact ssx_un
          | 6, _, hV => obtain rfl := Option.some.inj hV; exact ssx_fr
          | 7, _, hV => obtain rfl := Option.some.inj hV; exact ssx_fr
          | 8, _, hV => obtain rfl := Option.some.inj hV; exact ssx_fr
          | 9, _, hV => obtain rfl := Option.some.inj hV; exact ssx_filled (fun e => hD 6 7 (by decide) rfl rfl rfl rfl (e.trans hgx.symm))
          | 10, hj, _ => exact absurd rfl hj
          | 11, _, hV => obtain rfl := Option.some.inj hV; exact ssx_filled (fun e => hD 8 7 (by decide) rfl rfl rfl rfl (e.trans hgx.symm))
          | q + 12, _, hV => simp at hV)) (fun V hV => by obtain rfl := Option.some.inj hV; rw [if_neg (by decide)]; exact ⟨g, Ay0, ny0, cy0, hgx, hg, O.row, hc0, hn0, hr0.row O⟩)
      · intro a w' hS hO hF hD K hK
        have j0 := hF 5 rfl
        have f0 := j0.2 33 rfl
        obtain ⟨Ay0, ny0, cy0, e0, hc0, hn0, hr0⟩ := j0.1 _ rfl
        rw [e0] at f0
        have jp := hF 8 rfl
        have fp := jp.2 15 rfl
        obtain ⟨g, eg, hg, X, q1, q2, q3, O⟩ := jp.1 _ rfl
        have hgx := eg
        rw [eg] at fp
        have hB0 := hBase
        haveI : Over w g := ⟨Nat.le_trans (show w.heap.size ≤ _ from hB0) hg⟩
        haveI : Apart g w.heap.size := ⟨fun e => by subst e; have := hB0; omega⟩
        haveI : Apart g (w.heap.size + 1) := ⟨fun e => by subst e; have := hB0; omega⟩
        haveI : Apart g (w.heap.size + 1 + 1) := ⟨fun e => by subst e; have := hB0; omega⟩
        refine if_ok (by rfl) ?_
        refine wp_store_row _ _ _ rfl g _ (ev fp) (ev f0) _ _ O vec_size rfl (by simp [Value.oneCell']) ?_
        exact hK _ _ (fun _ => rfl) (by simp [World.setRow]) (fun h => absurd h (by decide)) ((show Sst g (fun u => owns w.heap.size #[.slice A0 n0 c0, .bool s0] u ∧ (owns (w.heap.size + 1) #[.slice A1 n1 c1, .bool s1] u ∧ (owns (w.heap.size + 1 + 1) #[.slice A2 n2 c2, .bool s2] u ∧ (rds A0 n0 l0 u ∧ (rds A1 n1 l1 u ∧ (rds A2 n2 l2 u ∧ (szW (w.heap.size + 1 + 1 + 1) u ∧ (tbs u ∧ blw w u)))))))) from inferInstance).st _ _ _ _ _ _ O hS) (keepL_store O (fun j V hj hV => by
          match j, hj, hV with
          | 0, _, hV => obtain rfl := Option.some.inj hV; exact ssx_un
          | 1, _, hV => obtain rfl := Option.some.inj hV; exact ssx_un
          | 2, _, hV => obtain rfl := Option.some.inj hV; exact ssx_un
          | 3, _, hV => obtain rfl := Option.some.inj hV; exact ssx_un
          | 4, _, hV => obtain rfl := Option.some.inj hV; exact ssx_un
          | 5, _, hV => obtain rfl := Option.some.inj hV; exact ssx_un
          | 6, _, hV => obtain rfl := Option.some.inj hV; exact ssx_fr
          | 7, _, hV => obtain rfl := Option.some.inj hV; exact ssx_fr
          | 8, _, hV => obtain rfl := Option.some.inj hV; exact ssx_fr
          | 9, _, hV => obtain rfl := Option.some.inj hV; exact ssx_filled (fun e => hD 6 8 (by decide) rfl rfl rfl rfl (e.trans hgx.symm))
          | 10, _, hV => obtain rfl := Option.some.inj hV; exact ssx_filled (fun e => hD 7 8 (by decide) rfl rfl rfl rfl (e.trans hgx.symm))
          | 11, hj, _ => exact absurd rfl hj
          | q + 12, _, hV => simp at hV)) (fun V hV => by obtain rfl := Option.some.inj hV; rw [if_neg (by decide)]; exact ⟨g, Ay0, ny0, cy0, hgx, hg, O.row, hc0, hn0, hr0.row O⟩)
    · intro vs u hl hS hV
      match vs, hl, hV with
      | [v0, v1, v2, v3, v4, v5, v6, v7, v8, v9, v10, v11], _, hV =>
        obtain ⟨g13, A13, n13, c13, e13, hB13, O13, hcc13, hnn13, r13⟩ := hV 9 _ rfl
        replace e13 : v6 = .pointer (some ⟨g13, 0, none⟩) := e13
        subst e13
        obtain ⟨g14, A14, n14, c14, e14, hB14, O14, hcc14, hnn14, r14⟩ := hV 10 _ rfl
        replace e14 : v7 = .pointer (some ⟨g14, 0, none⟩) := e14
        subst e14
        obtain ⟨g15, A15, n15, c15, e15, hB15, O15, hcc15, hnn15, r15⟩ := hV 11 _ rfl
        replace e15 : v8 = .pointer (some ⟨g15, 0, none⟩) := e15
        subst e15
        obtain rfl := hV 0 _ rfl
        obtain ⟨_, _, _, rfl, _, _, _⟩ := hV 1 _ rfl
        obtain rfl := hV 2 _ rfl
        obtain ⟨_, _, _, rfl, _, _, _⟩ := hV 3 _ rfl
        obtain rfl := hV 4 _ rfl
        obtain ⟨_, _, _, rfl, _, _, _⟩ := hV 5 _ rfl
        simp only [puts, Act.put, List.setIfInBounds_toArray, List.set_cons_zero, List.set_cons_succ]
        obtain ⟨O6, O7, O8, r0, r1, r2, BZ, TT, BB⟩ := hS
        clear hV
        replace O6 : Own u w.heap.size 24 #[.slice A0 n0 c0, .bool s0] := O6
        replace O7 : Own u (w.heap.size + 1) 24 #[.slice A1 n1 c1, .bool s1] := O7
        replace O8 : Own u (w.heap.size + 1 + 1) 24 #[.slice A2 n2 c2, .bool s2] := O8
        replace r0 : Rb u A0 n0 l0 := r0
        replace r1 : Rb u A1 n1 l1 := r1
        replace r2 : Rb u A2 n2 l2 := r2
        replace TT : Tabs u := TT
        replace BB : Below w.heap.size w u := BB
        go_wp2
        replace O6 : Own u w.heap.size 24 #[.slice A0 n0 c0, .bool s0] := O6
        replace O7 : Own u (w.heap.size + 1) 24 #[.slice A1 n1 c1, .bool s1] := O7
        replace O8 : Own u (w.heap.size + 1 + 1) 24 #[.slice A2 n2 c2, .bool s2] := O8
        replace O13 : Own u g13 24 #[.slice A13 n13 c13, .bool s0] := O13
        replace O14 : Own u g14 24 #[.slice A14 n14 c14, .bool s1] := O14
        replace O15 : Own u g15 24 #[.slice A15 n15 c15, .bool s2] := O15
        replace O6 := Lib.hid O6
        replace r0 := Lib.hid r0
        replace O7 := Lib.hid O7
        replace r1 := Lib.hid r1
        replace O8 := Lib.hid O8
        replace r2 := Lib.hid r2
        replace O13 := Lib.hid O13
        replace r13 := Lib.hid r13
        replace O14 := Lib.hid O14
        replace r14 := Lib.hid r14
        replace O15 := Lib.hid O15
        replace r15 := Lib.hid r15
        replace TT := Lib.hid TT
        replace BB := Lib.hid BB
        clear hB13 hB14 hB15 hBase BZ HL
        obtain ⟨x0, x1, x2, x3, x4, x5, x6, x7, e0, e1, e2, e3, e4, e5, e6, e7, K0, K1, K2, K3, K4, K5, K6, K7, K8, K9, K10, K11, K12, K13, K14, K15⟩ := parts8 A0 A1 A2 A13 A14 A15 n0 c0 n1 c1 n2 c2 n13 c13 n14 c14 n15 c15 s0 s1 s2 l0 l1 l2 a3 a4 a5 b3 b4 b5 hn0 hn1 hn2
        replace K0 := Lib.hid K0
        replace K1 := Lib.hid K1
        replace K2 := Lib.hid K2
        replace K3 := Lib.hid K3
        replace K4 := Lib.hid K4
        replace K5 := Lib.hid K5
        replace K6 := Lib.hid K6
        replace K7 := Lib.hid K7
        replace K8 := Lib.hid K8
        replace K9 := Lib.hid K9
        replace K10 := Lib.hid K10
        replace K11 := Lib.hid K11
        replace K12 := Lib.hid K12
        replace K13 := Lib.hid K13
        replace K14 := Lib.hid K14
        replace K15 := Lib.hid K15
        clear b3 b4 b5
        skip
        go_loopw [16] (fun q wr => ∃ k : Nat, k ≤ 2 ∧ q = .int .i64 k ∧ Hid (Below u.heap.size u wr)) (fun q _ => 2 - (intOf q).toNat)
        case atStart => exact ⟨0, by decide, rfl, Lib.hid (Below.refl _ _)⟩
        case round =>
          obtain ⟨k, hk, rfl, Bv⟩ := hrel
          by_cases hlt : k < 2
          · have d1 : decide ((k : Int) < 2) = true := by simp; omega
            obtain ⟨wo, rfl⟩ : ∃ wo : World, wo = wr := ⟨_, rfl⟩
            have M17 := (((Own.at1 wo 50 #[.slice none 0 0, .bool false, .slice none 0 0, .bool false, .slice none 0 0, .bool false, .slice none 0 0, .bool false, .slice none 0 0, .bool false, .slice none 0 0, .bool false, .slice none 0 0, .bool false, .slice none 0 0, .bool false] (g := wo.heap.size) rfl).alloc (.cells #[.slice none 0 0, .bool false, .slice none 0 0, .bool false, .slice none 0 0, .bool false, .slice none 0 0, .bool false, .slice none 0 0, .bool false, .slice none 0 0, .bool false, .slice none 0 0, .bool false, .slice none 0 0, .bool false] 50)).alloc (.cells #[.int .i64 0, .int .i64 0, .int .i64 0, .int .i64 0, .int .i64 0, .int .i64 0, .int .i64 0, .int .i64 0] 51)).alloc (.cells #[.int .i64 0, .int .i64 0, .int .i64 0, .int .i64 0, .int .i64 0, .int .i64 0, .int .i64 0, .int .i64 0] 51)
            have M18 := ((Own.at1 (wo.alloc (.cells #[.slice none 0 0, .bool false, .slice none 0 0, .bool false, .slice none 0 0, .bool false, .slice none 0 0, .bool false, .slice none 0 0, .bool false, .slice none 0 0, .bool false, .slice none 0 0, .bool false, .slice none 0 0, .bool false] 50)) 50 #[.slice none 0 0, .bool false, .slice none 0 0, .bool false, .slice none 0 0, .bool false, .slice none 0 0, .bool false, .slice none 0 0, .bool false, .slice none 0 0, .bool false, .slice none 0 0, .bool false, .slice none 0 0, .bool false] (g := wo.heap.size + 1) (by simp)).alloc (.cells #[.int .i64 0, .int .i64 0, .int .i64 0, .int .i64 0, .int .i64 0, .int .i64 0, .int .i64 0, .int .i64 0] 51)).alloc (.cells #[.int .i64 0, .int .i64 0, .int .i64 0, .int .i64 0, .int .i64 0, .int .i64 0, .int .i64 0, .int .i64 0] 51)
            have M19 := (Own.at1 ((wo.alloc (.cells #[.slice none 0 0, .bool false, .slice none 0 0, .bool false, .slice none 0 0, .bool false, .slice none 0 0, .bool false, .slice none 0 0, .bool false, .slice none 0 0, .bool false, .slice none 0 0, .bool false, .slice none 0 0, .bool false] 50)).alloc (.cells #[.slice none 0 0, .bool false, .slice none 0 0, .bool false, .slice none 0 0, .bool false, .slice none 0 0, .bool false, .slice none 0 0, .bool false, .slice none 0 0, .bool false, .slice none 0 0, .bool false, .slice none 0 0, .bool false] 50)) 51 #[.int .i64 0, .int .i64 0, .int .i64 0, .int .i64 0, .int .i64 0, .int .i64 0, .int .i64 0, .int .i64 0] (g := wo.heap.size + 1 + 1) (by simp)).alloc (.cells #[.int .i64 0, .int .i64 0, .int .i64 0, .int .i64 0, .int .i64 0, .int .i64 0, .int .i64 0, .int .i64 0] 51)
            have M20 := (Own.at1 (((wo.alloc (.cells #[.slice none 0 0, .bool false, .slice none 0 0, .bool false, .slice none 0 0, .bool false, .slice none 0 0, .bool false, .slice none 0 0, .bool false, .slice none 0 0, .bool false, .slice none 0 0, .bool false, .slice none 0 0, .bool false] 50)).alloc (.cells #[.slice none 0 0, .bool false, .slice none 0 0, .bool false, .slice none 0 0, .bool false, .slice none 0 0, .bool false, .slice none 0 0, .bool false, .slice none 0 0, .bool false, .slice none 0 0, .bool false, .slice none 0 0, .bool false] 50)).alloc (.cells #[.int .i64 0, .int .i64 0, .int .i64 0, .int .i64 0, .int .i64 0, .int .i64 0, .int .i64 0, .int .i64 0] 51)) 51 #[.int .i64 0, .int .i64 0, .int .i64 0, .int .i64 0, .int .i64 0, .int .i64 0, .int .i64 0, .int .i64 0] (g := wo.heap.size + 1 + 1 + 1) (by simp))
            have Bn := below_new (below_new (below_new (below_new (Below.refl wo.heap.size wo) (.cells #[.slice none 0 0, .bool false, .slice none 0 0, .bool false, .slice none 0 0, .bool false, .slice none 0 0, .bool false, .slice none 0 0, .bool false, .slice none 0 0, .bool false, .slice none 0 0, .bool false, .slice none 0 0, .bool false] 50)) (.cells #[.slice none 0 0, .bool false, .slice none 0 0, .bool false, .slice none 0 0, .bool false, .slice none 0 0, .bool false, .slice none 0 0, .bool false, .slice none 0 0, .bool false, .slice none 0 0, .bool false, .slice none 0 0, .bool false] 50)) (.cells #[.int .i64 0, .int .i64 0, .int .i64 0, .int .i64 0, .int .i64 0, .int .i64 0, .int .i64 0, .int .i64 0] 51)) (.cells #[.int .i64 0, .int .i64 0, .int .i64 0, .int .i64 0, .int .i64 0, .int .i64 0, .int .i64 0, .int .i64 0] 51)
            replace Bn := Lib.hid Bn
            replace M17 := Lib.hid M17
            replace M18 := Lib.hid M18
            replace M19 := Lib.hid M19
            replace M20 := Lib.hid M20
            have q6 := O6.out.step (below_step Bv.out Bn.out)
            have q60 := q6.cell 0
            have q61 := q6.cell 1
            clear q6
            have q7 := O7.out.step (below_step Bv.out Bn.out)
            have q70 := q7.cell 0
            have q71 := q7.cell 1
            clear q7
            have q8 := O8.out.step (below_step Bv.out Bn.out)
            have q80 := q8.cell 0
            have q81 := q8.cell 1
            clear q8
            have q13 := O13.out.step (below_step Bv.out Bn.out)
            have q130 := q13.cell 0
            have q131 := q13.cell 1
            clear q13
            have q14 := O14.out.step (below_step Bv.out Bn.out)
            have q140 := q14.cell 0
            have q141 := q14.cell 1
            clear q14
            have q15 := O15.out.step (below_step Bv.out Bn.out)
            have q150 := q15.cell 0
            have q151 := q15.cell 1
            clear q15
            go_wp2_with fail
            go_at_call 37
            generalize hW : ((((wo.alloc (.cells #[.slice none 0 0, .bool false, .slice none 0 0, .bool false, .slice none 0 0, .bool false, .slice none 0 0, .bool false, .slice none 0 0, .bool false, .slice none 0 0, .bool false, .slice none 0 0, .bool false, .slice none 0 0, .bool false] 50)).alloc (.cells #[.slice none 0 0, .bool false, .slice none 0 0, .bool false, .slice none 0 0, .bool false, .slice none 0 0, .bool false, .slice none 0 0, .bool false, .slice none 0 0, .bool false, .slice none 0 0, .bool false, .slice none 0 0, .bool false] 50)).alloc (.cells #[.int .i64 0, .int .i64 0, .int .i64 0, .int .i64 0, .int .i64 0, .int .i64 0, .int .i64 0, .int .i64 0] 51)).alloc (.cells #[.int .i64 0, .int .i64 0, .int .i64 0, .int .i64 0, .int .i64 0, .int .i64 0, .int .i64 0, .int .i64 0] 51)) = v0 at *
            clear hW
            clear q60 q61 q70 q71 q80 q81 q130 q131 q140 q141 q150 q151
            refine (K0.out v0 ).mono ?_
            rintro e wk ⟨Ax0, nx0, cx0, rfl, hcx0, hnx0, Nx0, hb⟩
            replace Nx0 := Nx0.mono Bn.out.size
            replace Bn := Lib.hid (below_step Bn.out hb)
            replace M17 := M17.out.step hb
            replace M18 := M18.out.step hb
            replace M19 := M19.out.step hb
            replace M20 := M20.out.step hb
            clear hb
            have k0 := M17.cell 0
            have k1 := M17.cell 1
            have f0 := M17.free 0
            have f1 := M17.free 1
            have D := (M19.far (p := ⟨wo.heap.size, 0, none⟩) (show (wo.heap.size + 1 + 1) ≠ wo.heap.size by omega) (.slice Ax0 nx0 cx0)).far (p := ⟨wo.heap.size, 1, none⟩) (show (wo.heap.size + 1 + 1) ≠ wo.heap.size by omega) (.bool x0.s)
            have k2 := D.cell 0
            have f2 := D.free 0
            replace Nx0 := Lib.hid ((Nx0.tri (i := 0) (k := 1) (j := 0) (a := .slice Ax0 nx0 cx0) (b := .bool x0.s) (z := .int .i64 e0) M17 (by decide) M19 (by decide) (by omega)))
            have YM17 : Own (((wk.setCell ⟨wo.heap.size, 0, none⟩ (.slice Ax0 nx0 cx0)).setCell ⟨wo.heap.size, 1, none⟩ (.bool x0.s)).setCell ⟨(wo.heap.size + 1 + 1), 0, none⟩ (.int .i64 e0)) wo.heap.size 50 #[.slice Ax0 nx0 cx0, .bool x0.s, .slice none 0 0, .bool false, .slice none 0 0, .bool false, .slice none 0 0, .bool false, .slice none 0 0, .bool false, .slice none 0 0, .bool false, .slice none 0 0, .bool false, .slice none 0 0, .bool false] := M17.tri_x (q := (wo.heap.size + 1 + 1)) (by omega)
            have YM18 := M18.tri_far (g := wo.heap.size) (i := 0) (k := 1) (q := (wo.heap.size + 1 + 1)) (j := 0) (a := .slice Ax0 nx0 cx0) (b := .bool x0.s) (z := .int .i64 e0) (by omega) (by omega)
            have YM19 : Own (((wk.setCell ⟨wo.heap.size, 0, none⟩ (.slice Ax0 nx0 cx0)).setCell ⟨wo.heap.size, 1, none⟩ (.bool x0.s)).setCell ⟨(wo.heap.size + 1 + 1), 0, none⟩ (.int .i64 e0)) (wo.heap.size + 1 + 1) 51 #[.int .i64 e0, .int .i64 0, .int .i64 0, .int .i64 0, .int .i64 0, .int .i64 0, .int .i64 0, .int .i64 0] := M19.tri_e (g := wo.heap.size) (by omega)
            have YM20 := M20.tri_far (g := wo.heap.size) (i := 0) (k := 1) (q := (wo.heap.size + 1 + 1)) (j := 0) (a := .slice Ax0 nx0 cx0) (b := .bool x0.s) (z := .int .i64 e0) (by omega) (by omega)
            replace M17 := Lib.hid YM17
            clear YM17
            replace M18 := Lib.hid YM18
            clear YM18
            replace M19 := Lib.hid YM19
            clear YM19
            replace M20 := Lib.hid YM20
            clear YM20
            replace Bn := Lib.hid (below_tri' (i := 0) (k := 1) (j := 0) (a := .slice Ax0 nx0 cx0) (b := .bool x0.s) (z := .int .i64 e0) Bn.out (show wo.heap.size ≤ wo.heap.size by omega) (show wo.heap.size ≤ (wo.heap.size + 1 + 1) by omega))
            have tz : (((wk.setCell ⟨wo.heap.size, 0, none⟩ (.slice Ax0 nx0 cx0)).setCell ⟨wo.heap.size, 1, none⟩ (.bool x0.s)).setCell ⟨(wo.heap.size + 1 + 1), 0, none⟩ (.int .i64 e0)).heap.size = wk.heap.size := by simp
            have q6 := O6.out.step (below_step Bv.out Bn.out)
            have q60 := q6.cell 0
            have q61 := q6.cell 1
            clear q6
            have q7 := O7.out.step (below_step Bv.out Bn.out)
            have q70 := q7.cell 0
            have q71 := q7.cell 1
            clear q7
            have q8 := O8.out.step (below_step Bv.out Bn.out)
            have q80 := q8.cell 0
            have q81 := q8.cell 1
            clear q8
            have q13 := O13.out.step (below_step Bv.out Bn.out)
            have q130 := q13.cell 0
            have q131 := q13.cell 1
            clear q13
            have q14 := O14.out.step (below_step Bv.out Bn.out)
            have q140 := q14.cell 0
            have q141 := q14.cell 1
            clear q14
            have q15 := O15.out.step (below_step Bv.out Bn.out)
            have q150 := q15.cell 0
            have q151 := q15.cell 1
            clear q15
            go_wp2_with fail
            go_at_call 38
            generalize hW : (((wk.setCell ⟨wo.heap.size, 0, none⟩ (.slice Ax0 nx0 cx0)).setCell ⟨wo.heap.size, 1, none⟩ (.bool x0.s)).setCell ⟨(wo.heap.size + 1 + 1), 0, none⟩ (.int .i64 e0)) = v1 at *
            clear hW
            clear q60 q61 q70 q71 q80 q81 q130 q131 q140 q141 q150 q151
            refine (K1.out v1 ).mono ?_
            rintro e wk ⟨Ay0, ny0, cy0, rfl, hcy0, hny0, Ny0, hb⟩
            replace Ny0 := Ny0.mono Bn.out.size
            replace Bn := Lib.hid (below_step Bn.out hb)
            replace M17 := M17.out.step hb
            replace M18 := M18.out.step hb
            replace M19 := M19.out.step hb
            replace M20 := M20.out.step hb
            replace Nx0 := Nx0.out.step hb
            clear hb
            have k0 := M18.cell 0
            have k1 := M18.cell 1
            have f0 := M18.free 0
            have f1 := M18.free 1
            have D := (M20.far (p := ⟨(wo.heap.size + 1), 0, none⟩) (show (wo.heap.size + 1 + 1 + 1) ≠ (wo.heap.size + 1) by omega) (.slice Ay0 ny0 cy0)).far (p := ⟨(wo.heap.size + 1), 1, none⟩) (show (wo.heap.size + 1 + 1 + 1) ≠ (wo.heap.size + 1) by omega) (.bool x0.s)
            have k2 := D.cell 0
            have f2 := D.free 0
            replace Nx0 := Lib.hid ((Nx0.tri (i := 0) (k := 1) (j := 0) (a := .slice Ay0 ny0 cy0) (b := .bool x0.s) (z := .int .i64 e0) M18 (by decide) M20 (by decide) (by omega)))
            replace Ny0 := Lib.hid ((Ny0.tri (i := 0) (k := 1) (j := 0) (a := .slice Ay0 ny0 cy0) (b := .bool x0.s) (z := .int .i64 e0) M18 (by decide) M20 (by decide) (by omega)))
            have YM17 := M17.tri_far (g := (wo.heap.size + 1)) (i := 0) (k := 1) (q := (wo.heap.size + 1 + 1 + 1)) (j := 0) (a := .slice Ay0 ny0 cy0) (b := .bool x0.s) (z := .int .i64 e0) (by omega) (by omega)
            have YM18 : Own (((wk.setCell ⟨(wo.heap.size + 1), 0, none⟩ (.slice Ay0 ny0 cy0)).setCell ⟨(wo.heap.size + 1), 1, none⟩ (.bool x0.s)).setCell ⟨(wo.heap.size + 1 + 1 + 1), 0, none⟩ (.int .i64 e0)) (wo.heap.size + 1) 50 #[.slice Ay0 ny0 cy0, .bool x0.s, .slice none 0 0, .bool false, .slice none 0 0, .bool false, .slice none 0 0, .bool false, .slice none 0 0, .bool false, .slice none 0 0, .bool false, .slice none 0 0, .bool false, .slice none 0 0, .bool false] := M18.tri_x (q := (wo.heap.size + 1 + 1 + 1)) (by omega)
            have YM19 := M19.tri_far (g := (wo.heap.size + 1)) (i := 0) (k := 1) (q := (wo.heap.size + 1 + 1 + 1)) (j := 0) (a := .slice Ay0 ny0 cy0) (b := .bool x0.s) (z := .int .i64 e0) (by omega) (by omega)
            have YM20 : Own (((wk.setCell ⟨(wo.heap.size + 1), 0, none⟩ (.slice Ay0 ny0 cy0)).setCell ⟨(wo.heap.size + 1), 1, none⟩ (.bool x0.s)).setCell ⟨(wo.heap.size + 1 + 1 + 1), 0, none⟩ (.int .i64 e0)) (wo.heap.size + 1 + 1 + 1) 51 #[.int .i64 e0, .int .i64 0, .int .i64 0, .int .i64 0, .int .i64 0, .int .i64 0, .int .i64 0, .int .i64 0] := M20.tri_e (g := (wo.heap.size + 1)) (by omega)
            replace M17 := Lib.hid YM17
            clear YM17
            replace M18 := Lib.hid YM18
            clear YM18
            replace M19 := Lib.hid YM19
            clear YM19
            replace M20 := Lib.hid YM20
            clear YM20
            replace Bn := Lib.hid (below_tri' (i := 0) (k := 1) (j := 0) (a := .slice Ay0 ny0 cy0) (b := .bool x0.s) (z := .int .i64 e0) Bn.out (show wo.heap.size ≤ (wo.heap.size + 1) by omega) (show wo.heap.size ≤ (wo.heap.size + 1 + 1 + 1) by omega))
            have tz : (((wk.setCell ⟨(wo.heap.size + 1), 0, none⟩ (.slice Ay0 ny0 cy0)).setCell ⟨(wo.heap.size + 1), 1, none⟩ (.bool x0.s)).setCell ⟨(wo.heap.size + 1 + 1 + 1), 0, none⟩ (.int .i64 e0)).heap.size = wk.heap.size := by simp
            have q6 := O6.out.step (below_step Bv.out Bn.out)
            have q60 := q6.cell 0
            have q61 := q6.cell 1
            clear q6
            have q7 := O7.out.step (below_step Bv.out Bn.out)
            have q70 := q7.cell 0
            have q71 := q7.cell 1
            clear q7
            have q8 := O8.out.step (below_step Bv.out Bn.out)
            have q80 := q8.cell 0
            have q81 := q8.cell 1
            clear q8
            have q13 := O13.out.step (below_step Bv.out Bn.out)
            have q130 := q13.cell 0
            have q131 := q13.cell 1
            clear q13
            have q14 := O14.out.step (below_step Bv.out Bn.out)
            have q140 := q14.cell 0
            have q141 := q14.cell 1
            clear q14
            have q15 := O15.out.step (below_step Bv.out Bn.out)
            have q150 := q15.cell 0
            have q151 := q15.cell 1
            clear q15
            go_wp2_with fail
            go_at_call 39
            generalize hW : (((wk.setCell ⟨(wo.heap.size + 1), 0, none⟩ (.slice Ay0 ny0 cy0)).setCell ⟨(wo.heap.size + 1), 1, none⟩ (.bool x0.s)).setCell ⟨(wo.heap.size + 1 + 1 + 1), 0, none⟩ (.int .i64 e0)) = v2 at *
            clear hW
            clear q60 q61 q70 q71 q80 q81 q130 q131 q140 q141 q150 q151
            refine (K2.out v2 ).mono ?_
            rintro e wk ⟨Ax1, nx1, cx1, rfl, hcx1, hnx1, Nx1, hb⟩
            replace Nx1 := Nx1.mono Bn.out.size
            replace Bn := Lib.hid (below_step Bn.out hb)
            replace M17 := M17.out.step hb
            replace M18 := M18.out.step hb
            replace M19 := M19.out.step hb
            replace M20 := M20.out.step hb
            replace Nx0 := Nx0.out.step hb
            replace Ny0 := Ny0.out.step hb
            clear hb
            have k0 := M17.cell 2
            have k1 := M17.cell 3
            have f0 := M17.free 2
            have f1 := M17.free 3
            have D := (M19.far (p := ⟨wo.heap.size, 2, none⟩) (show (wo.heap.size + 1 + 1) ≠ wo.heap.size by omega) (.slice Ax1 nx1 cx1)).far (p := ⟨wo.heap.size, 3, none⟩) (show (wo.heap.size + 1 + 1) ≠ wo.heap.size by omega) (.bool x1.s)
            have k2 := D.cell 1
            have f2 := D.free 1
            replace Nx0 := Lib.hid ((Nx0.tri (i := 2) (k := 3) (j := 1) (a := .slice Ax1 nx1 cx1) (b := .bool x1.s) (z := .int .i64 e1) M17 (by decide) M19 (by decide) (by omega)))
            replace Ny0 := Lib.hid ((Ny0.tri (i := 2) (k := 3) (j := 1) (a := .slice Ax1 nx1 cx1) (b := .bool x1.s) (z := .int .i64 e1) M17 (by decide) M19 (by decide) (by omega)))
            replace Nx1 := Lib.hid ((Nx1.tri (i := 2) (k := 3) (j := 1) (a := .slice Ax1 nx1 cx1) (b := .bool x1.s) (z := .int .i64 e1) M17 (by decide) M19 (by decide) (by omega)))
            have YM17 : Own (((wk.setCell ⟨wo.heap.size, 2, none⟩ (.slice Ax1 nx1 cx1)).setCell ⟨wo.heap.size, 3, none⟩ (.bool x1.s)).setCell ⟨(wo.heap.size + 1 + 1), 1, none⟩ (.int .i64 e1)) wo.heap.size 50 #[.slice Ax0 nx0 cx0, .bool x0.s, .slice Ax1 nx1 cx1, .bool x1.s, .slice none 0 0, .bool false, .slice none 0 0, .bool false, .slice none 0 0, .bool false, .slice none 0 0, .bool false, .slice none 0 0, .bool false, .slice none 0 0, .bool false] := M17.tri_x (q := (wo.heap.size + 1 + 1)) (by omega)
            have YM18 := M18.tri_far (g := wo.heap.size) (i := 2) (k := 3) (q := (wo.heap.size + 1 + 1)) (j := 1) (a := .slice Ax1 nx1 cx1) (b := .bool x1.s) (z := .int .i64 e1) (by omega) (by omega)
            have YM19 : Own (((wk.setCell ⟨wo.heap.size, 2, none⟩ (.slice Ax1 nx1 cx1)).setCell ⟨wo.heap.size, 3, none⟩ (.bool x1.s)).setCell ⟨(wo.heap.size + 1 + 1), 1, none⟩ (.int .i64 e1)) (wo.heap.size + 1 + 1) 51 #[.int .i64 e0, .int .i64 e1, .int .i64 0, .int .i64 0, .int .i64 0, .int .i64 0, .int .i64 0, .int .i64 0] := M19.tri_e (g := wo.heap.size) (by omega)
            have YM20 := M20.tri_far (g := wo.heap.size) (i := 2) (k := 3) (q := (wo.heap.size + 1 + 1)) (j := 1) (a := .slice Ax1 nx1 cx1) (b := .bool x1.s) (z := .int .i64 e1) (by omega) (by omega)
            replace M17 := Lib.hid YM17
            clear YM17
            replace M18 := Lib.hid YM18
            clear YM18
            replace M19 := Lib.hid YM19
            clear YM19
            replace M20 := Lib.hid YM20
            clear YM20
            replace Bn := Lib.hid (below_tri' (i := 2) (k := 3) (j := 1) (a := .slice Ax1 nx1 cx1) (b := .bool x1.s) (z := .int .i64 e1) Bn.out (show wo.heap.size ≤ wo.heap.size by omega) (show wo.heap.size ≤ (wo.heap.size + 1 + 1) by omega))
            have tz : (((wk.setCell ⟨wo.heap.size, 2, none⟩ (.slice Ax1 nx1 cx1)).setCell ⟨wo.heap.size, 3, none⟩ (.bool x1.s)).setCell ⟨(wo.heap.size + 1 + 1), 1, none⟩ (.int .i64 e1)).heap.size = wk.heap.size := by simp
            have q6 := O6.out.step (below_step Bv.out Bn.out)
            have q60 := q6.cell 0
            have q61 := q6.cell 1
            clear q6
            have q7 := O7.out.step (below_step Bv.out Bn.out)
            have q70 := q7.cell 0
            have q71 := q7.cell 1
            clear q7
            have q8 := O8.out.step (below_step Bv.out Bn.out)
            have q80 := q8.cell 0
            have q81 := q8.cell 1
            clear q8
            have q13 := O13.out.step (below_step Bv.out Bn.out)
            have q130 := q13.cell 0
            have q131 := q13.cell 1
            clear q13
            have q14 := O14.out.step (below_step Bv.out Bn.out)
            have q140 := q14.cell 0
            have q141 := q14.cell 1
            clear q14
            have q15 := O15.out.step (below_step Bv.out Bn.out)
            have q150 := q15.cell 0
            have q151 := q15.cell 1
            clear q15
            go_wp2_with fail
            go_at_call 40
            generalize hW : (((wk.setCell ⟨wo.heap.size, 2, none⟩ (.slice Ax1 nx1 cx1)).setCell ⟨wo.heap.size, 3, none⟩ (.bool x1.s)).setCell ⟨(wo.heap.size + 1 + 1), 1, none⟩ (.int .i64 e1)) = v3 at *
            clear hW
            clear q60 q61 q70 q71 q80 q81 q130 q131 q140 q141 q150 q151
            refine (K3.out v3 ).mono ?_
            rintro e wk ⟨Ay1, ny1, cy1, rfl, hcy1, hny1, Ny1, hb⟩
            replace Ny1 := Ny1.mono Bn.out.size
            replace Bn := Lib.hid (below_step Bn.out hb)
            replace M17 := M17.out.step hb
            replace M18 := M18.out.step hb
            replace M19 := M19.out.step hb
            replace M20 := M20.out.step hb
            replace Nx0 := Nx0.out.step hb
            replace Ny0 := Ny0.out.step hb
            replace Nx1 := Nx1.out.step hb
            clear hb
            have k0 := M18.cell 2
            have k1 := M18.cell 3
            have f0 := M18.free 2
            have f1 := M18.free 3
            have D := (M20.far (p := ⟨(wo.heap.size + 1), 2, none⟩) (show (wo.heap.size + 1 + 1 + 1) ≠ (wo.heap.size + 1) by omega) (.slice Ay1 ny1 cy1)).far (p := ⟨(wo.heap.size + 1), 3, none⟩) (show (wo.heap.size + 1 + 1 + 1) ≠ (wo.heap.size + 1) by omega) (.bool x1.s)
            have k2 := D.cell 1
            have f2 := D.free 1
            replace Nx0 := Lib.hid ((Nx0.tri (i := 2) (k := 3) (j := 1) (a := .slice Ay1 ny1 cy1) (b := .bool x1.s) (z := .int .i64 e1) M18 (by decide) M20 (by decide) (by omega)))
            replace Ny0 := Lib.hid ((Ny0.tri (i := 2) (k := 3) (j := 1) (a := .slice Ay1 ny1 cy1) (b := .bool x1.s) (z := .int .i64 e1) M18 (by decide) M20 (by decide) (by omega)))
            replace Nx1 := Lib.hid ((Nx1.tri (i := 2) (k := 3) (j := 1) (a := .slice Ay1 ny1 cy1) (b := .bool x1.s) (z := .int .i64 e1) M18 (by decide) M20 (by decide) (by omega)))
            replace Ny1 := Lib.hid ((Ny1.tri (i := 2) (k := 3) (j := 1) (a := .slice Ay1 ny1 cy1) (b := .bool x1.s) (z := .int .i64 e1) M18 (by decide) M20 (by decide) (by omega)))
            have YM17 := M17.tri_far (g := (wo.heap.size + 1)) (i := 2) (k := 3) (q := (wo.heap.size + 1 + 1 + 1)) (j := 1) (a := .slice Ay1 ny1 cy1) (b := .bool x1.s) (z := .int .i64 e1) (by omega) (by omega)
            have YM18 : Own (((wk.setCell ⟨(wo.heap.size + 1), 2, none⟩ (.slice Ay1 ny1 cy1)).setCell ⟨(wo.heap.size + 1), 3, none⟩ (.bool x1.s)).setCell ⟨(wo.heap.size + 1 + 1 + 1), 1, none⟩ (.int .i64 e1)) (wo.heap.size + 1) 50 #[.slice Ay0 ny0 cy0, .bool x0.s, .slice Ay1 ny1 cy1, .bool x1.s, .slice none 0 0, .bool false, .slice none 0 0, .bool false, .slice none 0 0, .bool false, .slice none 0 0, .bool false, .slice none 0 0, .bool false, .slice none 0 0, .bool false] := M18.tri_x (q := (wo.heap.size + 1 + 1 + 1)) (by omega)
            have YM19 := M19.tri_far (g := (wo.heap.size + 1)) (i := 2) (k := 3) (q := (wo.heap.size + 1 + 1 + 1)) (j := 1) (a := .slice Ay1 ny1 cy1) (b := .bool x1.s) (z := .int .i64 e1) (by omega) (by omega)
            have YM20 : Own (((wk.setCell ⟨(wo.heap.size + 1), 2, none⟩ (.slice Ay1 ny1 cy1)).setCell ⟨(wo.heap.size + 1), 3, none⟩ (.bool x1.s)).setCell ⟨(wo.heap.size + 1 + 1 + 1), 1, none⟩ (.int .i64 e1)) (wo.heap.size + 1 + 1 + 1) 51 #[.int .i64 e0, .int .i64 e1, .int .i64 0, .int .i64 0, .int .i64 0, .int .i64 0, .int .i64 0, .int .i64 0] := M20.tri_e (g := (wo.heap.size + 1)) (by omega)
            replace M17 := Lib.hid YM17
            clear YM17
            replace M18 := Lib.hid YM18
            clear YM18
            replace M19 := Lib.hid YM19
            clear YM19
            replace M20 := Lib.hid YM20
            clear YM20
            replace Bn := Lib.hid (below_tri' (i := 2) (k := 3) (j := 1) (a := .slice Ay1 ny1 cy1) (b := .bool x1.s) (z := .int .i64 e1) Bn.out (show wo.heap.size ≤ (wo.heap.size + 1) by omega) (show wo.heap.size ≤ (wo.heap.size + 1 + 1 + 1) by omega))
            have tz : (((wk.setCell ⟨(wo.heap.size + 1), 2, none⟩ (.slice Ay1 ny1 cy1)).setCell ⟨(wo.heap.size + 1), 3, none⟩ (.bool x1.s)).setCell ⟨(wo.heap.size + 1 + 1 + 1), 1, none⟩ (.int .i64 e1)).heap.size = wk.heap.size := by simp
            have q6 := O6.out.step (below_step Bv.out Bn.out)
            have q60 := q6.cell 0
            have q61 := q6.cell 1
            clear q6
            have q7 := O7.out.step (below_step Bv.out Bn.out)
            have q70 := q7.cell 0
            have q71 := q7.cell 1
            clear q7
            have q8 := O8.out.step (below_step Bv.out Bn.out)
            have q80 := q8.cell 0
            have q81 := q8.cell 1
            clear q8
            have q13 := O13.out.step (below_step Bv.out Bn.out)
            have q130 := q13.cell 0
            have q131 := q13.cell 1
            clear q13
            have q14 := O14.out.step (below_step Bv.out Bn.out)
            have q140 := q14.cell 0
            have q141 := q14.cell 1
            clear q14
            have q15 := O15.out.step (below_step Bv.out Bn.out)
            have q150 := q15.cell 0
            have q151 := q15.cell 1
            clear q15
            go_wp2_with fail
            go_at_call 41
            generalize hW : (((wk.setCell ⟨(wo.heap.size + 1), 2, none⟩ (.slice Ay1 ny1 cy1)).setCell ⟨(wo.heap.size + 1), 3, none⟩ (.bool x1.s)).setCell ⟨(wo.heap.size + 1 + 1 + 1), 1, none⟩ (.int .i64 e1)) = v4 at *
            clear hW
            clear q60 q61 q70 q71 q80 q81 q130 q131 q140 q141 q150 q151
            refine (K4.out v4 (r13.out.step (below_step Bv.out Bn.out))).mono ?_
            rintro e wk ⟨Ax2, nx2, cx2, rfl, hcx2, hnx2, Nx2, hb⟩
            replace Nx2 := Nx2.mono Bn.out.size
            replace Bn := Lib.hid (below_step Bn.out hb)
            replace M17 := M17.out.step hb
            replace M18 := M18.out.step hb
            replace M19 := M19.out.step hb
            replace M20 := M20.out.step hb
            replace Nx0 := Nx0.out.step hb
            replace Ny0 := Ny0.out.step hb
            replace Nx1 := Nx1.out.step hb
            replace Ny1 := Ny1.out.step hb
            clear hb
            have k0 := M17.cell 4
            have k1 := M17.cell 5
            have f0 := M17.free 4
            have f1 := M17.free 5
            have D := (M19.far (p := ⟨wo.heap.size, 4, none⟩) (show (wo.heap.size + 1 + 1) ≠ wo.heap.size by omega) (.slice Ax2 nx2 cx2)).far (p := ⟨wo.heap.size, 5, none⟩) (show (wo.heap.size + 1 + 1) ≠ wo.heap.size by omega) (.bool x2.s)
            have k2 := D.cell 2
            have f2 := D.free 2
            replace Nx0 := Lib.hid ((Nx0.tri (i := 4) (k := 5) (j := 2) (a := .slice Ax2 nx2 cx2) (b := .bool x2.s) (z := .int .i64 e2) M17 (by decide) M19 (by decide) (by omega)))
            replace Ny0 := Lib.hid ((Ny0.tri (i := 4) (k := 5) (j := 2) (a := .slice Ax2 nx2 cx2) (b := .bool x2.s) (z := .int .i64 e2) M17 (by decide) M19 (by decide) (by omega)))
            replace Nx1 := Lib.hid ((Nx1.tri (i := 4) (k := 5) (j := 2) (a := .slice Ax2 nx2 cx2) (b := .bool x2.s) (z := .int .i64 e2) M17 (by decide) M19 (by decide) (by omega)))
            replace Ny1 := Lib.hid ((Ny1.tri (i := 4) (k := 5) (j := 2) (a := .slice Ax2 nx2 cx2) (b := .bool x2.s) (z := .int .i64 e2) M17 (by decide) M19 (by decide) (by omega)))
            replace Nx2 := Lib.hid ((Nx2.tri (i := 4) (k := 5) (j := 2) (a := .slice Ax2 nx2 cx2) (b := .bool x2.s) (z := .int .i64 e2) M17 (by decide) M19 (by decide) (by omega)))
            have YM17 : Own (((wk.setCell ⟨wo.heap.size, 4, none⟩ (.slice Ax2 nx2 cx2)).setCell ⟨wo.heap.size, 5, none⟩ (.bool x2.s)).setCell ⟨(wo.heap.size + 1 + 1), 2, none⟩ (.int .i64 e2)) wo.heap.size 50 #[.slice Ax0 nx0 cx0, .bool x0.s, .slice Ax1 nx1 cx1, .bool x1.s, .slice Ax2 nx2 cx2, .bool x2.s, .slice none 0 0, .bool false, .slice none 0 0, .bool false, .slice none 0 0, .bool false, .slice none 0 0, .bool false, .slice none 0 0, .bool false] := M17.tri_x (q := (wo.heap.size + 1 + 1)) (by omega)
            have YM18 := M18.tri_far (g := wo.heap.size) (i := 4) (k := 5) (q := (wo.heap.size + 1 + 1)) (j := 2) (a := .slice Ax2 nx2 cx2) (b := .bool x2.s) (z := .int .i64 e2) (by omega) (by omega)
            have YM19 : Own (((wk.setCell ⟨wo.heap.size, 4, none⟩ (.slice Ax2 nx2 cx2)).setCell ⟨wo.heap.size, 5, none⟩ (.bool x2.s)).setCell ⟨(wo.heap.size + 1 + 1), 2, none⟩ (.int .i64 e2)) (wo.heap.size + 1 + 1) 51 #[.int .i64 e0, .int .i64 e1, .int .i64 e2, .int .i64 0, .int .i64 0, .int .i64 0, .int .i64 0, .int .i64 0] := M19.tri_e (g := wo.heap.size) (by omega)
            have YM20 := M20.tri_far (g := wo.heap.size) (i := 4) (k := 5) (q := (wo.heap.size + 1 + 1)) (j := 2) (a := .slice Ax2 nx2 cx2) (b := .bool x2.s) (z := .int .i64 e2) (by omega) (by omega)
            replace M17 := Lib.hid YM17
            clear YM17
            replace M18 := Lib.hid YM18
            clear YM18
            replace M19 := Lib.hid YM19
            clear YM19
            replace M20 := Lib.hid YM20
            clear YM20
            replace Bn := Lib.hid (below_tri' (i := 4) (k := 5) (j := 2) (a := .slice Ax2 nx2 cx2) (b := .bool x2.s) (z := .int .i64 e2) Bn.out (show wo.heap.size ≤ wo.heap.size by omega) (show wo.heap.size ≤ (wo.heap.size + 1 + 1) by omega))
            have tz : (((wk.setCell ⟨wo.heap.size, 4, none⟩ (.slice Ax2 nx2 cx2)).setCell ⟨wo.heap.size, 5, none⟩ (.bool x2.s)).setCell ⟨(wo.heap.size + 1 + 1), 2, none⟩ (.int .i64 e2)).heap.size = wk.heap.size := by simp
            have q6 := O6.out.step (below_step Bv.out Bn.out)
            have q60 := q6.cell 0
            have q61 := q6.cell 1
            clear q6
            have q7 := O7.out.step (below_step Bv.out Bn.out)
            have q70 := q7.cell 0
            have q71 := q7.cell 1
            clear q7
            have q8 := O8.out.step (below_step Bv.out Bn.out)
            have q80 := q8.cell 0
            have q81 := q8.cell 1
            clear q8
            have q13 := O13.out.step (below_step Bv.out Bn.out)
            have q130 := q13.cell 0
            have q131 := q13.cell 1
            clear q13
            have q14 := O14.out.step (below_step Bv.out Bn.out)
            have q140 := q14.cell 0
            have q141 := q14.cell 1
            clear q14
            have q15 := O15.out.step (below_step Bv.out Bn.out)
            have q150 := q15.cell 0
            have q151 := q15.cell 1
            clear q15
            go_wp2_with fail
            go_at_call 42
            generalize hW : (((wk.setCell ⟨wo.heap.size, 4, none⟩ (.slice Ax2 nx2 cx2)).setCell ⟨wo.heap.size, 5, none⟩ (.bool x2.s)).setCell ⟨(wo.heap.size + 1 + 1), 2, none⟩ (.int .i64 e2)) = v5 at *
            clear hW
            clear q60 q61 q70 q71 q80 q81 q130 q131 q140 q141 q150 q151
            refine (K5.out v5 (r0.out.step (below_step Bv.out Bn.out))).mono ?_
            rintro e wk ⟨Ay2, ny2, cy2, rfl, hcy2, hny2, Ny2, hb⟩
            replace Ny2 := Ny2.mono Bn.out.size
            replace Bn := Lib.hid (below_step Bn.out hb)
            replace M17 := M17.out.step hb
            replace M18 := M18.out.step hb
            replace M19 := M19.out.step hb
            replace M20 := M20.out.step hb
            replace Nx0 := Nx0.out.step hb
            replace Ny0 := Ny0.out.step hb
            replace Nx1 := Nx1.out.step hb
            replace Ny1 := Ny1.out.step hb
            replace Nx2 := Nx2.out.step hb
            clear hb
            have k0 := M18.cell 4
            have k1 := M18.cell 5
            have f0 := M18.free 4
            have f1 := M18.free 5
            have D := (M20.far (p := ⟨(wo.heap.size + 1), 4, none⟩) (show (wo.heap.size + 1 + 1 + 1) ≠ (wo.heap.size + 1) by omega) (.slice Ay2 ny2 cy2)).far (p := ⟨(wo.heap.size + 1), 5, none⟩) (show (wo.heap.size + 1 + 1 + 1) ≠ (wo.heap.size + 1) by omega) (.bool x2.s)
            have k2 := D.cell 2
            have f2 := D.free 2
            replace Nx0 := Lib.hid ((Nx0.tri (i := 4) (k := 5) (j := 2) (a := .slice Ay2 ny2 cy2) (b := .bool x2.s) (z := .int .i64 e2) M18 (by decide) M20 (by decide) (by omega)))
            replace Ny0 := Lib.hid ((Ny0.tri (i := 4) (k := 5) (j := 2) (a := .slice Ay2 ny2 cy2) (b := .bool x2.s) (z := .int .i64 e2) M18 (by decide) M20 (by decide) (by omega)))
            replace Nx1 := Lib.hid ((Nx1.tri (i := 4) (k := 5) (j := 2) (a := .slice Ay2 ny2 cy2) (b := .bool x2.s) (z := .int .i64 e2) M18 (by decide) M20 (by decide) (by omega)))
            replace Ny1 := Lib.hid ((Ny1.tri (i := 4) (k := 5) (j := 2) (a := .slice Ay2 ny2 cy2) (b := .bool x2.s) (z := .int .i64 e2) M18 (by decide) M20 (by decide) (by omega)))
            replace Nx2 := Lib.hid ((Nx2.tri (i := 4) (k := 5) (j := 2) (a := .slice Ay2 ny2 cy2) (b := .bool x2.s) (z := .int .i64 e2) M18 (by decide) M20 (by decide) (by omega)))
            replace Ny2 := Lib.hid ((Ny2.tri (i := 4) (k := 5) (j := 2) (a := .slice Ay2 ny2 cy2) (b := .bool x2.s) (z := .int .i64 e2) M18 (by decide) M20 (by decide) (by omega)))
            have YM17 := M17.tri_far (g := (wo.heap.size + 1)) (i := 4) (k := 5) (q := (wo.heap.size + 1 + 1 + 1)) (j := 2) (a := .slice Ay2 ny2 cy2) (b := .bool x2.s) (z := .int .i64 e2) (by omega) (by omega)
            have YM18 : Own (((wk.setCell ⟨(wo.heap.size + 1), 4, none⟩ (.slice Ay2 ny2 cy2)).setCell ⟨(wo.heap.size + 1), 5, none⟩ (.bool x2.s)).setCell ⟨(wo.heap.size + 1 + 1 + 1), 2, none⟩ (.int .i64 e2)) (wo.heap.size + 1) 50 #[.slice Ay0 ny0 cy0, .bool x0.s, .slice Ay1 ny1 cy1, .bool x1.s, .slice Ay2 ny2 cy2, .bool x2.s, .slice none 0 0, .bool false, .slice none 0 0, .bool false, .slice none 0 0, .bool false, .slice none 0 0, .bool false, .slice none 0 0, .bool false] := M18.tri_x (q := (wo.heap.size + 1 + 1 + 1)) (by omega)
            have YM19 := M19.tri_far (g := (wo.heap.size + 1)) (i := 4) (k := 5) (q := (wo.heap.size + 1 + 1 + 1)) (j := 2) (a := .slice Ay2 ny2 cy2) (b := .bool x2.s) (z := .int .i64 e2) (by omega) (by omega)
            have YM20 : Own (((wk.setCell ⟨(wo.heap.size + 1), 4, none⟩ (.slice Ay2 ny2 cy2)).setCell ⟨(wo.heap.size + 1), 5, none⟩ (.bool x2.s)).setCell ⟨(wo.heap.size + 1 + 1 + 1), 2, none⟩ (.int .i64 e2)) (wo.heap.size + 1 + 1 + 1) 51 #[.int .i64 e0, .int .i64 e1, .int .i64 e2, .int .i64 0, .int .i64 0, .int .i64 0, .int .i64 0, .int .i64 0] := M20.tri_e (g := (wo.heap.size + 1)) (by omega)
            replace M17 := Lib.hid YM17
            clear YM17
            replace M18 := Lib.hid YM18
            clear YM18
            replace M19 := Lib.hid YM19
            clear YM19
            replace M20 := Lib.hid YM20
            clear YM20
            replace Bn := Lib.hid (below_tri' (i := 4) (k := 5) (j := 2) (a := .slice Ay2 ny2 cy2) (b := .bool x2.s) (z := .int .i64 e2) Bn.out (show wo.heap.size ≤ (wo.heap.size + 1) by omega) (show wo.heap.size ≤ (wo.heap.size + 1 + 1 + 1) by omega))
            have tz : (((wk.setCell ⟨(wo.heap.size + 1), 4, none⟩ (.slice Ay2 ny2 cy2)).setCell ⟨(wo.heap.size + 1), 5, none⟩ (.bool x2.s)).setCell ⟨(wo.heap.size + 1 + 1 + 1), 2, none⟩ (.int .i64 e2)).heap.size = wk.heap.size := by simp
            have q6 := O6.out.step (below_step Bv.out Bn.out)
            have q60 := q6.cell 0
            have q61 := q6.cell 1
            clear q6
            have q7 := O7.out.step (below_step Bv.out Bn.out)
            have q70 := q7.cell 0
            have q71 := q7.cell 1
            clear q7
            have q8 := O8.out.step (below_step Bv.out Bn.out)
            have q80 := q8.cell 0
            have q81 := q8.cell 1
            clear q8
            have q13 := O13.out.step (below_step Bv.out Bn.out)
            have q130 := q13.cell 0
            have q131 := q13.cell 1
            clear q13
            have q14 := O14.out.step (below_step Bv.out Bn.out)
            have q140 := q14.cell 0
            have q141 := q14.cell 1
            clear q14
            have q15 := O15.out.step (below_step Bv.out Bn.out)
            have q150 := q15.cell 0
            have q151 := q15.cell 1
            clear q15
            go_wp2_with fail
            go_at_call 43
            generalize hW : (((wk.setCell ⟨(wo.heap.size + 1), 4, none⟩ (.slice Ay2 ny2 cy2)).setCell ⟨(wo.heap.size + 1), 5, none⟩ (.bool x2.s)).setCell ⟨(wo.heap.size + 1 + 1 + 1), 2, none⟩ (.int .i64 e2)) = v6 at *
            clear hW
            clear q60 q61 q70 q71 q80 q81 q130 q131 q140 q141 q150 q151
            refine (K6.out v6 _ (by assumption) (r13.out.step (below_step Bv.out Bn.out)) (r14.out.step (below_step Bv.out Bn.out)) (r15.out.step (below_step Bv.out Bn.out))).mono ?_
            rintro e wk ⟨Ax3, nx3, cx3, rfl, hcx3, hnx3, Nx3, hb⟩
            replace Nx3 := Nx3.mono (Nat.le_trans Bn.out.size (below_new (Below.refl _ v6) (.cells #[.slice A13 n13 c13, .bool s0, .slice A14 n14 c14, .bool s1, .slice A15 n15 c15, .bool s2] 24)).size)
            replace Bn := Lib.hid (below_step (below_new Bn.out (.cells #[.slice A13 n13 c13, .bool s0, .slice A14 n14 c14, .bool s1, .slice A15 n15 c15, .bool s2] 24)) hb)
            replace M17 := (M17.out.alloc (.cells #[.slice A13 n13 c13, .bool s0, .slice A14 n14 c14, .bool s1, .slice A15 n15 c15, .bool s2] 24)).step hb
            replace M18 := (M18.out.alloc (.cells #[.slice A13 n13 c13, .bool s0, .slice A14 n14 c14, .bool s1, .slice A15 n15 c15, .bool s2] 24)).step hb
            replace M19 := (M19.out.alloc (.cells #[.slice A13 n13 c13, .bool s0, .slice A14 n14 c14, .bool s1, .slice A15 n15 c15, .bool s2] 24)).step hb
            replace M20 := (M20.out.alloc (.cells #[.slice A13 n13 c13, .bool s0, .slice A14 n14 c14, .bool s1, .slice A15 n15 c15, .bool s2] 24)).step hb
            replace Nx0 := (Nx0.out.alloc (.cells #[.slice A13 n13 c13, .bool s0, .slice A14 n14 c14, .bool s1, .slice A15 n15 c15, .bool s2] 24)).step hb
            replace Ny0 := (Ny0.out.alloc (.cells #[.slice A13 n13 c13, .bool s0, .slice A14 n14 c14, .bool s1, .slice A15 n15 c15, .bool s2] 24)).step hb
            replace Nx1 := (Nx1.out.alloc (.cells #[.slice A13 n13 c13, .bool s0, .slice A14 n14 c14, .bool s1, .slice A15 n15 c15, .bool s2] 24)).step hb
            replace Ny1 := (Ny1.out.alloc (.cells #[.slice A13 n13 c13, .bool s0, .slice A14 n14 c14, .bool s1, .slice A15 n15 c15, .bool s2] 24)).step hb
            replace Nx2 := (Nx2.out.alloc (.cells #[.slice A13 n13 c13, .bool s0, .slice A14 n14 c14, .bool s1, .slice A15 n15 c15, .bool s2] 24)).step hb
            replace Ny2 := (Ny2.out.alloc (.cells #[.slice A13 n13 c13, .bool s0, .slice A14 n14 c14, .bool s1, .slice A15 n15 c15, .bool s2] 24)).step hb
            clear hb
            have k0 := M17.cell 6
            have k1 := M17.cell 7
            have f0 := M17.free 6
            have f1 := M17.free 7
            have D := (M19.far (p := ⟨wo.heap.size, 6, none⟩) (show (wo.heap.size + 1 + 1) ≠ wo.heap.size by omega) (.slice Ax3 nx3 cx3)).far (p := ⟨wo.heap.size, 7, none⟩) (show (wo.heap.size + 1 + 1) ≠ wo.heap.size by omega) (.bool x3.s)
            have k2 := D.cell 3
            have f2 := D.free 3
            replace Nx0 := Lib.hid ((Nx0.tri (i := 6) (k := 7) (j := 3) (a := .slice Ax3 nx3 cx3) (b := .bool x3.s) (z := .int .i64 e3) M17 (by decide) M19 (by decide) (by omega)))
            replace Ny0 := Lib.hid ((Ny0.tri (i := 6) (k := 7) (j := 3) (a := .slice Ax3 nx3 cx3) (b := .bool x3.s) (z := .int .i64 e3) M17 (by decide) M19 (by decide) (by omega)))
            replace Nx1 := Lib.hid ((Nx1.tri (i := 6) (k := 7) (j := 3) (a := .slice Ax3 nx3 cx3) (b := .bool x3.s) (z := .int .i64 e3) M17 (by decide) M19 (by decide) (by omega)))
            replace Ny1 := Lib.hid ((Ny1.tri (i := 6) (k := 7) (j := 3) (a := .slice Ax3 nx3 cx3) (b := .bool x3.s) (z := .int .i64 e3) M17 (by decide) M19 (by decide) (by omega)))
            replace Nx2 := Lib.hid ((Nx2.tri (i := 6) (k := 7) (j := 3) (a := .slice Ax3 nx3 cx3) (b := .bool x3.s) (z := .int .i64 e3) M17 (by decide) M19 (by decide) (by omega)))
            replace Ny2 := Lib.hid ((Ny2.tri (i := 6) (k := 7) (j := 3) (a := .slice Ax3 nx3 cx3) (b := .bool x3.s) (z := .int .i64 e3) M17 (by decide) M19 (by decide) (by omega)))
            replace Nx3 := Lib.hid ((Nx3.tri (i := 6) (k := 7) (j := 3) (a := .slice Ax3 nx3 cx3) (b := .bool x3.s) (z := .int .i64 e3) M17 (by decide) M19 (by decide) (by omega)))
            have YM17 : Own (((wk.setCell ⟨wo.heap.size, 6, none⟩ (.slice Ax3 nx3 cx3)).setCell ⟨wo.heap.size, 7, none⟩ (.bool x3.s)).setCell ⟨(wo.heap.size + 1 + 1), 3, none⟩ (.int .i64 e3)) wo.heap.size 50 #[.slice Ax0 nx0 cx0, .bool x0.s, .slice Ax1 nx1 cx1, .bool x1.s, .slice Ax2 nx2 cx2, .bool x2.s, .slice Ax3 nx3 cx3, .bool x3.s, .slice none 0 0, .bool false, .slice none 0 0, .bool false, .slice none 0 0, .bool false, .slice none 0 0, .bool false] := M17.tri_x (q := (wo.heap.size + 1 + 1)) (by omega)
            have YM18 := M18.tri_far (g := wo.heap.size) (i := 6) (k := 7) (q := (wo.heap.size + 1 + 1)) (j := 3) (a := .slice Ax3 nx3 cx3) (b := .bool x3.s) (z := .int .i64 e3) (by omega) (by omega)
            have YM19 : Own (((wk.setCell ⟨wo.heap.size, 6, none⟩ (.slice Ax3 nx3 cx3)).setCell ⟨wo.heap.size, 7, none⟩ (.bool x3.s)).setCell ⟨(wo.heap.size + 1 + 1), 3, none⟩ (.int .i64 e3)) (wo.heap.size + 1 + 1) 51 #[.int .i64 e0, .int .i64 e1, .int .i64 e2, .int .i64 e3, .int .i64 0, .int .i64 0, .int .i64 0, .int .i64 0] := M19.tri_e (g := wo.heap.size) (by omega)
            have YM20 := M20.tri_far (g := wo.heap.size) (i := 6) (k := 7) (q := (wo.heap.size + 1 + 1)) (j := 3) (a := .slice Ax3 nx3 cx3) (b := .bool x3.s) (z := .int .i64 e3) (by omega) (by omega)
            replace M17 := Lib.hid YM17
            clear YM17
            replace M18 := Lib.hid YM18
            clear YM18
            replace M19 := Lib.hid YM19
            clear YM19
            replace M20 := Lib.hid YM20
            clear YM20
            replace Bn := Lib.hid (below_tri' (i := 6) (k := 7) (j := 3) (a := .slice Ax3 nx3 cx3) (b := .bool x3.s) (z := .int .i64 e3) Bn.out (show wo.heap.size ≤ wo.heap.size by omega) (show wo.heap.size ≤ (wo.heap.size + 1 + 1) by omega))
            have tz : (((wk.setCell ⟨wo.heap.size, 6, none⟩ (.slice Ax3 nx3 cx3)).setCell ⟨wo.heap.size, 7, none⟩ (.bool x3.s)).setCell ⟨(wo.heap.size + 1 + 1), 3, none⟩ (.int .i64 e3)).heap.size = wk.heap.size := by simp
            have q6 := O6.out.step (below_step Bv.out Bn.out)
            have q60 := q6.cell 0
            have q61 := q6.cell 1
            clear q6
            have q7 := O7.out.step (below_step Bv.out Bn.out)
            have q70 := q7.cell 0
            have q71 := q7.cell 1
            clear q7
            have q8 := O8.out.step (below_step Bv.out Bn.out)
            have q80 := q8.cell 0
            have q81 := q8.cell 1
            clear q8
            have q13 := O13.out.step (below_step Bv.out Bn.out)
            have q130 := q13.cell 0
            have q131 := q13.cell 1
            clear q13
            have q14 := O14.out.step (below_step Bv.out Bn.out)
            have q140 := q14.cell 0
            have q141 := q14.cell 1
            clear q14
            have q15 := O15.out.step (below_step Bv.out Bn.out)
            have q150 := q15.cell 0
            have q151 := q15.cell 1
            clear q15
            go_wp2_with fail
            go_at_call 44
            generalize hW : (((wk.setCell ⟨wo.heap.size, 6, none⟩ (.slice Ax3 nx3 cx3)).setCell ⟨wo.heap.size, 7, none⟩ (.bool x3.s)).setCell ⟨(wo.heap.size + 1 + 1), 3, none⟩ (.int .i64 e3)) = v7 at *
            clear hW
            clear q60 q61 q70 q71 q80 q81 q130 q131 q140 q141 q150 q151
            refine (K7.out v7 _ (by assumption) (r0.out.step (below_step Bv.out Bn.out)) (r1.out.step (below_step Bv.out Bn.out)) (r2.out.step (below_step Bv.out Bn.out))).mono ?_
            rintro e wk ⟨Ay3, ny3, cy3, rfl, hcy3, hny3, Ny3, hb⟩
            replace Ny3 := Ny3.mono (Nat.le_trans Bn.out.size (below_new (Below.refl _ v7) (.cells #[.slice A0 n0 c0, .bool s0, .slice A1 n1 c1, .bool s1, .slice A2 n2 c2, .bool s2] 24)).size)
            replace Bn := Lib.hid (below_step (below_new Bn.out (.cells #[.slice A0 n0 c0, .bool s0, .slice A1 n1 c1, .bool s1, .slice A2 n2 c2, .bool s2] 24)) hb)
            replace M17 := (M17.out.alloc (.cells #[.slice A0 n0 c0, .bool s0, .slice A1 n1 c1, .bool s1, .slice A2 n2 c2, .bool s2] 24)).step hb
            replace M18 := (M18.out.alloc (.cells #[.slice A0 n0 c0, .bool s0, .slice A1 n1 c1, .bool s1, .slice A2 n2 c2, .bool s2] 24)).step hb
            replace M19 := (M19.out.alloc (.cells #[.slice A0 n0 c0, .bool s0, .slice A1 n1 c1, .bool s1, .slice A2 n2 c2, .bool s2] 24)).step hb
            replace M20 := (M20.out.alloc (.cells #[.slice A0 n0 c0, .bool s0, .slice A1 n1 c1, .bool s1, .slice A2 n2 c2, .bool s2] 24)).step hb
            replace Nx0 := (Nx0.out.alloc (.cells #[.slice A0 n0 c0, .bool s0, .slice A1 n1 c1, .bool s1, .slice A2 n2 c2, .bool s2] 24)).step hb
            replace Ny0 := (Ny0.out.alloc (.cells #[.slice A0 n0 c0, .bool s0, .slice A1 n1 c1, .bool s1, .slice A2 n2 c2, .bool s2] 24)).step hb
            replace Nx1 := (Nx1.out.alloc (.cells #[.slice A0 n0 c0, .bool s0, .slice A1 n1 c1, .bool s1, .slice A2 n2 c2, .bool s2] 24)).step hb
            replace Ny1 := (Ny1.out.alloc (.cells #[.slice A0 n0 c0, .bool s0, .slice A1 n1 c1, .bool s1, .slice A2 n2 c2, .bool s2] 24)).step hb
            replace Nx2 := (Nx2.out.alloc (.cells #[.slice A0 n0 c0, .bool s0, .slice A1 n1 c1, .bool s1, .slice A2 n2 c2, .bool s2] 24)).step hb
            replace Ny2 := (Ny2.out.alloc (.cells #[.slice A0 n0 c0, .bool s0, .slice A1 n1 c1, .bool s1, .slice A2 n2 c2, .bool s2] 24)).step hb
            replace Nx3 := (Nx3.out.alloc (.cells #[.slice A0 n0 c0, .bool s0, .slice A1 n1 c1, .bool s1, .slice A2 n2 c2, .bool s2] 24)).step hb
            clear hb
            have k0 := M18.cell 6
            have k1 := M18.cell 7
            have f0 := M18.free 6
            have f1 := M18.free 7
            have D := (M20.far (p := ⟨(wo.heap.size + 1), 6, none⟩) (show (wo.heap.size + 1 + 1 + 1) ≠ (wo.heap.size + 1) by omega) (.slice Ay3 ny3 cy3)).far (p := ⟨(wo.heap.size + 1), 7, none⟩) (show (wo.heap.size + 1 + 1 + 1) ≠ (wo.heap.size + 1) by omega) (.bool x3.s)
            have k2 := D.cell 3
            have f2 := D.free 3
            replace Nx0 := Lib.hid ((Nx0.tri (i := 6) (k := 7) (j := 3) (a := .slice Ay3 ny3 cy3) (b := .bool x3.s) (z := .int .i64 e3) M18 (by decide) M20 (by decide) (by omega)))
            replace Ny0 := Lib.hid ((Ny0.tri (i := 6) (k := 7) (j := 3) (a := .slice Ay3 ny3 cy3) (b := .bool x3.s) (z := .int .i64 e3) M18 (by decide) M20 (by decide) (by omega)))
            replace Nx1 := Lib.hid ((Nx1.tri (i := 6) (k := 7) (j := 3) (a := .slice Ay3 ny3 cy3) (b := .bool x3.s) (z := .int .i64 e3) M18 (by decide) M20 (by decide) (by omega)))
            replace Ny1 := Lib.hid ((Ny1.tri (i := 6) (k := 7) (j := 3) (a := .slice Ay3 ny3 cy3) (b := .bool x3.s) (z := .int .i64 e3) M18 (by decide) M20 (by decide) (by omega)))
            replace Nx2 := Lib.hid ((Nx2.tri (i := 6) (k := 7) (j := 3) (a := .slice Ay3 ny3 cy3) (b := .bool x3.s) (z := .int .i64 e3) M18 (by decide) M20 (by decide) (by omega)))
            replace Ny2 := Lib.hid ((Ny2.tri (i := 6) (k := 7) (j := 3) (a := .slice Ay3 ny3 cy3) (b := .bool x3.s) (z := .int .i64 e3) M18 (by decide) M20 (by decide) (by omega)))
            replace Nx3 := Lib.hid ((Nx3.tri (i := 6) (k := 7) (j := 3) (a := .slice Ay3 ny3 cy3) (b := .bool x3.s) (z := .int .i64 e3) M18 (by decide) M20 (by decide) (by omega)))
            replace Ny3 := Lib.hid ((Ny3.tri (i := 6) (k := 7) (j := 3) (a := .slice Ay3 ny3 cy3) (b := .bool x3.s) (z := .int .i64 e3) M18 (by decide) M20 (by decide) (by omega)))
            have YM17 := M17.tri_far (g := (wo.heap.size + 1)) (i := 6) (k := 7) (q := (wo.heap.size + 1 + 1 + 1)) (j := 3) (a := .slice Ay3 ny3 cy3) (b := .bool x3.s) (z := .int .i64 e3) (by omega) (by omega)
            have YM18 : Own (((wk.setCell ⟨(wo.heap.size + 1), 6, none⟩ (.slice Ay3 ny3 cy3)).setCell ⟨(wo.heap.size + 1), 7, none⟩ (.bool x3.s)).setCell ⟨(wo.heap.size + 1 + 1 + 1), 3, none⟩ (.int .i64 e3)) (wo.heap.size + 1) 50 #[.slice Ay0 ny0 cy0, .bool x0.s, .slice Ay1 ny1 cy1, .bool x1.s, .slice Ay2 ny2 cy2, .bool x2.s, .slice Ay3 ny3 cy3, .bool x3.s, .slice none 0 0, .bool false, .slice none 0 0, .bool false, .slice none 0 0, .bool false, .slice none 0 0, .bool false] := M18.tri_x (q := (wo.heap.size + 1 + 1 + 1)) (by omega)
            have YM19 := M19.tri_far (g := (wo.heap.size + 1)) (i := 6) (k := 7) (q := (wo.heap.size + 1 + 1 + 1)) (j := 3) (a := .slice Ay3 ny3 cy3) (b := .bool x3.s) (z := .int .i64 e3) (by omega) (by omega)
            have YM20 : Own (((wk.setCell ⟨(wo.heap.size + 1), 6, none⟩ (.slice Ay3 ny3 cy3)).setCell ⟨(wo.heap.size + 1), 7, none⟩ (.bool x3.s)).setCell ⟨(wo.heap.size + 1 + 1 + 1), 3, none⟩ (.int .i64 e3)) (wo.heap.size + 1 + 1 + 1) 51 #[.int .i64 e0, .int .i64 e1, .int .i64 e2, .int .i64 e3, .int .i64 0, .int .i64 0, .int .i64 0, .int .i64 0] := M20.tri_e (g := (wo.heap.size + 1)) (by omega)
            replace M17 := Lib.hid YM17
            clear YM17
            replace M18 := Lib.hid YM18
            clear YM18
            replace M19 := Lib.hid YM19
            clear YM19
            replace M20 := Lib.hid YM20
            clear YM20
            replace Bn := Lib.hid (below_tri' (i := 6) (k := 7) (j := 3) (a := .slice Ay3 ny3 cy3) (b := .bool x3.s) (z := .int .i64 e3) Bn.out (show wo.heap.size ≤ (wo.heap.size + 1) by omega) (show wo.heap.size ≤ (wo.heap.size + 1 + 1 + 1) by omega))
            have tz : (((wk.setCell ⟨(wo.heap.size + 1), 6, none⟩ (.slice Ay3 ny3 cy3)).setCell ⟨(wo.heap.size + 1), 7, none⟩ (.bool x3.s)).setCell ⟨(wo.heap.size + 1 + 1 + 1), 3, none⟩ (.int .i64 e3)).heap.size = wk.heap.size := by simp
            have q6 := O6.out.step (below_step Bv.out Bn.out)
            have q60 := q6.cell 0
            have q61 := q6.cell 1
            clear q6
            have q7 := O7.out.step (below_step Bv.out Bn.out)
            have q70 := q7.cell 0
            have q71 := q7.cell 1
            clear q7
            have q8 := O8.out.step (below_step Bv.out Bn.out)
            have q80 := q8.cell 0
            have q81 := q8.cell 1
            clear q8
            have q13 := O13.out.step (below_step Bv.out Bn.out)
            have q130 := q13.cell 0
            have q131 := q13.cell 1
            clear q13
            have q14 := O14.out.step (below_step Bv.out Bn.out)
            have q140 := q14.cell 0
            have q141 := q14.cell 1
            clear q14
            have q15 := O15.out.step (below_step Bv.out Bn.out)
            have q150 := q15.cell 0
            have q151 := q15.cell 1
            clear q15
            go_wp2_with fail
            go_at_call 45
            generalize hW : (((wk.setCell ⟨(wo.heap.size + 1), 6, none⟩ (.slice Ay3 ny3 cy3)).setCell ⟨(wo.heap.size + 1), 7, none⟩ (.bool x3.s)).setCell ⟨(wo.heap.size + 1 + 1 + 1), 3, none⟩ (.int .i64 e3)) = v8 at *
            clear hW
            clear q60 q61 q70 q71 q80 q81 q130 q131 q140 q141 q150 q151
            refine (K8.out v8 (r13.out.step (below_step Bv.out Bn.out))).mono ?_
            rintro e wk ⟨Ax4, nx4, cx4, rfl, hcx4, hnx4, Nx4, hb⟩
            replace Nx4 := Nx4.mono Bn.out.size
            replace Bn := Lib.hid (below_step Bn.out hb)
            replace M17 := M17.out.step hb
            replace M18 := M18.out.step hb
            replace M19 := M19.out.step hb
            replace M20 := M20.out.step hb
            replace Nx0 := Nx0.out.step hb
            replace Ny0 := Ny0.out.step hb
            replace Nx1 := Nx1.out.step hb
            replace Ny1 := Ny1.out.step hb
            replace Nx2 := Nx2.out.step hb
            replace Ny2 := Ny2.out.step hb
            replace Nx3 := Nx3.out.step hb
            replace Ny3 := Ny3.out.step hb
            clear hb
            have k0 := M17.cell 8
            have k1 := M17.cell 9
            have f0 := M17.free 8
            have f1 := M17.free 9
            have D := (M19.far (p := ⟨wo.heap.size, 8, none⟩) (show (wo.heap.size + 1 + 1) ≠ wo.heap.size by omega) (.slice Ax4 nx4 cx4)).far (p := ⟨wo.heap.size, 9, none⟩) (show (wo.heap.size + 1 + 1) ≠ wo.heap.size by omega) (.bool x4.s)
            have k2 := D.cell 4
            have f2 := D.free 4
            replace Nx0 := Lib.hid ((Nx0.tri (i := 8) (k := 9) (j := 4) (a := .slice Ax4 nx4 cx4) (b := .bool x4.s) (z := .int .i64 e4) M17 (by decide) M19 (by decide) (by omega)))
            replace Ny0 := Lib.hid ((Ny0.tri (i := 8) (k := 9) (j := 4) (a := .slice Ax4 nx4 cx4) (b := .bool x4.s) (z := .int .i64 e4) M17 (by decide) M19 (by decide) (by omega)))
            replace Nx1 := Lib.hid ((Nx1.tri (i := 8) (k := 9) (j := 4) (a := .slice Ax4 nx4 cx4) (b := .bool x4.s) (z := .int .i64 e4) M17 (by decide) M19 (by decide) (by omega)))
            replace Ny1 := Lib.hid ((Ny1.tri (i := 8) (k := 9) (j := 4) (a := .slice Ax4 nx4 cx4) (b := .bool x4.s) (z := .int .i64 e4) M17 (by decide) M19 (by decide) (by omega)))
            replace Nx2 := Lib.hid ((Nx2.tri (i := 8) (k := 9) (j := 4) (a := .slice Ax4 nx4 cx4) (b := .bool x4.s) (z := .int .i64 e4) M17 (by decide) M19 (by decide) (by omega)))
            replace Ny2 := Lib.hid ((Ny2.tri (i := 8) (k := 9) (j := 4) (a := .slice Ax4 nx4 cx4) (b := .bool x4.s) (z := .int .i64 e4) M17 (by decide) M19 (by decide) (by omega)))
            replace Nx3 := Lib.hid ((Nx3.tri (i := 8) (k := 9) (j := 4) (a := .slice Ax4 nx4 cx4) (b := .bool x4.s) (z := .int .i64 e4) M17 (by decide) M19 (by decide) (by omega)))
            replace Ny3 := Lib.hid ((Ny3.tri (i := 8) (k := 9) (j := 4) (a := .slice Ax4 nx4 cx4) (b := .bool x4.s) (z := .int .i64 e4) M17 (by decide) M19 (by decide) (by omega)))
            replace Nx4 := Lib.hid ((Nx4.tri (i := 8) (k := 9) (j := 4) (a := .slice Ax4 nx4 cx4) (b := .bool x4.s) (z := .int .i64 e4) M17 (by decide) M19 (by decide) (by omega)))
            have YM17 : Own (((wk.setCell ⟨wo.heap.size, 8, none⟩ (.slice Ax4 nx4 cx4)).setCell ⟨wo.heap.size, 9, none⟩ (.bool x4.s)).setCell ⟨(wo.heap.size + 1 + 1), 4, none⟩ (.int .i64 e4)) wo.heap.size 50 #[.slice Ax0 nx0 cx0, .bool x0.s, .slice Ax1 nx1 cx1, .bool x1.s, .slice Ax2 nx2 cx2, .bool x2.s, .slice Ax3 nx3 cx3, .bool x3.s, .slice Ax4 nx4 cx4, .bool x4.s, .slice none 0 0, .bool false, .slice none 0 0, .bool false, .slice none 0 0, .bool false] := M17.tri_x (q := (wo.heap.size + 1 + 1)) (by omega)
            have YM18 := M18.tri_far (g := wo.heap.size) (i := 8) (k := 9) (q := (wo.heap.size + 1 + 1)) (j := 4) (a := .slice Ax4 nx4 cx4) (b := .bool x4.s) (z := .int .i64 e4) (by omega) (by omega)
            have YM19 : Own (((wk.setCell ⟨wo.heap.size, 8, none⟩ (.slice Ax4 nx4 cx4)).setCell ⟨wo.heap.size, 9, none⟩ (.bool x4.s)).setCell ⟨(wo.heap.size + 1 + 1), 4, none⟩ (.int .i64 e4)) (wo.heap.size + 1 + 1) 51 #[.int .i64 e0, .int .i64 e1, .int .i64 e2, .int .i64 e3, .int .i64 e4, .int .i64 0, .int .i64 0, .int .i64 0] := M19.tri_e (g := wo.heap.size) (by omega)
            have YM20 := M20.tri_far (g := wo.heap.size) (i := 8) (k := 9) (q := (wo.heap.size + 1 + 1)) (j := 4) (a := .slice Ax4 nx4 cx4) (b := .bool x4.s) (z := .int .i64 e4) (by omega) (by omega)
            replace M17 := Lib.hid YM17
            clear YM17
            replace M18 := Lib.hid YM18
            clear YM18
            replace M19 := Lib.hid YM19
            clear YM19
            replace M20 := Lib.hid YM20
            clear YM20
            replace Bn := Lib.hid (below_tri' (i := 8) (k := 9) (j := 4) (a := .slice Ax4 nx4 cx4) (b := .bool x4.s) (z := .int .i64 e4) Bn.out (show wo.heap.size ≤ wo.heap.size by omega) (show wo.heap.size ≤ (wo.heap.size + 1 + 1) by omega))
            have tz : (((wk.setCell ⟨wo.heap.size, 8, none⟩ (.slice Ax4 nx4 cx4)).setCell ⟨wo.heap.size, 9, none⟩ (.bool x4.s)).setCell ⟨(wo.heap.size + 1 + 1), 4, none⟩ (.int .i64 e4)).heap.size = wk.heap.size := by simp
            have q6 := O6.out.step (below_step Bv.out Bn.out)
            have q60 := q6.cell 0
            have q61 := q6.cell 1
            clear q6
            have q7 := O7.out.step (below_step Bv.out Bn.out)
            have q70 := q7.cell 0
            have q71 := q7.cell 1
            clear q7
            have q8 := O8.out.step (below_step Bv.out Bn.out)
            have q80 := q8.cell 0
            have q81 := q8.cell 1
            clear q8
            have q13 := O13.out.step (below_step Bv.out Bn.out)
            have q130 := q13.cell 0
            have q131 := q13.cell 1
            clear q13
            have q14 := O14.out.step (below_step Bv.out Bn.out)
            have q140 := q14.cell 0
            have q141 := q14.cell 1
            clear q14
            have q15 := O15.out.step (below_step Bv.out Bn.out)
            have q150 := q15.cell 0
            have q151 := q15.cell 1
            clear q15
            go_wp2_with fail
            go_at_call 46
            generalize hW : (((wk.setCell ⟨wo.heap.size, 8, none⟩ (.slice Ax4 nx4 cx4)).setCell ⟨wo.heap.size, 9, none⟩ (.bool x4.s)).setCell ⟨(wo.heap.size + 1 + 1), 4, none⟩ (.int .i64 e4)) = v9 at *
            clear hW
            clear q60 q61 q70 q71 q80 q81 q130 q131 q140 q141 q150 q151
            refine (K9.out v9 (r0.out.step (below_step Bv.out Bn.out))).mono ?_
            rintro e wk ⟨Ay4, ny4, cy4, rfl, hcy4, hny4, Ny4, hb⟩
            replace Ny4 := Ny4.mono Bn.out.size
            replace Bn := Lib.hid (below_step Bn.out hb)
            replace M17 := M17.out.step hb
            replace M18 := M18.out.step hb
            replace M19 := M19.out.step hb
            replace M20 := M20.out.step hb
            replace Nx0 := Nx0.out.step hb
            replace Ny0 := Ny0.out.step hb
            replace Nx1 := Nx1.out.step hb
            replace Ny1 := Ny1.out.step hb
            replace Nx2 := Nx2.out.step hb
            replace Ny2 := Ny2.out.step hb
            replace Nx3 := Nx3.out.step hb
            replace Ny3 := Ny3.out.step hb
            replace Nx4 := Nx4.out.step hb
            clear hb
            have k0 := M18.cell 8
            have k1 := M18.cell 9
            have f0 := M18.free 8
            have f1 := M18.free 9
            have D := (M20.far (p := ⟨(wo.heap.size + 1), 8, none⟩) (show (wo.heap.size + 1 + 1 + 1) ≠ (wo.heap.size + 1) by omega) (.slice Ay4 ny4 cy4)).far (p := ⟨(wo.heap.size + 1), 9, none⟩) (show (wo.heap.size + 1 + 1 + 1) ≠ (wo.heap.size + 1) by omega) (.bool x4.s)
            have k2 := D.cell 4
            have f2 := D.free 4
            replace Nx0 := Lib.hid ((Nx0.tri (i := 8) (k := 9) (j := 4) (a := .slice Ay4 ny4 cy4) (b := .bool x4.s) (z := .int .i64 e4) M18 (by decide) M20 (by decide) (by omega)))
            replace Ny0 := Lib.hid ((Ny0.tri (i := 8) (k := 9) (j := 4) (a := .slice Ay4 ny4 cy4) (b := .bool x4.s) (z := .int .i64 e4) M18 (by decide) M20 (by decide) (by omega)))
            replace Nx1 := Lib.hid ((Nx1.tri (i := 8) (k := 9) (j := 4) (a := .slice Ay4 ny4 cy4) (b := .bool x4.s) (z := .int .i64 e4) M18 (by decide) M20 (by decide) (by omega)))
            replace Ny1 := Lib.hid ((Ny1.tri (i := 8) (k := 9) (j := 4) (a := .slice Ay4 ny4 cy4) (b := .bool x4.s) (z := .int .i64 e4) M18 (by decide) M20 (by decide) (by omega)))
            replace Nx2 := Lib.hid ((Nx2.tri (i := 8) (k := 9) (j := 4) (a := .slice Ay4 ny4 cy4) (b := .bool x4.s) (z := .int .i64 e4) M18 (by decide) M20 (by decide) (by omega)))
            replace Ny2 := Lib.hid ((Ny2.tri (i := 8) (k := 9) (j := 4) (a := .slice Ay4 ny4 cy4) (b := .bool x4.s) (z := .int .i64 e4) M18 (by decide) M20 (by decide) (by omega)))
            replace Nx3 := Lib.hid ((Nx3.tri (i := 8) (k := 9) (j := 4) (a := .slice Ay4 ny4 cy4) (b := .bool x4.s) (z := .int .i64 e4) M18 (by decide) M20 (by decide) (by omega)))
            replace Ny3 := Lib.hid ((Ny3.tri (i := 8) (k := 9) (j := 4) (a := .slice Ay4 ny4 cy4) (b := .bool x4.s) (z := .int .i64 e4) M18 (by decide) M20 (by decide) (by omega)))
            replace Nx4 := Lib.hid ((Nx4.tri (i := 8) (k := 9) (j := 4) (a := .slice Ay4 ny4 cy4) (b := .bool x4.s) (z := .int .i64 e4) M18 (by decide) M20 (by decide) (by omega)))
            replace Ny4 := Lib.hid ((Ny4.tri (i := 8) (k := 9) (j := 4) (a := .slice Ay4 ny4 cy4) (b := .bool x4.s) (z := .int .i64 e4) M18 (by decide) M20 (by decide) (by omega)))
            have YM17 := M17.tri_far (g := (wo.heap.size + 1)) (i := 8) (k := 9) (q := (wo.heap.size + 1 + 1 + 1)) (j := 4) (a := .slice Ay4 ny4 cy4) (b := .bool x4.s) (z := .int .i64 e4) (by omega) (by omega)
            have YM18 : Own (((wk.setCell ⟨(wo.heap.size + 1), 8, none⟩ (.slice Ay4 ny4 cy4)).setCell ⟨(wo.heap.size + 1), 9, none⟩ (.bool x4.s)).setCell ⟨(wo.heap.size + 1 + 1 + 1), 4, none⟩ (.int .i64 e4)) (wo.heap.size + 1) 50 #[.slice Ay0 ny0 cy0, .bool x0.s, .slice Ay1 ny1 cy1, .bool x1.s, .slice Ay2 ny2 cy2, .bool x2.s, .slice Ay3 ny3 cy3, .bool x3.s, .slice Ay4 ny4 cy4, .bool x4.s, .slice none 0 0, .bool false, .slice none 0 0, .bool false, .slice none 0 0, .bool false] := M18.tri_x (q := (wo.heap.size + 1 + 1 + 1)) (by omega)
            have YM19 := M19.tri_far (g := (wo.heap.size + 1)) (i := 8) (k := 9) (q := (wo.heap.size + 1 + 1 + 1)) (j := 4) (a := .slice Ay4 ny4 cy4) (b := .bool x4.s) (z := .int .i64 e4) (by omega) (by omega)
            have YM20 : Own (((wk.setCell ⟨(wo.heap.size + 1), 8, none⟩ (.slice Ay4 ny4 cy4)).setCell ⟨(wo.heap.size + 1), 9, none⟩ (.bool x4.s)).setCell ⟨(wo.heap.size + 1 + 1 + 1), 4, none⟩ (.int .i64 e4)) (wo.heap.size + 1 + 1 + 1) 51 #[.int .i64 e0, .int .i64 e1, .int .i64 e2, .int .i64 e3, .int .i64 e4, .int .i64 0, .int .i64 0, .int .i64 0] := M20.tri_e (g := (wo.heap.size + 1)) (by omega)
            replace M17 := Lib.hid YM17
            clear YM17
            replace M18 := Lib.hid YM18
            clear YM18
            replace M19 := Lib.hid YM19
            clear YM19
            replace M20 := Lib.hid YM20
            clear YM20
            replace Bn := Lib.hid (below_tri' (i := 8) (k := 9) (j := 4) (a := .slice Ay4 ny4 cy4) (b := .bool x4.s) (z := .int .i64 e4) Bn.out (show wo.heap.size ≤ (wo.heap.size + 1) by omega) (show wo.heap.size ≤ (wo.heap.size + 1 + 1 + 1) by omega))
            have tz : (((wk.setCell ⟨(wo.heap.size + 1), 8, none⟩ (.slice Ay4 ny4 cy4)).setCell ⟨(wo.heap.size + 1), 9, none⟩ (.bool x4.s)).setCell ⟨(wo.heap.size + 1 + 1 + 1), 4, none⟩ (.int .i64 e4)).heap.size = wk.heap.size := by simp
            have q6 := O6.out.step (below_step Bv.out Bn.out)
            have q60 := q6.cell 0
            have q61 := q6.cell 1
            clear q6
            have q7 := O7.out.step (below_step Bv.out Bn.out)
            have q70 := q7.cell 0
            have q71 := q7.cell 1
            clear q7
            have q8 := O8.out.step (below_step Bv.out Bn.out)
            have q80 := q8.cell 0
            have q81 := q8.cell 1
            clear q8
            have q13 := O13.out.step (below_step Bv.out Bn.out)
            have q130 := q13.cell 0
            have q131 := q13.cell 1
            clear q13
            have q14 := O14.out.step (below_step Bv.out Bn.out)
            have q140 := q14.cell 0
            have q141 := q14.cell 1
            clear q14
            have q15 := O15.out.step (below_step Bv.out Bn.out)
            have q150 := q15.cell 0
            have q151 := q15.cell 1
            clear q15
            go_wp2_with fail
            go_at_call 47
            generalize hW : (((wk.setCell ⟨(wo.heap.size + 1), 8, none⟩ (.slice Ay4 ny4 cy4)).setCell ⟨(wo.heap.size + 1), 9, none⟩ (.bool x4.s)).setCell ⟨(wo.heap.size + 1 + 1 + 1), 4, none⟩ (.int .i64 e4)) = v10 at *
            clear hW
            clear q60 q61 q70 q71 q80 q81 q130 q131 q140 q141 q150 q151
            refine (K10.out v10 (r13.out.step (below_step Bv.out Bn.out))).mono ?_
            rintro e wk ⟨Ax5, nx5, cx5, rfl, hcx5, hnx5, Nx5, hb⟩
            replace Nx5 := Nx5.mono Bn.out.size
            replace Bn := Lib.hid (below_step Bn.out hb)
            replace M17 := M17.out.step hb
            replace M18 := M18.out.step hb
            replace M19 := M19.out.step hb
            replace M20 := M20.out.step hb
            replace Nx0 := Nx0.out.step hb
            replace Ny0 := Ny0.out.step hb
            replace Nx1 := Nx1.out.step hb
            replace Ny1 := Ny1.out.step hb
            replace Nx2 := Nx2.out.step hb
            replace Ny2 := Ny2.out.step hb
            replace Nx3 := Nx3.out.step hb
            replace Ny3 := Ny3.out.step hb
            replace Nx4 := Nx4.out.step hb
            replace Ny4 := Ny4.out.step hb
            clear hb
            have k0 := M17.cell 10
            have k1 := M17.cell 11
            have f0 := M17.free 10
            have f1 := M17.free 11
            have D := (M19.far (p := ⟨wo.heap.size, 10, none⟩) (show (wo.heap.size + 1 + 1) ≠ wo.heap.size by omega) (.slice Ax5 nx5 cx5)).far (p := ⟨wo.heap.size, 11, none⟩) (show (wo.heap.size + 1 + 1) ≠ wo.heap.size by omega) (.bool x5.s)
            have k2 := D.cell 5
            have f2 := D.free 5
            replace Nx0 := Lib.hid ((Nx0.tri (i := 10) (k := 11) (j := 5) (a := .slice Ax5 nx5 cx5) (b := .bool x5.s) (z := .int .i64 e5) M17 (by decide) M19 (by decide) (by omega)))
            replace Ny0 := Lib.hid ((Ny0.tri (i := 10) (k := 11) (j := 5) (a := .slice Ax5 nx5 cx5) (b := .bool x5.s) (z := .int .i64 e5) M17 (by decide) M19 (by decide) (by omega)))
            replace Nx1 := Lib.hid ((Nx1.tri (i := 10) (k := 11) (j := 5) (a := .slice Ax5 nx5 cx5) (b := .bool x5.s) (z := .int .i64 e5) M17 (by decide) M19 (by decide) (by omega)))
            replace Ny1 := Lib.hid ((Ny1.tri (i := 10) (k := 11) (j := 5) (a := .slice Ax5 nx5 cx5) (b := .bool x5.s) (z := .int .i64 e5) M17 (by decide) M19 (by decide) (by omega)))
            replace Nx2 := Lib.hid ((Nx2.tri (i := 10) (k := 11) (j := 5) (a := .slice Ax5 nx5 cx5) (b := .bool x5.s) (z := .int .i64 e5) M17 (by decide) M19 (by decide) (by omega)))
            replace Ny2 := Lib.hid ((Ny2.tri (i := 10) (k := 11) (j := 5) (a := .slice Ax5 nx5 cx5) (b := .bool x5.s) (z := .int .i64 e5) M17 (by decide) M19 (by decide) (by omega)))
            replace Nx3 := Lib.hid ((Nx3.tri (i := 10) (k := 11) (j := 5) (a := .slice Ax5 nx5 cx5) (b := .bool x5.s) (z := .int .i64 e5) M17 (by decide) M19 (by decide) (by omega)))
            replace Ny3 := Lib.hid ((Ny3.tri (i := 10) (k := 11) (j := 5) (a := .slice Ax5 nx5 cx5) (b := .bool x5.s) (z := .int .i64 e5) M17 (by decide) M19 (by decide) (by omega)))
            replace Nx4 := Lib.hid ((Nx4.tri (i := 10) (k := 11) (j := 5) (a := .slice Ax5 nx5 cx5) (b := .bool x5.s) (z := .int .i64 e5) M17 (by decide) M19 (by decide) (by omega)))
            replace Ny4 := Lib.hid ((Ny4.tri (i := 10) (k := 11) (j := 5) (a := .slice Ax5 nx5 cx5) (b := .bool x5.s) (z := .int .i64 e5) M17 (by decide) M19 (by decide) (by omega)))
            replace Nx5 := Lib.hid ((Nx5.tri (i := 10) (k := 11) (j := 5) (a := .slice Ax5 nx5 cx5) (b := .bool x5.s) (z := .int .i64 e5) M17 (by decide) M19 (by decide) (by omega)))
            have YM17 : Own (((wk.setCell ⟨wo.heap.size, 10, none⟩ (.slice Ax5 nx5 cx5)).setCell ⟨wo.heap.size, 11, none⟩ (.bool x5.s)).setCell ⟨(wo.heap.size + 1 + 1), 5, none⟩ (.int .i64 e5)) wo.heap.size 50 #[.slice Ax0 nx0 cx0, .bool x0.s, .slice Ax1 nx1 cx1, .bool x1.s, .slice Ax2 nx2 cx2, .bool x2.s, .slice Ax3 nx3 cx3, .bool x3.s, .slice Ax4 nx4 cx4, .bool x4.s, .slice Ax5 nx5 cx5, .bool x5.s, .slice none 0 0, .bool false, .slice none 0 0, .bool false] := M17.tri_x (q := (wo.heap.size + 1 + 1)) (by omega)
            have YM18 := M18.tri_far (g := wo.heap.size) (i := 10) (k := 11) (q := (wo.heap.size + 1 + 1)) (j := 5) (a := .slice Ax5 nx5 cx5) (b := .bool x5.s) (z := .int .i64 e5) (by omega) (by omega)
            have YM19 : Own (((wk.setCell ⟨wo.heap.size, 10, none⟩ (.slice Ax5 nx5 cx5)).setCell ⟨wo.heap.size, 11, none⟩ (.bool x5.s)).setCell ⟨(wo.heap.size + 1 + 1), 5, none⟩ (.int .i64 e5)) (wo.heap.size + 1 + 1) 51 #[.int .i64 e0, .int .i64 e1, .int .i64 e2, .int .i64 e3, .int .i64 e4, .int .i64 e5, .int .i64 0, .int .i64 0] := M19.tri_e (g := wo.heap.size) (by omega)
            have YM20 := M20.tri_far (g := wo.heap.size) (i := 10) (k := 11) (q := (wo.heap.size + 1 + 1)) (j := 5) (a := .slice Ax5 nx5 cx5) (b := .bool x5.s) (z := .int .i64 e5) (by omega) (by omega)
            replace M17 := Lib.hid YM17
            clear YM17
            replace M18 := Lib.hid YM18
            clear YM18
            replace M19 := Lib.hid YM19
            clear YM19
            replace M20 := Lib.hid YM20
            clear YM20
            replace Bn := Lib.hid (below_tri' (i := 10) (k := 11) (j := 5) (a := .slice Ax5 nx5 cx5) (b := .bool x5.s) (z := .int .i64 e5) Bn.out (show wo.heap.size ≤ wo.heap.size by omega) (show wo.heap.size ≤ (wo.heap.size + 1 + 1) by omega))
            have tz : (((wk.setCell ⟨wo.heap.size, 10, none⟩ (.slice Ax5 nx5 cx5)).setCell ⟨wo.heap.size, 11, none⟩ (.bool x5.s)).setCell ⟨(wo.heap.size + 1 + 1), 5, none⟩ (.int .i64 e5)).heap.size = wk.heap.size := by simp
            have q6 := O6.out.step (below_step Bv.out Bn.out)
            have q60 := q6.cell 0
            have q61 := q6.cell 1
            clear q6
            have q7 := O7.out.step (below_step Bv.out Bn.out)
            have q70 := q7.cell 0
            have q71 := q7.cell 1
            clear q7
            have q8 := O8.out.step (below_step Bv.out Bn.out)
            have q80 := q8.cell 0
            have q81 := q8.cell 1
            clear q8
            have q13 := O13.out.step (below_step Bv.out Bn.out)
            have q130 := q13.cell 0
            have q131 := q13.cell 1
            clear q13
            have q14 := O14.out.step (below_step Bv.out Bn.out)
            have q140 := q14.cell 0
            have q141 := q14.cell 1
            clear q14
            have q15 := O15.out.step (below_step Bv.out Bn.out)
            have q150 := q15.cell 0
            have q151 := q15.cell 1
            clear q15
            go_wp2_with fail
            go_at_call 48
            generalize hW : (((wk.setCell ⟨wo.heap.size, 10, none⟩ (.slice Ax5 nx5 cx5)).setCell ⟨wo.heap.size, 11, none⟩ (.bool x5.s)).setCell ⟨(wo.heap.size + 1 + 1), 5, none⟩ (.int .i64 e5)) = v11 at *
            clear hW
            clear q60 q61 q70 q71 q80 q81 q130 q131 q140 q141 q150 q151
            refine (K11.out v11 (r0.out.step (below_step Bv.out Bn.out))).mono ?_
            rintro e wk ⟨Ay5, ny5, cy5, rfl, hcy5, hny5, Ny5, hb⟩
            replace Ny5 := Ny5.mono Bn.out.size
            replace Bn := Lib.hid (below_step Bn.out hb)
            replace M17 := M17.out.step hb
            replace M18 := M18.out.step hb
            replace M19 := M19.out.step hb
            replace M20 := M20.out.step hb
            replace Nx0 := Nx0.out.step hb
            replace Ny0 := Ny0.out.step hb
            replace Nx1 := Nx1.out.step hb
            replace Ny1 := Ny1.out.step hb
            replace Nx2 := Nx2.out.step hb
            replace Ny2 := Ny2.out.step hb
            replace Nx3 := Nx3.out.step hb
            replace Ny3 := Ny3.out.step hb
            replace Nx4 := Nx4.out.step hb
            replace Ny4 := Ny4.out.step hb
            replace Nx5 := Nx5.out.step hb
            clear hb
            have k0 := M18.cell 10
            have k1 := M18.cell 11
            have f0 := M18.free 10
            have f1 := M18.free 11
            have D := (M20.far (p := ⟨(wo.heap.size + 1), 10, none⟩) (show (wo.heap.size + 1 + 1 + 1) ≠ (wo.heap.size + 1) by omega) (.slice Ay5 ny5 cy5)).far (p := ⟨(wo.heap.size + 1), 11, none⟩) (show (wo.heap.size + 1 + 1 + 1) ≠ (wo.heap.size + 1) by omega) (.bool x5.s)
            have k2 := D.cell 5
            have f2 := D.free 5
            replace Nx0 := Lib.hid ((Nx0.tri (i := 10) (k := 11) (j := 5) (a := .slice Ay5 ny5 cy5) (b := .bool x5.s) (z := .int .i64 e5) M18 (by decide) M20 (by decide) (by omega)))
            replace Ny0 := Lib.hid ((Ny0.tri (i := 10) (k := 11) (j := 5) (a := .slice Ay5 ny5 cy5) (b := .bool x5.s) (z := .int .i64 e5) M18 (by decide) M20 (by decide) (by omega)))
            replace Nx1 := Lib.hid ((Nx1.tri (i := 10) (k := 11) (j := 5) (a := .slice Ay5 ny5 cy5) (b := .bool x5.s) (z := .int .i64 e5) M18 (by decide) M20 (by decide) (by omega)))
            replace Ny1 := Lib.hid ((Ny1.tri (i := 10) (k := 11) (j := 5) (a := .slice Ay5 ny5 cy5) (b := .bool x5.s) (z := .int .i64 e5) M18 (by decide) M20 (by decide) (by omega)))
            replace Nx2 := Lib.hid ((Nx2.tri (i := 10) (k := 11) (j := 5) (a := .slice Ay5 ny5 cy5) (b := .bool x5.s) (z := .int .i64 e5) M18 (by decide) M20 (by decide) (by omega)))
            replace Ny2 := Lib.hid ((Ny2.tri (i := 10) (k := 11) (j := 5) (a := .slice Ay5 ny5 cy5) (b := .bool x5.s) (z := .int .i64 e5) M18 (by decide) M20 (by decide) (by omega)))
            replace Nx3 := Lib.hid ((Nx3.tri (i := 10) (k := 11) (j := 5) (a := .slice Ay5 ny5 cy5) (b := .bool x5.s) (z := .int .i64 e5) M18 (by decide) M20 (by decide) (by omega)))
            replace Ny3 := Lib.hid ((Ny3.tri (i := 10) (k := 11) (j := 5) (a := .slice Ay5 ny5 cy5) (b := .bool x5.s) (z := .int .i64 e5) M18 (by decide) M20 (by decide) (by omega)))
            replace Nx4 := Lib.hid ((Nx4.tri (i := 10) (k := 11) (j := 5) (a := .slice Ay5 ny5 cy5) (b := .bool x5.s) (z := .int .i64 e5) M18 (by decide) M20 (by decide) (by omega)))
            replace Ny4 := Lib.hid ((Ny4.tri (i := 10) (k := 11) (j := 5) (a := .slice Ay5 ny5 cy5) (b := .bool x5.s) (z := .int .i64 e5) M18 (by decide) M20 (by decide) (by omega)))
            replace Nx5 := Lib.hid ((Nx5.tri (i := 10) (k := 11) (j := 5) (a := .slice Ay5 ny5 cy5) (b := .bool x5.s) (z := .int .i64 e5) M18 (by decide) M20 (by decide) (by omega)))
            replace Ny5 := Lib.hid ((Ny5.tri (i := 10) (k := 11) (j := 5) (a := .slice Ay5 ny5 cy5) (b := .bool x5.s) (z := .int .i64 e5) M18 (by decide) M20 (by decide) (by omega)))
            have YM17 := M17.tri_far (g := (wo.heap.size + 1)) (i := 10) (k := 11) (q := (wo.heap.size + 1 + 1 + 1)) (j := 5) (a := .slice Ay5 ny5 cy5) (b := .bool x5.s) (z := .int .i64 e5) (by omega) (by omega)
            have YM18 : Own (((wk.setCell ⟨(wo.heap.size + 1), 10, none⟩ (.slice Ay5 ny5 cy5)).setCell ⟨(wo.heap.size + 1), 11, none⟩ (.bool x5.s)).setCell ⟨(wo.heap.size + 1 + 1 + 1), 5, none⟩ (.int .i64 e5)) (wo.heap.size + 1) 50 #[.slice Ay0 ny0 cy0, .bool x0.s, .slice Ay1 ny1 cy1, .bool x1.s, .slice Ay2 ny2 cy2, .bool x2.s, .slice Ay3 ny3 cy3, .bool x3.s, .slice Ay4 ny4 cy4, .bool x4.s, .slice Ay5 ny5 cy5, .bool x5.s, .slice none 0 0, .bool false, .slice none 0 0, .bool false] := M18.tri_x (q := (wo.heap.size + 1 + 1 + 1)) (by omega)
            have YM19 := M19.tri_far (g := (wo.heap.size + 1)) (i := 10) (k := 11) (q := (wo.heap.size + 1 + 1 + 1)) (j := 5) (a := .slice Ay5 ny5 cy5) (b := .bool x5.s) (z := .int .i64 e5) (by omega) (by omega)
            have YM20 : Own (((wk.setCell ⟨(wo.heap.size + 1), 10, none⟩ (.slice Ay5 ny5 cy5)).setCell ⟨(wo.heap.size + 1), 11, none⟩ (.bool x5.s)).setCell ⟨(wo.heap.size + 1 + 1 + 1), 5, none⟩ (.int .i64 e5)) (wo.heap.size + 1 + 1 + 1) 51 #[.int .i64 e0, .int .i64 e1, .int .i64 e2, .int .i64 e3, .int .i64 e4, .int .i64 e5, .int .i64 0, .int .i64 0] := M20.tri_e (g := (wo.heap.size + 1)) (by omega)
            replace M17 := Lib.hid YM17
            clear YM17
            replace M18 := Lib.hid YM18
            clear YM18
            replace M19 := Lib.hid YM19
            clear YM19
            replace M20 := Lib.hid YM20
            clear YM20
            replace Bn := Lib.hid (below_tri' (i := 10) (k := 11) (j := 5) (a := .slice Ay5 ny5 cy5) (b := .bool x5.s) (z := .int .i64 e5) Bn.out (show wo.heap.size ≤ (wo.heap.size + 1) by omega) (show wo.heap.size ≤ (wo.heap.size + 1 + 1 + 1) by omega))
            have tz : (((wk.setCell ⟨(wo.heap.size + 1), 10, none⟩ (.slice Ay5 ny5 cy5)).setCell ⟨(wo.heap.size + 1), 11, none⟩ (.bool x5.s)).setCell ⟨(wo.heap.size + 1 + 1 + 1), 5, none⟩ (.int .i64 e5)).heap.size = wk.heap.size := by simp
            have q6 := O6.out.step (below_step Bv.out Bn.out)
            have q60 := q6.cell 0
            have q61 := q6.cell 1
            clear q6
            have q7 := O7.out.step (below_step Bv.out Bn.out)
            have q70 := q7.cell 0
            have q71 := q7.cell 1
            clear q7
            have q8 := O8.out.step (below_step Bv.out Bn.out)
            have q80 := q8.cell 0
            have q81 := q8.cell 1
            clear q8
            have q13 := O13.out.step (below_step Bv.out Bn.out)
            have q130 := q13.cell 0
            have q131 := q13.cell 1
            clear q13
            have q14 := O14.out.step (below_step Bv.out Bn.out)
            have q140 := q14.cell 0
            have q141 := q14.cell 1
            clear q14
            have q15 := O15.out.step (below_step Bv.out Bn.out)
            have q150 := q15.cell 0
            have q151 := q15.cell 1
            clear q15
            go_wp2_with fail
            go_at_call 49
            generalize hW : (((wk.setCell ⟨(wo.heap.size + 1), 10, none⟩ (.slice Ay5 ny5 cy5)).setCell ⟨(wo.heap.size + 1), 11, none⟩ (.bool x5.s)).setCell ⟨(wo.heap.size + 1 + 1 + 1), 5, none⟩ (.int .i64 e5)) = v12 at *
            clear hW
            clear q60 q61 q70 q71 q80 q81 q130 q131 q140 q141 q150 q151
            refine (K12.out v12 (r13.out.step (below_step Bv.out Bn.out)) (r14.out.step (below_step Bv.out Bn.out))).mono ?_
            rintro e wk ⟨Ax6, nx6, cx6, rfl, hcx6, hnx6, Nx6, hb⟩
            replace Nx6 := Nx6.mono Bn.out.size
            replace Bn := Lib.hid (below_step Bn.out hb)
            replace M17 := M17.out.step hb
            replace M18 := M18.out.step hb
            replace M19 := M19.out.step hb
            replace M20 := M20.out.step hb
            replace Nx0 := Nx0.out.step hb
            replace Ny0 := Ny0.out.step hb
            replace Nx1 := Nx1.out.step hb
            replace Ny1 := Ny1.out.step hb
            replace Nx2 := Nx2.out.step hb
            replace Ny2 := Ny2.out.step hb
            replace Nx3 := Nx3.out.step hb
            replace Ny3 := Ny3.out.step hb
            replace Nx4 := Nx4.out.step hb
            replace Ny4 := Ny4.out.step hb
            replace Nx5 := Nx5.out.step hb
            replace Ny5 := Ny5.out.step hb
            clear hb
            have k0 := M17.cell 12
            have k1 := M17.cell 13
            have f0 := M17.free 12
            have f1 := M17.free 13
            have D := (M19.far (p := ⟨wo.heap.size, 12, none⟩) (show (wo.heap.size + 1 + 1) ≠ wo.heap.size by omega) (.slice Ax6 nx6 cx6)).far (p := ⟨wo.heap.size, 13, none⟩) (show (wo.heap.size + 1 + 1) ≠ wo.heap.size by omega) (.bool x6.s)
            have k2 := D.cell 6
            have f2 := D.free 6
            replace Nx0 := Lib.hid ((Nx0.tri (i := 12) (k := 13) (j := 6) (a := .slice Ax6 nx6 cx6) (b := .bool x6.s) (z := .int .i64 e6) M17 (by decide) M19 (by decide) (by omega)))
            replace Ny0 := Lib.hid ((Ny0.tri (i := 12) (k := 13) (j := 6) (a := .slice Ax6 nx6 cx6) (b := .bool x6.s) (z := .int .i64 e6) M17 (by decide) M19 (by decide) (by omega)))
            replace Nx1 := Lib.hid ((Nx1.tri (i := 12) (k := 13) (j := 6) (a := .slice Ax6 nx6 cx6) (b := .bool x6.s) (z := .int .i64 e6) M17 (by decide) M19 (by decide) (by omega)))
            replace Ny1 := Lib.hid ((Ny1.tri (i := 12) (k := 13) (j := 6) (a := .slice Ax6 nx6 cx6) (b := .bool x6.s) (z := .int .i64 e6) M17 (by decide) M19 (by decide) (by omega)))
            replace Nx2 := Lib.hid ((Nx2.tri (i := 12) (k := 13) (j := 6) (a := .slice Ax6 nx6 cx6) (b := .bool x6.s) (z := .int .i64 e6) M17 (by decide) M19 (by decide) (by omega)))
            replace Ny2 := Lib.hid ((Ny2.tri (i := 12) (k := 13) (j := 6) (a := .slice Ax6 nx6 cx6) (b := .bool x6.s) (z := .int .i64 e6) M17 (by decide) M19 (by decide) (by omega)))
            replace Nx3 := Lib.hid ((Nx3.tri (i := 12) (k := 13) (j := 6) (a := .slice Ax6 nx6 cx6) (b := .bool x6.s) (z := .int .i64 e6) M17 (by decide) M19 (by decide) (by omega)))
            replace Ny3 := Lib.hid ((Ny3.tri (i := 12) (k := 13) (j := 6) (a := .slice Ax6 nx6 cx6) (b := .bool x6.s) (z := .int .i64 e6) M17 (by decide) M19 (by decide) (by omega)))
            replace Nx4 := Lib.hid ((Nx4.tri (i := 12) (k := 13) (j := 6) (a := .slice Ax6 nx6 cx6) (b := .bool x6.s) (z := .int .i64 e6) M17 (by decide) M19 (by decide) (by omega)))
            replace Ny4 := Lib.hid ((Ny4.tri (i := 12) (k := 13) (j := 6) (a := .slice Ax6 nx6 cx6) (b := .bool x6.s) (z := .int .i64 e6) M17 (by decide) M19 (by decide) (by omega)))
            replace Nx5 := Lib.hid ((Nx5.tri (i := 12) (k := 13) (j := 6) (a := .slice Ax6 nx6 cx6) (b := .bool x6.s) (z := .int .i64 e6) M17 (by decide) M19 (by decide) (by omega)))
            replace Ny5 := Lib.hid ((Ny5.tri (i := 12) (k := 13) (j := 6) (a := .slice Ax6 nx6 cx6) (b := .bool x6.s) (z := .int .i64 e6) M17 (by decide) M19 (by decide) (by omega)))
            replace Nx6 := Lib.hid ((Nx6.tri (i := 12) (k := 13) (j := 6) (a := .slice Ax6 nx6 cx6) (b := .bool x6.s) (z := .int .i64 e6) M17 (by decide) M19 (by decide) (by omega)))
            have YM17 : Own (((wk.setCell ⟨wo.heap.size, 12, none⟩ (.slice Ax6 nx6 cx6)).setCell ⟨wo.heap.size, 13, none⟩ (.bool x6.s)).setCell ⟨(wo.heap.size + 1 + 1), 6, none⟩ (.int .i64 e6)) wo.heap.size 50 #[.slice Ax0 nx0 cx0, .bool x0.s, .slice Ax1 nx1 cx1, .bool x1.s, .slice Ax2 nx2 cx2, .bool x2.s, .slice Ax3 nx3 cx3, .bool x3.s, .slice Ax4 nx4 cx4, .bool x4.s, .slice Ax5 nx5 cx5, .bool x5.s, .slice Ax6 nx6 cx6, .bool x6.s, .slice none 0 0, .bool false] := M17.tri_x (q := (wo.heap.size + 1 + 1)) (by omega)
            have YM18 := M18.tri_far (g := wo.heap.size) (i := 12) (k := 13) (q := (wo.heap.size + 1 + 1)) (j := 6) (a := .slice Ax6 nx6 cx6) (b := .bool x6.s) (z := .int .i64 e6) (by omega) (by omega)
            have YM19 : Own (((wk.setCell ⟨wo.heap.size, 12, none⟩ (.slice Ax6 nx6 cx6)).setCell ⟨wo.heap.size, 13, none⟩ (.bool x6.s)).setCell ⟨(wo.heap.size + 1 + 1), 6, none⟩ (.int .i64 e6)) (wo.heap.size + 1 + 1) 51 #[.int .i64 e0, .int .i64 e1, .int .i64 e2, .int .i64 e3, .int .i64 e4, .int .i64 e5, .int .i64 e6, .int .i64 0] := M19.tri_e (g := wo.heap.size) (by omega)
            have YM20 := M20.tri_far (g := wo.heap.size) (i := 12) (k := 13) (q := (wo.heap.size + 1 + 1)) (j := 6) (a := .slice Ax6 nx6 cx6) (b := .bool x6.s) (z := .int .i64 e6) (by omega) (by omega)
            replace M17 := Lib.hid YM17
            clear YM17
            replace M18 := Lib.hid YM18
            clear YM18
            replace M19 := Lib.hid YM19
            clear YM19
            replace M20 := Lib.hid YM20
            clear YM20
            replace Bn := Lib.hid (below_tri' (i := 12) (k := 13) (j := 6) (a := .slice Ax6 nx6 cx6) (b := .bool x6.s) (z := .int .i64 e6) Bn.out (show wo.heap.size ≤ wo.heap.size by omega) (show wo.heap.size ≤ (wo.heap.size + 1 + 1) by omega))
            have tz : (((wk.setCell ⟨wo.heap.size, 12, none⟩ (.slice Ax6 nx6 cx6)).setCell ⟨wo.heap.size, 13, none⟩ (.bool x6.s)).setCell ⟨(wo.heap.size + 1 + 1), 6, none⟩ (.int .i64 e6)).heap.size = wk.heap.size := by simp
            have q6 := O6.out.step (below_step Bv.out Bn.out)
            have q60 := q6.cell 0
            have q61 := q6.cell 1
            clear q6
            have q7 := O7.out.step (below_step Bv.out Bn.out)
            have q70 := q7.cell 0
            have q71 := q7.cell 1
            clear q7
            have q8 := O8.out.step (below_step Bv.out Bn.out)
            have q80 := q8.cell 0
            have q81 := q8.cell 1
            clear q8
            have q13 := O13.out.step (below_step Bv.out Bn.out)
            have q130 := q13.cell 0
            have q131 := q13.cell 1
            clear q13
            have q14 := O14.out.step (below_step Bv.out Bn.out)
            have q140 := q14.cell 0
            have q141 := q14.cell 1
            clear q14
            have q15 := O15.out.step (below_step Bv.out Bn.out)
            have q150 := q15.cell 0
            have q151 := q15.cell 1
            clear q15
            go_wp2_with fail
            go_at_call 50
            generalize hW : (((wk.setCell ⟨wo.heap.size, 12, none⟩ (.slice Ax6 nx6 cx6)).setCell ⟨wo.heap.size, 13, none⟩ (.bool x6.s)).setCell ⟨(wo.heap.size + 1 + 1), 6, none⟩ (.int .i64 e6)) = v13 at *
            clear hW
            clear q60 q61 q70 q71 q80 q81 q130 q131 q140 q141 q150 q151
            refine (K13.out v13 (r0.out.step (below_step Bv.out Bn.out)) (r1.out.step (below_step Bv.out Bn.out))).mono ?_
            rintro e wk ⟨Ay6, ny6, cy6, rfl, hcy6, hny6, Ny6, hb⟩
            replace Ny6 := Ny6.mono Bn.out.size
            replace Bn := Lib.hid (below_step Bn.out hb)
            replace M17 := M17.out.step hb
            replace M18 := M18.out.step hb
            replace M19 := M19.out.step hb
            replace M20 := M20.out.step hb
            replace Nx0 := Nx0.out.step hb
            replace Ny0 := Ny0.out.step hb
            replace Nx1 := Nx1.out.step hb
            replace Ny1 := Ny1.out.step hb
            replace Nx2 := Nx2.out.step hb
            replace Ny2 := Ny2.out.step hb
            replace Nx3 := Nx3.out.step hb
            replace Ny3 := Ny3.out.step hb
            replace Nx4 := Nx4.out.step hb
            replace Ny4 := Ny4.out.step hb
            replace Nx5 := Nx5.out.step hb
            replace Ny5 := Ny5.out.step hb
            replace Nx6 := Nx6.out.step hb
            clear hb
            have k0 := M18.cell 12
            have k1 := M18.cell 13
            have f0 := M18.free 12
            have f1 := M18.free 13
            have D := (M20.far (p := ⟨(wo.heap.size + 1), 12, none⟩) (show (wo.heap.size + 1 + 1 + 1) ≠ (wo.heap.size + 1) by omega) (.slice Ay6 ny6 cy6)).far (p := ⟨(wo.heap.size + 1), 13, none⟩) (show (wo.heap.size + 1 + 1 + 1) ≠ (wo.heap.size + 1) by omega) (.bool x6.s)
            have k2 := D.cell 6
            have f2 := D.free 6
            replace Nx0 := Lib.hid ((Nx0.tri (i := 12) (k := 13) (j := 6) (a := .slice Ay6 ny6 cy6) (b := .bool x6.s) (z := .int .i64 e6) M18 (by decide) M20 (by decide) (by omega)))
            replace Ny0 := Lib.hid ((Ny0.tri (i := 12) (k := 13) (j := 6) (a := .slice Ay6 ny6 cy6) (b := .bool x6.s) (z := .int .i64 e6) M18 (by decide) M20 (by decide) (by omega)))
            replace Nx1 := Lib.hid ((Nx1.tri (i := 12) (k := 13) (j := 6) (a := .slice Ay6 ny6 cy6) (b := .bool x6.s) (z := .int .i64 e6) M18 (by decide) M20 (by decide) (by omega)))
            replace Ny1 := Lib.hid ((Ny1.tri (i := 12) (k := 13) (j := 6) (a := .slice Ay6 ny6 cy6) (b := .bool x6.s) (z := .int .i64 e6) M18 (by decide) M20 (by decide) (by omega)))
            replace Nx2 := Lib.hid ((Nx2.tri (i := 12) (k := 13) (j := 6) (a := .slice Ay6 ny6 cy6) (b := .bool x6.s) (z := .int .i64 e6) M18 (by decide) M20 (by decide) (by omega)))
            replace Ny2 := Lib.hid ((Ny2.tri (i := 12) (k := 13) (j := 6) (a := .slice Ay6 ny6 cy6) (b := .bool x6.s) (z := .int .i64 e6) M18 (by decide) M20 (by decide) (by omega)))
            replace Nx3 := Lib.hid ((Nx3.tri (i := 12) (k := 13) (j := 6) (a := .slice Ay6 ny6 cy6) (b := .bool x6.s) (z := .int .i64 e6) M18 (by decide) M20 (by decide) (by omega)))
            replace Ny3 := Lib.hid ((Ny3.tri (i := 12) (k := 13) (j := 6) (a := .slice Ay6 ny6 cy6) (b := .bool x6.s) (z := .int .i64 e6) M18 (by decide) M20 (by decide) (by omega)))
            replace Nx4 := Lib.hid ((Nx4.tri (i := 12) (k := 13) (j := 6) (a := .slice Ay6 ny6 cy6) (b := .bool x6.s) (z := .int .i64 e6) M18 (by decide) M20 (by decide) (by omega)))
            replace Ny4 := Lib.hid ((Ny4.tri (i := 12) (k := 13) (j := 6) (a := .slice Ay6 ny6 cy6) (b := .bool x6.s) (z := .int .i64 e6) M18 (by decide) M20 (by decide) (by omega)))
            replace Nx5 := Lib.hid ((Nx5.tri (i := 12) (k := 13) (j := 6) (a := .slice Ay6 ny6 cy6) (b := .bool x6.s) (z := .int .i64 e6) M18 (by decide) M20 (by decide) (by omega)))
            replace Ny5 := Lib.hid ((Ny5.tri (i := 12) (k := 13) (j := 6) (a := .slice Ay6 ny6 cy6) (b := .bool x6.s) (z := .int .i64 e6) M18 (by decide) M20 (by decide) (by omega)))
            replace Nx6 := Lib.hid ((Nx6.tri (i := 12) (k := 13) (j := 6) (a := .slice Ay6 ny6 cy6) (b := .bool x6.s) (z := .int .i64 e6) M18 (by decide) M20 (by decide) (by omega)))
            replace Ny6 := Lib.hid ((Ny6.tri (i := 12) (k := 13) (j := 6) (a := .slice Ay6 ny6 cy6) (b := .bool x6.s) (z := .int .i64 e6) M18 (by decide) M20 (by decide) (by omega)))
            have YM17 := M17.tri_far (g := (wo.heap.size + 1)) (i := 12) (k := 13) (q := (wo.heap.size + 1 + 1 + 1)) (j := 6) (a := .slice Ay6 ny6 cy6) (b := .bool x6.s) (z := .int .i64 e6) (by omega) (by omega)
            have YM18 : Own (((wk.setCell ⟨(wo.heap.size + 1), 12, none⟩ (.slice Ay6 ny6 cy6)).setCell ⟨(wo.heap.size + 1), 13, none⟩ (.bool x6.s)).setCell ⟨(wo.heap.size + 1 + 1 + 1), 6, none⟩ (.int .i64 e6)) (wo.heap.size + 1) 50 #[.slice Ay0 ny0 cy0, .bool x0.s, .slice Ay1 ny1 cy1, .bool x1.s, .slice Ay2 ny2 cy2, .bool x2.s, .slice Ay3 ny3 cy3, .bool x3.s, .slice Ay4 ny4 cy4, .bool x4.s, .slice Ay5 ny5 cy5, .bool x5.s, .slice Ay6 ny6 cy6, .bool x6.s, .slice none 0 0, .bool false] := M18.tri_x (q := (wo.heap.size + 1 + 1 + 1)) (by omega)
            have YM19 := M19.tri_far (g := (wo.heap.size + 1)) (i := 12) (k := 13) (q := (wo.heap.size + 1 + 1 + 1)) (j := 6) (a := .slice Ay6 ny6 cy6) (b := .bool x6.s) (z := .int .i64 e6) (by omega) (by omega)
            have YM20 : Own (((wk.setCell ⟨(wo.heap.size + 1), 12, none⟩ (.slice Ay6 ny6 cy6)).setCell ⟨(wo.heap.size + 1), 13, none⟩ (.bool x6.s)).setCell ⟨(wo.heap.size + 1 + 1 + 1), 6, none⟩ (.int .i64 e6)) (wo.heap.size + 1 + 1 + 1) 51 #[.int .i64 e0, .int .i64 e1, .int .i64 e2, .int .i64 e3, .int .i64 e4, .int .i64 e5, .int .i64 e6, .int .i64 0] := M20.tri_e (g := (wo.heap.size + 1)) (by omega)
            replace M17 := Lib.hid YM17
            clear YM17
            replace M18 := Lib.hid YM18
            clear YM18
            replace M19 := Lib.hid YM19
            clear YM19
            replace M20 := Lib.hid YM20
            clear YM20
            replace Bn := Lib.hid (below_tri' (i := 12) (k := 13) (j := 6) (a := .slice Ay6 ny6 cy6) (b := .bool x6.s) (z := .int .i64 e6) Bn.out (show wo.heap.size ≤ (wo.heap.size + 1) by omega) (show wo.heap.size ≤ (wo.heap.size + 1 + 1 + 1) by omega))
            have tz : (((wk.setCell ⟨(wo.heap.size + 1), 12, none⟩ (.slice Ay6 ny6 cy6)).setCell ⟨(wo.heap.size + 1), 13, none⟩ (.bool x6.s)).setCell ⟨(wo.heap.size + 1 + 1 + 1), 6, none⟩ (.int .i64 e6)).heap.size = wk.heap.size := by simp
            have q6 := O6.out.step (below_step Bv.out Bn.out)
            have q60 := q6.cell 0
            have q61 := q6.cell 1
            clear q6
            have q7 := O7.out.step (below_step Bv.out Bn.out)
            have q70 := q7.cell 0
            have q71 := q7.cell 1
            clear q7
            have q8 := O8.out.step (below_step Bv.out Bn.out)
            have q80 := q8.cell 0
            have q81 := q8.cell 1
            clear q8
            have q13 := O13.out.step (below_step Bv.out Bn.out)
            have q130 := q13.cell 0
            have q131 := q13.cell 1
            clear q13
            have q14 := O14.out.step (below_step Bv.out Bn.out)
            have q140 := q14.cell 0
            have q141 := q14.cell 1
            clear q14
            have q15 := O15.out.step (below_step Bv.out Bn.out)
            have q150 := q15.cell 0
            have q151 := q15.cell 1
            clear q15
            go_wp2_with fail
            go_at_call 43
            generalize hW : (((wk.setCell ⟨(wo.heap.size + 1), 12, none⟩ (.slice Ay6 ny6 cy6)).setCell ⟨(wo.heap.size + 1), 13, none⟩ (.bool x6.s)).setCell ⟨(wo.heap.size + 1 + 1 + 1), 6, none⟩ (.int .i64 e6)) = v14 at *
            clear hW
            clear q60 q61 q70 q71 q80 q81 q130 q131 q140 q141 q150 q151
            refine (K14.out v14 _ (by assumption) (r14.out.step (below_step Bv.out Bn.out))).mono ?_
            rintro e wk ⟨Ax7, nx7, cx7, rfl, hcx7, hnx7, Nx7, hb⟩
            replace Nx7 := Nx7.mono (Nat.le_trans Bn.out.size (below_new (Below.refl _ v14) (.cells #[.slice A14 n14 c14, .bool s1] 24)).size)
            replace Bn := Lib.hid (below_step (below_new Bn.out (.cells #[.slice A14 n14 c14, .bool s1] 24)) hb)
            replace M17 := (M17.out.alloc (.cells #[.slice A14 n14 c14, .bool s1] 24)).step hb
            replace M18 := (M18.out.alloc (.cells #[.slice A14 n14 c14, .bool s1] 24)).step hb
            replace M19 := (M19.out.alloc (.cells #[.slice A14 n14 c14, .bool s1] 24)).step hb
            replace M20 := (M20.out.alloc (.cells #[.slice A14 n14 c14, .bool s1] 24)).step hb
            replace Nx0 := (Nx0.out.alloc (.cells #[.slice A14 n14 c14, .bool s1] 24)).step hb
            replace Ny0 := (Ny0.out.alloc (.cells #[.slice A14 n14 c14, .bool s1] 24)).step hb
            replace Nx1 := (Nx1.out.alloc (.cells #[.slice A14 n14 c14, .bool s1] 24)).step hb
            replace Ny1 := (Ny1.out.alloc (.cells #[.slice A14 n14 c14, .bool s1] 24)).step hb
            replace Nx2 := (Nx2.out.alloc (.cells #[.slice A14 n14 c14, .bool s1] 24)).step hb
            replace Ny2 := (Ny2.out.alloc (.cells #[.slice A14 n14 c14, .bool s1] 24)).step hb
            replace Nx3 := (Nx3.out.alloc (.cells #[.slice A14 n14 c14, .bool s1] 24)).step hb
            replace Ny3 := (Ny3.out.alloc (.cells #[.slice A14 n14 c14, .bool s1] 24)).step hb
            replace Nx4 := (Nx4.out.alloc (.cells #[.slice A14 n14 c14, .bool s1] 24)).step hb
            replace Ny4 := (Ny4.out.alloc (.cells #[.slice A14 n14 c14, .bool s1] 24)).step hb
            replace Nx5 := (Nx5.out.alloc (.cells #[.slice A14 n14 c14, .bool s1] 24)).step hb
            replace Ny5 := (Ny5.out.alloc (.cells #[.slice A14 n14 c14, .bool s1] 24)).step hb
            replace Nx6 := (Nx6.out.alloc (.cells #[.slice A14 n14 c14, .bool s1] 24)).step hb
            replace Ny6 := (Ny6.out.alloc (.cells #[.slice A14 n14 c14, .bool s1] 24)).step hb
            clear hb
            have k0 := M17.cell 14
            have k1 := M17.cell 15
            have f0 := M17.free 14
            have f1 := M17.free 15
            have D := (M19.far (p := ⟨wo.heap.size, 14, none⟩) (show (wo.heap.size + 1 + 1) ≠ wo.heap.size by omega) (.slice Ax7 nx7 cx7)).far (p := ⟨wo.heap.size, 15, none⟩) (show (wo.heap.size + 1 + 1) ≠ wo.heap.size by omega) (.bool x7.s)
            have k2 := D.cell 7
            have f2 := D.free 7
            replace Nx0 := Lib.hid ((Nx0.tri (i := 14) (k := 15) (j := 7) (a := .slice Ax7 nx7 cx7) (b := .bool x7.s) (z := .int .i64 e7) M17 (by decide) M19 (by decide) (by omega)))
            replace Ny0 := Lib.hid ((Ny0.tri (i := 14) (k := 15) (j := 7) (a := .slice Ax7 nx7 cx7) (b := .bool x7.s) (z := .int .i64 e7) M17 (by decide) M19 (by decide) (by omega)))
            replace Nx1 := Lib.hid ((Nx1.tri (i := 14) (k := 15) (j := 7) (a := .slice Ax7 nx7 cx7) (b := .bool x7.s) (z := .int .i64 e7) M17 (by decide) M19 (by decide) (by omega)))
            replace Ny1 := Lib.hid ((Ny1.tri (i := 14) (k := 15) (j := 7) (a := .slice Ax7 nx7 cx7) (b := .bool x7.s) (z := .int .i64 e7) M17 (by decide) M19 (by decide) (by omega)))
            replace Nx2 := Lib.hid ((Nx2.tri (i := 14) (k := 15) (j := 7) (a := .slice Ax7 nx7 cx7) (b := .bool x7.s) (z := .int .i64 e7) M17 (by decide) M19 (by decide) (by omega)))
            replace Ny2 := Lib.hid ((Ny2.tri (i := 14) (k := 15) (j := 7) (a := .slice Ax7 nx7 cx7) (b := .bool x7.s) (z := .int .i64 e7) M17 (by decide) M19 (by decide) (by omega)))
            replace Nx3 := Lib.hid ((Nx3.tri (i := 14) (k := 15) (j := 7) (a := .slice Ax7 nx7 cx7) (b := .bool x7.s) (z := .int .i64 e7) M17 (by decide) M19 (by decide) (by omega)))
            replace Ny3 := Lib.hid ((Ny3.tri (i := 14) (k := 15) (j := 7) (a := .slice Ax7 nx7 cx7) (b := .bool x7.s) (z := .int .i64 e7) M17 (by decide) M19 (by decide) (by omega)))
            replace Nx4 := Lib.hid ((Nx4.tri (i := 14) (k := 15) (j := 7) (a := .slice Ax7 nx7 cx7) (b := .bool x7.s) (z := .int .i64 e7) M17 (by decide) M19 (by decide) (by omega)))
            replace Ny4 := Lib.hid ((Ny4.tri (i := 14) (k := 15) (j := 7) (a := .slice Ax7 nx7 cx7) (b := .bool x7.s) (z := .int .i64 e7) M17 (by decide) M19 (by decide) (by omega)))
            replace Nx5 := Lib.hid ((Nx5.tri (i := 14) (k := 15) (j := 7) (a := .slice Ax7 nx7 cx7) (b := .bool x7.s) (z := .int .i64 e7) M17 (by decide) M19 (by decide) (by omega)))
            replace Ny5 := Lib.hid ((Ny5.tri (i := 14) (k := 15) (j := 7) (a := .slice Ax7 nx7 cx7) (b := .bool x7.s) (z := .int .i64 e7) M17 (by decide) M19 (by decide) (by omega)))
            replace Nx6 := Lib.hid ((Nx6.tri (i := 14) (k := 15) (j := 7) (a := .slice Ax7 nx7 cx7) (b := .bool x7.s) (z := .int .i64 e7) M17 (by decide) M19 (by decide) (by omega)))
            replace Ny6 := Lib.hid ((Ny6.tri (i := 14) (k := 15) (j := 7) (a := .slice Ax7 nx7 cx7) (b := .bool x7.s) (z := .int .i64 e7) M17 (by decide) M19 (by decide) (by omega)))
            replace Nx7 := Lib.hid ((Nx7.tri (i := 14) (k := 15) (j := 7) (a := .slice Ax7 nx7 cx7) (b := .bool x7.s) (z := .int .i64 e7) M17 (by decide) M19 (by decide) (by omega)))
            have YM17 : Own (((wk.setCell ⟨wo.heap.size, 14, none⟩ (.slice Ax7 nx7 cx7)).setCell ⟨wo.heap.size, 15, none⟩ (.bool x7.s)).setCell ⟨(wo.heap.size + 1 + 1), 7, none⟩ (.int .i64 e7)) wo.heap.size 50 #[.slice Ax0 nx0 cx0, .bool x0.s, .slice Ax1 nx1 cx1, .bool x1.s, .slice Ax2 nx2 cx2, .bool x2.s, .slice Ax3 nx3 cx3, .bool x3.s, .slice Ax4 nx4 cx4, .bool x4.s, .slice Ax5 nx5 cx5, .bool x5.s, .slice Ax6 nx6 cx6, .bool x6.s, .slice Ax7 nx7 cx7, .bool x7.s] := M17.tri_x (q := (wo.heap.size + 1 + 1)) (by omega)
            have YM18 := M18.tri_far (g := wo.heap.size) (i := 14) (k := 15) (q := (wo.heap.size + 1 + 1)) (j := 7) (a := .slice Ax7 nx7 cx7) (b := .bool x7.s) (z := .int .i64 e7) (by omega) (by omega)
            have YM19 : Own (((wk.setCell ⟨wo.heap.size, 14, none⟩ (.slice Ax7 nx7 cx7)).setCell ⟨wo.heap.size, 15, none⟩ (.bool x7.s)).setCell ⟨(wo.heap.size + 1 + 1), 7, none⟩ (.int .i64 e7)) (wo.heap.size + 1 + 1) 51 #[.int .i64 e0, .int .i64 e1, .int .i64 e2, .int .i64 e3, .int .i64 e4, .int .i64 e5, .int .i64 e6, .int .i64 e7] := M19.tri_e (g := wo.heap.size) (by omega)
            have YM20 := M20.tri_far (g := wo.heap.size) (i := 14) (k := 15) (q := (wo.heap.size + 1 + 1)) (j := 7) (a := .slice Ax7 nx7 cx7) (b := .bool x7.s) (z := .int .i64 e7) (by omega) (by omega)
            replace M17 := Lib.hid YM17
            clear YM17
            replace M18 := Lib.hid YM18
            clear YM18
            replace M19 := Lib.hid YM19
            clear YM19
            replace M20 := Lib.hid YM20
            clear YM20
            replace Bn := Lib.hid (below_tri' (i := 14) (k := 15) (j := 7) (a := .slice Ax7 nx7 cx7) (b := .bool x7.s) (z := .int .i64 e7) Bn.out (show wo.heap.size ≤ wo.heap.size by omega) (show wo.heap.size ≤ (wo.heap.size + 1 + 1) by omega))
            have tz : (((wk.setCell ⟨wo.heap.size, 14, none⟩ (.slice Ax7 nx7 cx7)).setCell ⟨wo.heap.size, 15, none⟩ (.bool x7.s)).setCell ⟨(wo.heap.size + 1 + 1), 7, none⟩ (.int .i64 e7)).heap.size = wk.heap.size := by simp
            have q6 := O6.out.step (below_step Bv.out Bn.out)
            have q60 := q6.cell 0
            have q61 := q6.cell 1
            clear q6
            have q7 := O7.out.step (below_step Bv.out Bn.out)
            have q70 := q7.cell 0
            have q71 := q7.cell 1
            clear q7
            have q8 := O8.out.step (below_step Bv.out Bn.out)
            have q80 := q8.cell 0
            have q81 := q8.cell 1
            clear q8
            have q13 := O13.out.step (below_step Bv.out Bn.out)
            have q130 := q13.cell 0
            have q131 := q13.cell 1
            clear q13
            have q14 := O14.out.step (below_step Bv.out Bn.out)
            have q140 := q14.cell 0
            have q141 := q14.cell 1
            clear q14
            have q15 := O15.out.step (below_step Bv.out Bn.out)
            have q150 := q15.cell 0
            have q151 := q15.cell 1
            clear q15
            go_wp2_with fail
            go_at_call 44
            generalize hW : (((wk.setCell ⟨wo.heap.size, 14, none⟩ (.slice Ax7 nx7 cx7)).setCell ⟨wo.heap.size, 15, none⟩ (.bool x7.s)).setCell ⟨(wo.heap.size + 1 + 1), 7, none⟩ (.int .i64 e7)) = v15 at *
            clear hW
            clear q60 q61 q70 q71 q80 q81 q130 q131 q140 q141 q150 q151
            refine (K15.out v15 _ (by assumption) (r1.out.step (below_step Bv.out Bn.out))).mono ?_
            rintro e wk ⟨Ay7, ny7, cy7, rfl, hcy7, hny7, Ny7, hb⟩
            replace Ny7 := Ny7.mono (Nat.le_trans Bn.out.size (below_new (Below.refl _ v15) (.cells #[.slice A1 n1 c1, .bool s1] 24)).size)
            replace Bn := Lib.hid (below_step (below_new Bn.out (.cells #[.slice A1 n1 c1, .bool s1] 24)) hb)
            replace M17 := (M17.out.alloc (.cells #[.slice A1 n1 c1, .bool s1] 24)).step hb
            replace M18 := (M18.out.alloc (.cells #[.slice A1 n1 c1, .bool s1] 24)).step hb
            replace M19 := (M19.out.alloc (.cells #[.slice A1 n1 c1, .bool s1] 24)).step hb
            replace M20 := (M20.out.alloc (.cells #[.slice A1 n1 c1, .bool s1] 24)).step hb
            replace Nx0 := (Nx0.out.alloc (.cells #[.slice A1 n1 c1, .bool s1] 24)).step hb
            replace Ny0 := (Ny0.out.alloc (.cells #[.slice A1 n1 c1, .bool s1] 24)).step hb
            replace Nx1 := (Nx1.out.alloc (.cells #[.slice A1 n1 c1, .bool s1] 24)).step hb
            replace Ny1 := (Ny1.out.alloc (.cells #[.slice A1 n1 c1, .bool s1] 24)).step hb
            replace Nx2 := (Nx2.out.alloc (.cells #[.slice A1 n1 c1, .bool s1] 24)).step hb
            replace Ny2 := (Ny2.out.alloc (.cells #[.slice A1 n1 c1, .bool s1] 24)).step hb
            replace Nx3 := (Nx3.out.alloc (.cells #[.slice A1 n1 c1, .bool s1] 24)).step hb
            replace Ny3 := (Ny3.out.alloc (.cells #[.slice A1 n1 c1, .bool s1] 24)).step hb
            replace Nx4 := (Nx4.out.alloc (.cells #[.slice A1 n1 c1, .bool s1] 24)).step hb
            replace Ny4 := (Ny4.out.alloc (.cells #[.slice A1 n1 c1, .bool s1] 24)).step hb
            replace Nx5 := (Nx5.out.alloc (.cells #[.slice A1 n1 c1, .bool s1] 24)).step hb
            replace Ny5 := (Ny5.out.alloc (.cells #[.slice A1 n1 c1, .bool s1] 24)).step hb
            replace Nx6 := (Nx6.out.alloc (.cells #[.slice A1 n1 c1, .bool s1] 24)).step hb
            replace Ny6 := (Ny6.out.alloc (.cells #[.slice A1 n1 c1, .bool s1] 24)).step hb
            replace Nx7 := (Nx7.out.alloc (.cells #[.slice A1 n1 c1, .bool s1] 24)).step hb
            clear hb
            have k0 := M18.cell 14
            have k1 := M18.cell 15
            have f0 := M18.free 14
            have f1 := M18.free 15
            have D := (M20.far (p := ⟨(wo.heap.size + 1), 14, none⟩) (show (wo.heap.size + 1 + 1 + 1) ≠ (wo.heap.size + 1) by omega) (.slice Ay7 ny7 cy7)).far (p := ⟨(wo.heap.size + 1), 15, none⟩) (show (wo.heap.size + 1 + 1 + 1) ≠ (wo.heap.size + 1) by omega) (.bool x7.s)
            have k2 := D.cell 7
            have f2 := D.free 7
            replace Nx0 := Lib.hid ((Nx0.tri (i := 14) (k := 15) (j := 7) (a := .slice Ay7 ny7 cy7) (b := .bool x7.s) (z := .int .i64 e7) M18 (by decide) M20 (by decide) (by omega)))
            replace Ny0 := Lib.hid ((Ny0.tri (i := 14) (k := 15) (j := 7) (a := .slice Ay7 ny7 cy7) (b := .bool x7.s) (z := .int .i64 e7) M18 (by decide) M20 (by decide) (by omega)))
            replace Nx1 := Lib.hid ((Nx1.tri (i := 14) (k := 15) (j := 7) (a := .slice Ay7 ny7 cy7) (b := .bool x7.s) (z := .int .i64 e7) M18 (by decide) M20 (by decide) (by omega)))
            replace Ny1 := Lib.hid ((Ny1.tri (i := 14) (k := 15) (j := 7) (a := .slice Ay7 ny7 cy7) (b := .bool x7.s) (z := .int .i64 e7) M18 (by decide) M20 (by decide) (by omega)))
            replace Nx2 := Lib.hid ((Nx2.tri (i := 14) (k := 15) (j := 7) (a := .slice Ay7 ny7 cy7) (b := .bool x7.s) (z := .int .i64 e7) M18 (by decide) M20 (by decide) (by omega)))
            replace Ny2 := Lib.hid ((Ny2.tri (i := 14) (k := 15) (j := 7) (a := .slice Ay7 ny7 cy7) (b := .bool x7.s) (z := .int .i64 e7) M18 (by decide) M20 (by decide) (by omega)))
            replace Nx3 := Lib.hid ((Nx3.tri (i := 14) (k := 15) (j := 7) (a := .slice Ay7 ny7 cy7) (b := .bool x7.s) (z := .int .i64 e7) M18 (by decide) M20 (by decide) (by omega)))
            replace Ny3 := Lib.hid ((Ny3.tri (i := 14) (k := 15) (j := 7) (a := .slice Ay7 ny7 cy7) (b := .bool x7.s) (z := .int .i64 e7) M18 (by decide) M20 (by decide) (by omega)))
            replace Nx4 := Lib.hid ((Nx4.tri (i := 14) (k := 15) (j := 7) (a := .slice Ay7 ny7 cy7) (b := .bool x7.s) (z := .int .i64 e7) M18 (by decide) M20 (by decide) (by omega)))
            replace Ny4 := Lib.hid ((Ny4.tri (i := 14) (k := 15) (j := 7) (a := .slice Ay7 ny7 cy7) (b := .bool x7.s) (z := .int .i64 e7) M18 (by decide) M20 (by decide) (by omega)))
            replace Nx5 := Lib.hid ((Nx5.tri (i := 14) (k := 15) (j := 7) (a := .slice Ay7 ny7 cy7) (b := .bool x7.s) (z := .int .i64 e7) M18 (by decide) M20 (by decide) (by omega)))
            replace Ny5 := Lib.hid ((Ny5.tri (i := 14) (k := 15) (j := 7) (a := .slice Ay7 ny7 cy7) (b := .bool x7.s) (z := .int .i64 e7) M18 (by decide) M20 (by decide) (by omega)))
            replace Nx6 := Lib.hid ((Nx6.tri (i := 14) (k := 15) (j := 7) (a := .slice Ay7 ny7 cy7) (b := .bool x7.s) (z := .int .i64 e7) M18 (by decide) M20 (by decide) (by omega)))
            replace Ny6 := Lib.hid ((Ny6.tri (i := 14) (k := 15) (j := 7) (a := .slice Ay7 ny7 cy7) (b := .bool x7.s) (z := .int .i64 e7) M18 (by decide) M20 (by decide) (by omega)))
            replace Nx7 := Lib.hid ((Nx7.tri (i := 14) (k := 15) (j := 7) (a := .slice Ay7 ny7 cy7) (b := .bool x7.s) (z := .int .i64 e7) M18 (by decide) M20 (by decide) (by omega)))
            replace Ny7 := Lib.hid ((Ny7.tri (i := 14) (k := 15) (j := 7) (a := .slice Ay7 ny7 cy7) (b := .bool x7.s) (z := .int .i64 e7) M18 (by decide) M20 (by decide) (by omega)))
            have YM17 := M17.tri_far (g := (wo.heap.size + 1)) (i := 14) (k := 15) (q := (wo.heap.size + 1 + 1 + 1)) (j := 7) (a := .slice Ay7 ny7 cy7) (b := .bool x7.s) (z := .int .i64 e7) (by omega) (by omega)
            have YM18 : Own (((wk.setCell ⟨(wo.heap.size + 1), 14, none⟩ (.slice Ay7 ny7 cy7)).setCell ⟨(wo.heap.size + 1), 15, none⟩ (.bool x7.s)).setCell ⟨(wo.heap.size + 1 + 1 + 1), 7, none⟩ (.int .i64 e7)) (wo.heap.size + 1) 50 #[.slice Ay0 ny0 cy0, .bool x0.s, .slice Ay1 ny1 cy1, .bool x1.s, .slice Ay2 ny2 cy2, .bool x2.s, .slice Ay3 ny3 cy3, .bool x3.s, .slice Ay4 ny4 cy4, .bool x4.s, .slice Ay5 ny5 cy5, .bool x5.s, .slice Ay6 ny6 cy6, .bool x6.s, .slice Ay7 ny7 cy7, .bool x7.s] := M18.tri_x (q := (wo.heap.size + 1 + 1 + 1)) (by omega)
            have YM19 := M19.tri_far (g := (wo.heap.size + 1)) (i := 14) (k := 15) (q := (wo.heap.size + 1 + 1 + 1)) (j := 7) (a := .slice Ay7 ny7 cy7) (b := .bool x7.s) (z := .int .i64 e7) (by omega) (by omega)
            have YM20 : Own (((wk.setCell ⟨(wo.heap.size + 1), 14, none⟩ (.slice Ay7 ny7 cy7)).setCell ⟨(wo.heap.size + 1), 15, none⟩ (.bool x7.s)).setCell ⟨(wo.heap.size + 1 + 1 + 1), 7, none⟩ (.int .i64 e7)) (wo.heap.size + 1 + 1 + 1) 51 #[.int .i64 e0, .int .i64 e1, .int .i64 e2, .int .i64 e3, .int .i64 e4, .int .i64 e5, .int .i64 e6, .int .i64 e7] := M20.tri_e (g := (wo.heap.size + 1)) (by omega)
            replace M17 := Lib.hid YM17
            clear YM17
            replace M18 := Lib.hid YM18
            clear YM18
            replace M19 := Lib.hid YM19
            clear YM19
            replace M20 := Lib.hid YM20
            clear YM20
            replace Bn := Lib.hid (below_tri' (i := 14) (k := 15) (j := 7) (a := .slice Ay7 ny7 cy7) (b := .bool x7.s) (z := .int .i64 e7) Bn.out (show wo.heap.size ≤ (wo.heap.size + 1) by omega) (show wo.heap.size ≤ (wo.heap.size + 1 + 1 + 1) by omega))
            have tz : (((wk.setCell ⟨(wo.heap.size + 1), 14, none⟩ (.slice Ay7 ny7 cy7)).setCell ⟨(wo.heap.size + 1), 15, none⟩ (.bool x7.s)).setCell ⟨(wo.heap.size + 1 + 1 + 1), 7, none⟩ (.int .i64 e7)).heap.size = wk.heap.size := by simp
            have q6 := O6.out.step (below_step Bv.out Bn.out)
            have q60 := q6.cell 0
            have q61 := q6.cell 1
            clear q6
            have q7 := O7.out.step (below_step Bv.out Bn.out)
            have q70 := q7.cell 0
            have q71 := q7.cell 1
            clear q7
            have q8 := O8.out.step (below_step Bv.out Bn.out)
            have q80 := q8.cell 0
            have q81 := q8.cell 1
            clear q8
            have q13 := O13.out.step (below_step Bv.out Bn.out)
            have q130 := q13.cell 0
            have q131 := q13.cell 1
            clear q13
            have q14 := O14.out.step (below_step Bv.out Bn.out)
            have q140 := q14.cell 0
            have q141 := q14.cell 1
            clear q14
            have q15 := O15.out.step (below_step Bv.out Bn.out)
            have q150 := q15.cell 0
            have q151 := q15.cell 1
            clear q15
            replace M19 := M19.out
            replace M20 := M20.out
            have p0 := M19.cell 0
            have t0 := M20.cell 0
            have p1 := M19.cell 1
            have t1 := M20.cell 1
            have p2 := M19.cell 2
            have t2 := M20.cell 2
            have p3 := M19.cell 3
            have t3 := M20.cell 3
            have p4 := M19.cell 4
            have t4 := M20.cell 4
            have p5 := M19.cell 5
            have t5 := M20.cell 5
            have p6 := M19.cell 6
            have t6 := M20.cell 6
            have p7 := M19.cell 7
            have t7 := M20.cell 7
            have eqE := run_eqE8 e0 e1 e2 e3 e4 e5 e6 e7
            go_wp2
            clear q60 q61 q70 q71 q80 q81 q130 q131 q140 q141 q150 q151
            clear k0 k1 f0 f1 D k2 f2 p0 p1 p2 p3 p4 p5 p6 p7 t0 t1 t2 t3 t4 t5 t6 t7 M19 M20 eqE tz
            generalize hW : (((wk.setCell ⟨(wo.heap.size + 1), 14, none⟩ (.slice Ay7 ny7 cy7)).setCell ⟨(wo.heap.size + 1), 15, none⟩ (.bool x7.s)).setCell ⟨(wo.heap.size + 1 + 1 + 1), 7, none⟩ (.int .i64 e7)) = v at *
            clear hW
            obtain ⟨F, hF⟩ : ∃ F : Nat → Cv, F = fun j => ([(⟨Ax0, nx0, cx0, x0.s⟩ : Cv), (⟨Ax1, nx1, cx1, x1.s⟩ : Cv), (⟨Ax2, nx2, cx2, x2.s⟩ : Cv), (⟨Ax3, nx3, cx3, x3.s⟩ : Cv), (⟨Ax4, nx4, cx4, x4.s⟩ : Cv), (⟨Ax5, nx5, cx5, x5.s⟩ : Cv), (⟨Ax6, nx6, cx6, x6.s⟩ : Cv), (⟨Ax7, nx7, cx7, x7.s⟩ : Cv)]).getD j ⟨none, 0, 0, false⟩ := ⟨_, rfl⟩
            obtain ⟨G, hG⟩ : ∃ G : Nat → Cv, G = fun j => ([(⟨Ay0, ny0, cy0, x0.s⟩ : Cv), (⟨Ay1, ny1, cy1, x1.s⟩ : Cv), (⟨Ay2, ny2, cy2, x2.s⟩ : Cv), (⟨Ay3, ny3, cy3, x3.s⟩ : Cv), (⟨Ay4, ny4, cy4, x4.s⟩ : Cv), (⟨Ay5, ny5, cy5, x5.s⟩ : Cv), (⟨Ay6, ny6, cy6, x6.s⟩ : Cv), (⟨Ay7, ny7, cy7, x7.s⟩ : Cv)]).getD j ⟨none, 0, 0, false⟩ := ⟨_, rfl⟩
            obtain ⟨x, hx⟩ : ∃ x : Nat → V, x = fun j => ([x0, x1, x2, x3, x4, x5, x6, x7]).getD j nilV := ⟨_, rfl⟩
            have OX : Own v wo.heap.size 50 (rowV8 F) := by subst hF; exact M17.out
            have OY : Own v (wo.heap.size + 1) 50 (rowV8 G) := by subst hG; exact M18.out
            have HV : ∀ j, j < 8 → (Nb v wo.heap.size (F j).A (F j).n (F j).c (x j).l ∧ (F j).n ≤ 1000 ∧ (F j).s = (x j).s) ∧ (Rb v (G j).A (G j).n (x j).l ∧ (G j).n ≤ 1000 ∧ (G j).s = (x j).s) := fun j hj => by
              subst hF hG hx
              rcases (show j = 0 ∨ j = 1 ∨ j = 2 ∨ j = 3 ∨ j = 4 ∨ j = 5 ∨ j = 6 ∨ j = 7 by omega) with rfl | rfl | rfl | rfl | rfl | rfl | rfl | rfl
              · exact ⟨⟨Nx0.out, hnx0, rfl⟩, ⟨Ny0.out.rd, hny0, rfl⟩⟩
              · exact ⟨⟨Nx1.out, hnx1, rfl⟩, ⟨Ny1.out.rd, hny1, rfl⟩⟩
              · exact ⟨⟨Nx2.out, hnx2, rfl⟩, ⟨Ny2.out.rd, hny2, rfl⟩⟩
              · exact ⟨⟨Nx3.out, hnx3, rfl⟩, ⟨Ny3.out.rd, hny3, rfl⟩⟩
              · exact ⟨⟨Nx4.out, hnx4, rfl⟩, ⟨Ny4.out.rd, hny4, rfl⟩⟩
              · exact ⟨⟨Nx5.out, hnx5, rfl⟩, ⟨Ny5.out.rd, hny5, rfl⟩⟩
              · exact ⟨⟨Nx6.out, hnx6, rfl⟩, ⟨Ny6.out.rd, hny6, rfl⟩⟩
              · exact ⟨⟨Nx7.out, hnx7, rfl⟩, ⟨Ny7.out.rd, hny7, rfl⟩⟩
            clear hF hG hx M17 M18 Nx0 Ny0 Nx1 Ny1 Nx2 Ny2 Nx3 Ny3 Nx4 Ny4 Nx5 Ny5 Nx6 Ny6 Nx7 Ny7
            replace OX := Lib.hid OX
            replace OY := Lib.hid OY
            replace HV := Lib.hid HV
            go_loopw [21] (fun q w2 => ∃ i : Nat, i ≤ 8 ∧ q = .int .i64 i ∧ Hid (Below v.heap.size v w2)) (fun q _ => 8 - (intOf q).toNat)
            case atStart => exact ⟨0, by decide, rfl, Lib.hid (Below.refl _ _)⟩
            case round =>
              obtain ⟨i, hi, rfl, Bx⟩ := hrel
              by_cases hli : i < 8
              · obtain ⟨⟨np_, hnp, hsp⟩, ⟨rq, hnq, hsq⟩⟩ := HV.out i hli
                have rp := np_.rd
                have gF := rowV8_get F i hli
                have gG := rowV8_get G i hli
                rw [hsp] at gF
                rw [hsq] at gG
                clear hsp hsq np_
                generalize (F i).A = Ap at *
                generalize (F i).n = np at *
                generalize (F i).c = cp at *
                generalize (G i).A = Aq at *
                generalize (G i).n = nq at *
                generalize (G i).c = cq at *
                generalize x i = xp at *
                obtain ⟨lp, sp⟩ := xp
                replace rp := rp.step Bx.out
                replace rq := rq.step Bx.out
                have OX' := OX.out.step Bx.out
                have OY' := OY.out.step Bx.out
                have TT' := TT.out.step (below_step (below_step Bv.out Bn.out) Bx.out)
                replace gF : (rowV8 F)[i * 2]? = some (.slice Ap np cp) ∧ (rowV8 F)[i * 2 + 1]? = some (.bool sp) := gF
                replace gG : (rowV8 G)[i * 2]? = some (.slice Aq nq cq) ∧ (rowV8 G)[i * 2 + 1]? = some (.bool sp) := gG
                replace gF := Lib.hid gF
                replace gG := Lib.hid gG
                have d2 : decide ((i : Int) < 8) = true := by simp; omega
                go_wp2
                refine region_y (by kernel_rfl) (fun u => rds Ap np lp u ∧ (rds Aq nq lp u ∧ (ownT wo.heap.size 50 (rowV8 F) u ∧ (ownT (wo.heap.size + 1) 50 (rowV8 G) u ∧ (tbs u ∧ blw v u))))) [] [isV (.int .i64 i), isV (.pointer (some ⟨wo.heap.size, i * 2, none⟩)), isV (.agg #[.slice Ap np cp, .bool sp]), isV (.int .i64 i), isV (.pointer (some ⟨(wo.heap.size + 1), i * 2, none⟩)), isV (.agg #[.slice Aq nq cq, .bool sp]), isV (.bool true), isV (.bool false)] [some 189, some 190, some 191, some 192, some 193, some 194, some 195, some 196] [[], [0], [1], [], [3], [4], [2, 5], [6]] (by kernel_rfl) (by kernel_rfl) rfl (by kernel_rfl) (by kernel_rfl) (by kernel_rfl) ⟨rp.drew, rq.drew, OX'.drew, OY'.drew, TT'.drew, below_drew Bx.out⟩ (fun _ h => by cases h) ?_ ?_
                · refine ⟨?_, ?_, ?_, ?_, ?_, ?_, ?_, ?_, trivial⟩
                  · intro a w' hS hO hF' hP K hK
                    have f0 := hO 21 (by rfl)
                    refine if_ok (by rfl) ?_
                    unfold Oper.wp execOp
                    simp only [Sem.run_pure, ev f0]
                    exact hK _ w' (fun h => by cases h) (keep_same hS) rfl
                  · intro a w' hS hO hF' hP K hK
                    obtain ⟨_, f0, rfl⟩ := (hF' 0 rfl).1 189 _ rfl rfl
                    have ha := hO 17 (by rfl)
                    refine if_ok (by rfl) ?_
                    refine wp_ixA8 (.tmp 17) _ rfl (k := i) (ev ha) (ev f0) (by omega) ?_
                    exact hK _ w' (fun h => by cases h) (keep_same hS) rfl
                  · intro a w' hS hO hF' hP K hK
                    obtain ⟨_, f0, rfl⟩ := (hF' 1 rfl).1 190 _ rfl rfl
                    have hc := fun i => hS.2.2.1.cell i
                    refine if_ok (by rfl) ?_
                    refine wp_ldV _ rfl (ev f0) ((hc _).trans gF.out.1) ((hc _).trans gF.out.2) ?_
                    exact hK _ w' (fun h => by cases h) (keep_same hS) rfl
                  · intro a w' hS hO hF' hP K hK
                    have f0 := hO 21 (by rfl)
                    refine if_ok (by rfl) ?_
                    unfold Oper.wp execOp
                    simp only [Sem.run_pure, ev f0]
                    exact hK _ w' (fun h => by cases h) (keep_same hS) rfl
                  · intro a w' hS hO hF' hP K hK
                    obtain ⟨_, f0, rfl⟩ := (hF' 3 rfl).1 192 _ rfl rfl
                    have ha := hO 18 (by rfl)
                    refine if_ok (by rfl) ?_
                    refine wp_ixA8 (.tmp 18) _ rfl (k := i) (ev ha) (ev f0) (by omega) ?_
                    exact hK _ w' (fun h => by cases h) (keep_same hS) rfl
                  · intro a w' hS hO hF' hP K hK
                    obtain ⟨_, f0, rfl⟩ := (hF' 4 rfl).1 193 _ rfl rfl
                    have hc := fun i => hS.2.2.2.1.cell i
                    refine if_ok (by rfl) ?_
                    refine wp_ldV _ rfl (ev f0) ((hc _).trans gG.out.1) ((hc _).trans gG.out.2) ?_
                    exact hK _ w' (fun h => by cases h) (keep_same hS) rfl
                  · intro a w' hS hO hF' hP K hK
                    obtain ⟨_, f0, rfl⟩ := (hF' 2 rfl).1 191 _ rfl rfl
                    obtain ⟨_, f1, rfl⟩ := (hF' 5 rfl).1 194 _ rfl rfl
                    refine if_ok (by rfl) ?_
                    refine wp_calls rfl (enters_of Tryz.func16 (by kernel_rfl) rfl) (args := #[(.agg #[.slice Ap np cp, .bool sp]), (.agg #[.slice Aq nq cq, .bool sp])]) (by simp [Act.eval, f0, f1]) ?_
                    obtain ⟨rp, rq, OX1, OY1, TT, BB⟩ := id hS
                    apply Calls.mono
                    (with_reducible apply same_t); (repeat (first | assumption | (with_reducible (apply Nb.rd; assumption)) | (with_reducible (apply Rb.at_later; assumption)) | (with_reducible (apply Tabs.at_later; assumption)) | (with_reducible apply Rb.alloc) | (with_reducible apply Tabs.alloc) | (with_reducible apply Rb.drew) | (with_reducible apply Tabs.drew) | (show I64 _; unfold I64; omega) | omega)); (first | exact sameV_self _ | (decide +kernel))
                    rintro e w2 ⟨rfl, hb⟩
                    exact ⟨_, rfl, hK _ w2 (fun h => by cases h) (keep_below hb hS) rfl⟩
                  · intro a w' hS hO hF' hP K hK
                    obtain ⟨_, f0, rfl⟩ := (hF' 6 rfl).1 195 _ rfl rfl
                    refine if_ok (by rfl) ?_
                    refine wp_not _ rfl (ev f0) ?_
                    exact hK _ w' (fun h => by cases h) (keep_same hS) rfl
                · intro vs u hl hS hV
                  match vs, hl, hV with
                  | [v0, v1, v2, v3, v4, v5, v6, v7], _, hV =>
                    obtain rfl := hV 0 _ rfl
                    obtain rfl := hV 1 _ rfl
                    obtain rfl := hV 2 _ rfl
                    obtain rfl := hV 3 _ rfl
                    obtain rfl := hV 4 _ rfl
                    obtain rfl := hV 5 _ rfl
                    obtain rfl := hV 6 _ rfl
                    obtain rfl := hV 7 _ rfl
                    simp only [puts, Act.put, List.setIfInBounds_toArray, List.set_cons_zero, List.set_cons_succ]
                    obtain ⟨rp, rq, OX1, OY1, TT, BB⟩ := hS
                    clear hV
                    replace rp : Rb u Ap np lp := rp
                    replace rq : Rb u Aq nq lp := rq
                    replace OX1 : Own u wo.heap.size 50 (rowV8 F) := OX1
                    replace OY1 : Own u (wo.heap.size + 1) 50 (rowV8 G) := OY1
                    replace TT : Tabs u := TT
                    replace BB : Below v.heap.size v u := BB
                    go_wp2
                    go_roundw
                    case rel => exact ⟨i + 1, by omega, by go_num, Lib.hid BB⟩
                    case measure => simp [intOf]; omega
              · obtain rfl : i = 8 := by omega
                have HS : SpoT 50 wo wr wo.heap.size (rowV8 F) 8 := ⟨below_step Bn.out Bx.out, OX.out.step Bx.out, fun j hj => by
                  obtain ⟨⟨h1, h2, _⟩, _⟩ := HV.out j hj
                  exact ⟨_, _, _, _, (rowV8_get F j hj).1, by omega, h1.step Bx.out⟩⟩
                replace HS := Lib.hid HS
                go_wp2_with fail
                go_at_call 18
                refine (spoilT (by decide) _ _ _ _ _ HS.out (by decide)).mono ?_
                rintro e w7 ⟨rfl, hb⟩
                replace Bv := Lib.hid (below_step Bv.out hb)
                clear HS hb Bn Bx OX OY HV
                go_wp2
                go_roundw
                case rel => exact ⟨k + 1, by omega, by go_num, Bv⟩
                case measure => simp [intOf]; omega
          · obtain rfl : k = 2 := by omega
            replace O6 := O6.out.step Bv.out
            have q60 := O6.cell 0
            have q61 := O6.cell 1
            replace O7 := O7.out.step Bv.out
            have q70 := O7.cell 0
            have q71 := O7.cell 1
            replace O8 := O8.out.step Bv.out
            have q80 := O8.cell 0
            have q81 := O8.cell 1
            replace O13 := O13.out.step Bv.out
            have q130 := O13.cell 0
            have q131 := O13.cell 1
            replace O14 := O14.out.step Bv.out
            have q140 := O14.cell 0
            have q141 := O14.cell 1
            replace O15 := O15.out.step Bv.out
            have q150 := O15.cell 0
            have q151 := O15.cell 1
            replace r0 := r0.out.step Bv.out
            replace r1 := r1.out.step Bv.out
            replace r2 := r2.out.step Bv.out
            replace r13 := r13.out.step Bv.out
            replace r14 := r14.out.step Bv.out
            replace r15 := r15.out.step Bv.out
            replace TT := TT.out.step Bv.out
            replace BB := Lib.hid (below_step BB.out Bv.out)
            clear Bv
            go_wp2_with (first | (go_at_call 16; apply Calls.mono; (with_reducible apply same_t); (repeat (first | assumption | (with_reducible (apply Nb.rd; assumption)) | (with_reducible (apply Rb.at_later; assumption)) | (with_reducible (apply Tabs.at_later; assumption)) | (with_reducible apply Rb.alloc) | (with_reducible apply Tabs.alloc) | (with_reducible apply Rb.drew) | (with_reducible apply Tabs.drew) | (show I64 _; unfold I64; omega) | omega)); (first | exact sameV_self _ | (decide +kernel)); rintro e wo ⟨rfl, hb⟩; have kb := hb; (try replace O6 := O6.step kb); (try replace O7 := O7.step kb); (try replace O8 := O8.step kb); (try replace O13 := O13.step kb); (try replace O14 := O14.step kb); (try replace O15 := O15.step kb); (try replace r0 := r0.step kb); (try replace r1 := r1.step kb); (try replace r2 := r2.step kb); (try replace r13 := r13.step kb); (try replace r14 := r14.step kb); (try replace r15 := r15.step kb); (try replace TT := TT.step kb); replace BB := Lib.hid (below_step BB.out kb); (try clear q60 q61); (try (have q60 := O6.cell 0; have q61 := O6.cell 1)); (try clear q70 q71); (try (have q70 := O7.cell 0; have q71 := O7.cell 1)); (try clear q80 q81); (try (have q80 := O8.cell 0; have q81 := O8.cell 1)); (try clear q130 q131); (try (have q130 := O13.cell 0; have q131 := O13.cell 1)); (try clear q140 q141); (try (have q140 := O14.cell 0; have q141 := O14.cell 1)); (try clear q150 q151); (try (have q150 := O15.cell 0; have q151 := O15.cell 1))) | (go_at_call 13; refine (awake_any _ TT).mono ?_; rintro e wo ⟨rfl, hb⟩; replace BB := Lib.hid (below_step BB.out hb)))
            go_ret
            exact ⟨rfl, BB.out⟩
  · skip
    have HL := Lib.hid (long3_b _ A0 A1 A2 n0 c0 n1 c1 n2 c2 s0 s1 s2 hl)
    clear hl
    have q60 := O6.cell 0
    have q61 := O6.cell 1
    have q70 := O7.cell 0
    have q71 := O7.cell 1
    have q80 := O8.cell 0
    have q81 := O8.cell 1
    go_enter Tryz.func5, Tryz.ntmps5
    go_wp2_with (first | (go_at_call 12; refine (HL.out _ _ (by simp)).mono ?_; rintro e wn ⟨rfl, rfl⟩; replace O6 := O6.alloc (.cells #[.slice A0 n0 c0, .bool s0, .slice A1 n1 c1, .bool s1, .slice A2 n2 c2, .bool s2] 24); replace O7 := O7.alloc (.cells #[.slice A0 n0 c0, .bool s0, .slice A1 n1 c1, .bool s1, .slice A2 n2 c2, .bool s2] 24); replace O8 := O8.alloc (.cells #[.slice A0 n0 c0, .bool s0, .slice A1 n1 c1, .bool s1, .slice A2 n2 c2, .bool s2] 24); replace r0 := r0.alloc (.cells #[.slice A0 n0 c0, .bool s0, .slice A1 n1 c1, .bool s1, .slice A2 n2 c2, .bool s2] 24); replace r1 := r1.alloc (.cells #[.slice A0 n0 c0, .bool s0, .slice A1 n1 c1, .bool s1, .slice A2 n2 c2, .bool s2] 24); replace r2 := r2.alloc (.cells #[.slice A0 n0 c0, .bool s0, .slice A1 n1 c1, .bool s1, .slice A2 n2 c2, .bool s2] 24); replace TT := TT.alloc (.cells #[.slice A0 n0 c0, .bool s0, .slice A1 n1 c1, .bool s1, .slice A2 n2 c2, .bool s2] 24); replace BB := Lib.hid (below_new BB.out (.cells #[.slice A0 n0 c0, .bool s0, .slice A1 n1 c1, .bool s1, .slice A2 n2 c2, .bool s2] 24))) | (go_at_call 13; refine (awake_any _ TT).mono ?_; rintro e wn ⟨rfl, hb⟩; replace BB := Lib.hid (below_step BB.out hb)))
    go_ret
    exact ⟨rfl, BB.out⟩
end Go.Proofs.YtognpmggfplekaaGreatDoor
