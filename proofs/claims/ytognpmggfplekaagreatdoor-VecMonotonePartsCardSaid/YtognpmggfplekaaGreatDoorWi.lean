/-
  The walk of VecMonotoneParts: it returns true. Conditions: the tables of package bit read as the program lays them.
-/
import Derived.Test.YtognpmggfplekaaGreatDoorWx
import Derived.Test.YtognpmggfplekaaGreatDoorWh
namespace Go.Proofs.YtognpmggfplekaaGreatDoor
open Go Go.RowKit

set_option maxRecDepth 100000 in
theorem parts (A0 A1 A2 A3 : Option Addr) (n0 c0 n1 c1 n2 c2 n3 c3 : Nat) (s0 s1 s2 s3 : Bool) (l0 l1 l2 l3 : List Int) (a4 a5 : Int) (b4 : I64 a4) (b5 : I64 a5) (R1 : Rfn (⟨l0, s0⟩ : V) (⟨l2, s2⟩ : V)) (R2 : Rfn (⟨l1, s1⟩ : V) (⟨l3, s3⟩ : V)) :
    ∃ (x0 y0 x1 y1 x2 y2 x3 y3 x4 y4 : V) (e0 e1 e2 e3 e4 : Int), (belV x0 y0 = true ∧ belV x1 y1 = true ∧ belV x2 y2 = true ∧ belV x3 y3 = true ∧ belV x4 y4 = true) ∧
    (∀ (u : World), Rb u A0 n0 l0 → Calls Tryz.prog 41 #[.agg #[.slice A0 n0 c0, .bool s0], .int .i64 a4] u (RetX u x0 e0)) ∧ (∀ (u : World), Rb u A2 n2 l2 → Calls Tryz.prog 41 #[.agg #[.slice A2 n2 c2, .bool s2], .int .i64 a4] u (RetX u y0 e0)) ∧ (∀ (u : World) (H : Nat), u.heap.size = H → Rb u A0 n0 l0 → Rb u A1 n1 l1 → Calls Tryz.prog 43 #[.slice (some ⟨H, 0, none⟩) 2 2] (u.alloc (.cells #[.slice A0 n0 c0, .bool s0, .slice A1 n1 c1, .bool s1] 24)) (RetX (u.alloc (.cells #[.slice A0 n0 c0, .bool s0, .slice A1 n1 c1, .bool s1] 24)) x1 e1)) ∧ (∀ (u : World) (H : Nat), u.heap.size = H → Rb u A2 n2 l2 → Rb u A3 n3 l3 → Calls Tryz.prog 43 #[.slice (some ⟨H, 0, none⟩) 2 2] (u.alloc (.cells #[.slice A2 n2 c2, .bool s2, .slice A3 n3 c3, .bool s3] 24)) (RetX (u.alloc (.cells #[.slice A2 n2 c2, .bool s2, .slice A3 n3 c3, .bool s3] 24)) y1 e1)) ∧ (∀ (u : World), Rb u A0 n0 l0 → Calls Tryz.prog 45 #[.agg #[.slice A0 n0 c0, .bool s0], .int .i64 a4] u (RetX u x2 e2)) ∧ (∀ (u : World), Rb u A2 n2 l2 → Calls Tryz.prog 45 #[.agg #[.slice A2 n2 c2, .bool s2], .int .i64 a4] u (RetX u y2 e2)) ∧ (∀ (u : World), Rb u A0 n0 l0 → Calls Tryz.prog 47 #[.agg #[.slice A0 n0 c0, .bool s0], .int .i64 a4, .int .i64 a5] u (RetX u x3 e3)) ∧ (∀ (u : World), Rb u A2 n2 l2 → Calls Tryz.prog 47 #[.agg #[.slice A2 n2 c2, .bool s2], .int .i64 a4, .int .i64 a5] u (RetX u y3 e3)) ∧ (∀ (u : World), Rb u A0 n0 l0 → Rb u A1 n1 l1 → Calls Tryz.prog 49 #[.agg #[.slice A0 n0 c0, .bool s0], .int .i64 a4, .int .i64 a5, .agg #[.slice A1 n1 c1, .bool s1]] u (RetX u x4 e4)) ∧ (∀ (u : World), Rb u A2 n2 l2 → Rb u A3 n3 l3 → Calls Tryz.prog 49 #[.agg #[.slice A2 n2 c2, .bool s2], .int .i64 a4, .int .i64 a5, .agg #[.slice A3 n3 c3, .bool s3]] u (RetX u y4 e4)) := by
  have hc := mo_co (u := two2 (⟨l0, s0⟩ : V) (⟨l1, s1⟩ : V)) (v := two2 (⟨l2, s2⟩ : V) (⟨l3, s3⟩ : V)) (n := 2) (fun j hj => by unfold two2; split; exact R1; exact R2)
  have hr := mo_re R1 a4
  refine ⟨(resV (⟨l0, s0⟩ : V) a4), (resV (⟨l2, s2⟩ : V) a4), (coV 2 (two2 (⟨l0, s0⟩ : V) (⟨l1, s1⟩ : V))), (coV 2 (two2 (⟨l2, s2⟩ : V) (⟨l3, s3⟩ : V))), (reV (⟨l0, s0⟩ : V) a4), (reV (⟨l2, s2⟩ : V) a4), (slV (⟨l0, s0⟩ : V) a4 a5), (slV (⟨l2, s2⟩ : V) a4 a5), (putV (⟨l0, s0⟩ : V) a4 a5 (⟨l1, s1⟩ : V)), (putV (⟨l2, s2⟩ : V) a4 a5 (⟨l3, s3⟩ : V)), (vwE a4), (coE 2 (two2 (⟨l0, s0⟩ : V) (⟨l1, s1⟩ : V))), (reE (⟨l0, s0⟩ : V) a4), (spE a4 a5), (spE a4 a5), ⟨mo_res R1 a4, hc.2, hr.2, mo_sl R1 a4 a5, mo_put R1 R2 a4 a5⟩, ?_, ?_, ?_, ?_, ?_, ?_, ?_, ?_, ?_, ?_⟩
  · exact fun u h => resize_v_w A0 n0 c0 s0 l0 a4 u h
  · exact fun u h => resize_v_w A2 n2 c2 s2 l2 a4 u h
  · exact fun u H hH h h' => by subst hH; exact conc2 A0 A1 n0 c0 n1 c1 s0 s1 l0 l1 u h h'
  · exact fun u H hH h h' => by subst hH; exact (conc2 A2 A3 n2 c2 n3 c3 s2 s3 l2 l3 u h h').mono fun _ _ q => q.er hc.1.symm
  · exact fun u h => repeat_v_w A0 n0 c0 s0 l0 a4 u h
  · exact fun u h => (repeat_v_w A2 n2 c2 s2 l2 a4 u h).mono fun _ _ q => q.er hr.1.symm
  · exact fun u h => slice_v_w A0 n0 c0 s0 l0 a4 a5 u h b4 b5
  · exact fun u h => slice_v_w A2 n2 c2 s2 l2 a4 a5 u h b4 b5
  · exact fun u h h' => put_v_w A0 A1 n0 n1 c0 c1 s0 s1 l0 l1 a4 a5 u h h' b4 b5
  · exact fun u h h' => put_v_w A2 A3 n2 n3 c2 c3 s2 s3 l2 l3 a4 a5 u h h' b4 b5

set_option maxRecDepth 100000 in
set_option maxHeartbeats 8000000 in
theorem walk_VecMonotoneParts (A0 : Option Addr) (n0 c0 : Nat) (s0 : Bool) (l0 : List Int) (A1 : Option Addr) (n1 c1 : Nat) (s1 : Bool) (l1 : List Int) (A2 : Option Addr) (n2 c2 : Nat) (s2 : Bool) (l2 : List Int) (A3 : Option Addr) (n3 c3 : Nat) (s3 : Bool) (l3 : List Int) (a4 : Int) (a5 : Int) (w : World) (h0 : Rb w A0 n0 l0) (_hc0 : n0 ≤ c0) (h1 : Rb w A1 n1 l1) (_hc1 : n1 ≤ c1) (h2 : Rb w A2 n2 l2) (_hc2 : n2 ≤ c2) (h3 : Rb w A3 n3 l3) (_hc3 : n3 ≤ c3) (b4 : I64 a4) (b5 : I64 a5) (TT : Tabs w) : Calls Tryz.prog 9 #[.agg #[.slice A0 n0 c0, .bool s0], .agg #[.slice A1 n1 c1, .bool s1], .agg #[.slice A2 n2 c2, .bool s2], .agg #[.slice A3 n3 c3, .bool s3], .int .i64 a4, .int .i64 a5] w fun e w' => e = .returned (.bool true) ∧ Below w.heap.size w w' := by
  have na0 := h0.nn
  have na1 := h1.nn
  have na2 := h2.nn
  have na3 := h3.nn
  have O0 := ((((Own.at1 w 24 #[.slice A0 n0 c0, .bool s0] (g := w.heap.size) (by simp)).alloc (.cells #[.slice A1 n1 c1, .bool s1] 24)).alloc (.cells #[.slice A2 n2 c2, .bool s2] 24)).alloc (.cells #[.slice A3 n3 c3, .bool s3] 24))
  have O1 := (((Own.at1 (w.alloc (.cells #[.slice A0 n0 c0, .bool s0] 24)) 24 #[.slice A1 n1 c1, .bool s1] (g := w.heap.size + 1) (by simp)).alloc (.cells #[.slice A2 n2 c2, .bool s2] 24)).alloc (.cells #[.slice A3 n3 c3, .bool s3] 24))
  have O2 := ((Own.at1 ((w.alloc (.cells #[.slice A0 n0 c0, .bool s0] 24)).alloc (.cells #[.slice A1 n1 c1, .bool s1] 24)) 24 #[.slice A2 n2 c2, .bool s2] (g := w.heap.size + 1 + 1) (by simp)).alloc (.cells #[.slice A3 n3 c3, .bool s3] 24))
  have O3 := (Own.at1 (((w.alloc (.cells #[.slice A0 n0 c0, .bool s0] 24)).alloc (.cells #[.slice A1 n1 c1, .bool s1] 24)).alloc (.cells #[.slice A2 n2 c2, .bool s2] 24)) 24 #[.slice A3 n3 c3, .bool s3] (g := w.heap.size + 1 + 1 + 1) (by simp))
  have BB := (below_new (below_new (below_new (below_new (Below.refl w.heap.size w) (.cells #[.slice A0 n0 c0, .bool s0] 24)) (.cells #[.slice A1 n1 c1, .bool s1] 24)) (.cells #[.slice A2 n2 c2, .bool s2] 24)) (.cells #[.slice A3 n3 c3, .bool s3] 24))
  have X6 := O0
  have X7 := O1
  have X8 := O2
  have X9 := O3
  clear O0
  clear O1
  clear O2
  clear O3
  have O6 := X6
  clear X6
  have O7 := X7
  clear X7
  have O8 := X8
  clear X8
  have O9 := X9
  clear X9
  replace TT := TT.step BB
  have r0 := h0.step BB
  have r1 := h1.step BB
  have r2 := h2.step BB
  have r3 := h3.step BB
  clear h0 h1 h2 h3
  replace BB := Lib.hid BB
  cases hl : lngB [n0, n1, n2, n3]
  · skip
    have hn := lng_no hl
    have hn0 : n0 ≤ 140 := hn n0 (by simp)
    have hn1 : n1 ≤ 140 := hn n1 (by simp)
    have hn2 : n2 ≤ 140 := hn n2 (by simp)
    have hn3 : n3 ≤ 140 := hn n3 (by simp)
    have HL := Lib.hid (long4_b _ A0 A1 A2 A3 n0 c0 n1 c1 n2 c2 n3 c3 s0 s1 s2 s3 hl)
    clear hl hn
    have q60 := O6.cell 0
    have q61 := O6.cell 1
    have q70 := O7.cell 0
    have q71 := O7.cell 1
    have q80 := O8.cell 0
    have q81 := O8.cell 1
    have q90 := O9.cell 0
    have q91 := O9.cell 1
    cases hG1 : rfB (⟨l2, s2⟩ : V) (⟨l0, s0⟩ : V)
    · skip
      have G1 := Lib.hid (fun (u : World) (h : Rb u A2 n2 l2) (h' : Rb u A0 n0 l0) => refines_b _ A2 A0 n2 n0 c2 c0 s2 s0 l2 l0 u h h' (by omega) (by omega) hG1)
      clear hG1
      go_enter Tryz.func9, Tryz.ntmps9
      go_wp2_with (first | (go_at_call 12; refine (HL.out _ _ (by simp)).mono ?_; rintro e wn ⟨rfl, rfl⟩; replace O6 := O6.alloc (.cells #[.slice A0 n0 c0, .bool s0, .slice A1 n1 c1, .bool s1, .slice A2 n2 c2, .bool s2, .slice A3 n3 c3, .bool s3] 24); replace O7 := O7.alloc (.cells #[.slice A0 n0 c0, .bool s0, .slice A1 n1 c1, .bool s1, .slice A2 n2 c2, .bool s2, .slice A3 n3 c3, .bool s3] 24); replace O8 := O8.alloc (.cells #[.slice A0 n0 c0, .bool s0, .slice A1 n1 c1, .bool s1, .slice A2 n2 c2, .bool s2, .slice A3 n3 c3, .bool s3] 24); replace O9 := O9.alloc (.cells #[.slice A0 n0 c0, .bool s0, .slice A1 n1 c1, .bool s1, .slice A2 n2 c2, .bool s2, .slice A3 n3 c3, .bool s3] 24); replace r0 := r0.alloc (.cells #[.slice A0 n0 c0, .bool s0, .slice A1 n1 c1, .bool s1, .slice A2 n2 c2, .bool s2, .slice A3 n3 c3, .bool s3] 24); replace r1 := r1.alloc (.cells #[.slice A0 n0 c0, .bool s0, .slice A1 n1 c1, .bool s1, .slice A2 n2 c2, .bool s2, .slice A3 n3 c3, .bool s3] 24); replace r2 := r2.alloc (.cells #[.slice A0 n0 c0, .bool s0, .slice A1 n1 c1, .bool s1, .slice A2 n2 c2, .bool s2, .slice A3 n3 c3, .bool s3] 24); replace r3 := r3.alloc (.cells #[.slice A0 n0 c0, .bool s0, .slice A1 n1 c1, .bool s1, .slice A2 n2 c2, .bool s2, .slice A3 n3 c3, .bool s3] 24); replace TT := TT.alloc (.cells #[.slice A0 n0 c0, .bool s0, .slice A1 n1 c1, .bool s1, .slice A2 n2 c2, .bool s2, .slice A3 n3 c3, .bool s3] 24); replace BB := Lib.hid (below_new BB.out (.cells #[.slice A0 n0 c0, .bool s0, .slice A1 n1 c1, .bool s1, .slice A2 n2 c2, .bool s2, .slice A3 n3 c3, .bool s3] 24))) | (go_at_call 13; refine (awake_any _ TT).mono ?_; rintro e wn ⟨rfl, hb⟩; have kb := hb; (try replace O6 := O6.step kb); (try replace O7 := O7.step kb); (try replace O8 := O8.step kb); (try replace O9 := O9.step kb); (try replace r0 := r0.step kb); (try replace r1 := r1.step kb); (try replace r2 := r2.step kb); (try replace r3 := r3.step kb); (try replace TT := TT.step kb); replace BB := Lib.hid (below_step BB.out kb); (try clear q60 q61); (try (have q60 := O6.cell 0; have q61 := O6.cell 1)); (try clear q70 q71); (try (have q70 := O7.cell 0; have q71 := O7.cell 1)); (try clear q80 q81); (try (have q80 := O8.cell 0; have q81 := O8.cell 1)); (try clear q90 q91); (try (have q90 := O9.cell 0; have q91 := O9.cell 1))) | (go_at_call 83; first | ((with_reducible refine (G1.out _ (by assumption) (by assumption)).mono ?_); rintro e wn ⟨rfl, hb⟩; have kb := hb; (try replace O6 := O6.step kb); (try replace O7 := O7.step kb); (try replace O8 := O8.step kb); (try replace O9 := O9.step kb); (try replace r0 := r0.step kb); (try replace r1 := r1.step kb); (try replace r2 := r2.step kb); (try replace r3 := r3.step kb); (try replace TT := TT.step kb); replace BB := Lib.hid (below_step BB.out kb); (try clear q60 q61); (try (have q60 := O6.cell 0; have q61 := O6.cell 1)); (try clear q70 q71); (try (have q70 := O7.cell 0; have q71 := O7.cell 1)); (try clear q80 q81); (try (have q80 := O8.cell 0; have q81 := O8.cell 1)); (try clear q90 q91); (try (have q90 := O9.cell 0; have q91 := O9.cell 1)))))
      go_ret
      exact ⟨rfl, BB.out⟩
    · have R1 := Lib.hid (rfn_of hG1 na0 na2)
      have G1 := Lib.hid (fun (u : World) (h : Rb u A2 n2 l2) (h' : Rb u A0 n0 l0) => refines_b _ A2 A0 n2 n0 c2 c0 s2 s0 l2 l0 u h h' (by omega) (by omega) hG1)
      clear hG1
      cases hG2 : rfB (⟨l3, s3⟩ : V) (⟨l1, s1⟩ : V)
      · skip
        have G2 := Lib.hid (fun (u : World) (h : Rb u A3 n3 l3) (h' : Rb u A1 n1 l1) => refines_b _ A3 A1 n3 n1 c3 c1 s3 s1 l3 l1 u h h' (by omega) (by omega) hG2)
        clear hG2
        go_enter Tryz.func9, Tryz.ntmps9
        go_wp2_with (first | (go_at_call 12; refine (HL.out _ _ (by simp)).mono ?_; rintro e wn ⟨rfl, rfl⟩; replace O6 := O6.alloc (.cells #[.slice A0 n0 c0, .bool s0, .slice A1 n1 c1, .bool s1, .slice A2 n2 c2, .bool s2, .slice A3 n3 c3, .bool s3] 24); replace O7 := O7.alloc (.cells #[.slice A0 n0 c0, .bool s0, .slice A1 n1 c1, .bool s1, .slice A2 n2 c2, .bool s2, .slice A3 n3 c3, .bool s3] 24); replace O8 := O8.alloc (.cells #[.slice A0 n0 c0, .bool s0, .slice A1 n1 c1, .bool s1, .slice A2 n2 c2, .bool s2, .slice A3 n3 c3, .bool s3] 24); replace O9 := O9.alloc (.cells #[.slice A0 n0 c0, .bool s0, .slice A1 n1 c1, .bool s1, .slice A2 n2 c2, .bool s2, .slice A3 n3 c3, .bool s3] 24); replace r0 := r0.alloc (.cells #[.slice A0 n0 c0, .bool s0, .slice A1 n1 c1, .bool s1, .slice A2 n2 c2, .bool s2, .slice A3 n3 c3, .bool s3] 24); replace r1 := r1.alloc (.cells #[.slice A0 n0 c0, .bool s0, .slice A1 n1 c1, .bool s1, .slice A2 n2 c2, .bool s2, .slice A3 n3 c3, .bool s3] 24); replace r2 := r2.alloc (.cells #[.slice A0 n0 c0, .bool s0, .slice A1 n1 c1, .bool s1, .slice A2 n2 c2, .bool s2, .slice A3 n3 c3, .bool s3] 24); replace r3 := r3.alloc (.cells #[.slice A0 n0 c0, .bool s0, .slice A1 n1 c1, .bool s1, .slice A2 n2 c2, .bool s2, .slice A3 n3 c3, .bool s3] 24); replace TT := TT.alloc (.cells #[.slice A0 n0 c0, .bool s0, .slice A1 n1 c1, .bool s1, .slice A2 n2 c2, .bool s2, .slice A3 n3 c3, .bool s3] 24); replace BB := Lib.hid (below_new BB.out (.cells #[.slice A0 n0 c0, .bool s0, .slice A1 n1 c1, .bool s1, .slice A2 n2 c2, .bool s2, .slice A3 n3 c3, .bool s3] 24))) | (go_at_call 13; refine (awake_any _ TT).mono ?_; rintro e wn ⟨rfl, hb⟩; have kb := hb; (try replace O6 := O6.step kb); (try replace O7 := O7.step kb); (try replace O8 := O8.step kb); (try replace O9 := O9.step kb); (try replace r0 := r0.step kb); (try replace r1 := r1.step kb); (try replace r2 := r2.step kb); (try replace r3 := r3.step kb); (try replace TT := TT.step kb); replace BB := Lib.hid (below_step BB.out kb); (try clear q60 q61); (try (have q60 := O6.cell 0; have q61 := O6.cell 1)); (try clear q70 q71); (try (have q70 := O7.cell 0; have q71 := O7.cell 1)); (try clear q80 q81); (try (have q80 := O8.cell 0; have q81 := O8.cell 1)); (try clear q90 q91); (try (have q90 := O9.cell 0; have q91 := O9.cell 1))) | (go_at_call 83; first | ((with_reducible refine (G1.out _ (by assumption) (by assumption)).mono ?_); rintro e wn ⟨rfl, hb⟩; have kb := hb; (try replace O6 := O6.step kb); (try replace O7 := O7.step kb); (try replace O8 := O8.step kb); (try replace O9 := O9.step kb); (try replace r0 := r0.step kb); (try replace r1 := r1.step kb); (try replace r2 := r2.step kb); (try replace r3 := r3.step kb); (try replace TT := TT.step kb); replace BB := Lib.hid (below_step BB.out kb); (try clear q60 q61); (try (have q60 := O6.cell 0; have q61 := O6.cell 1)); (try clear q70 q71); (try (have q70 := O7.cell 0; have q71 := O7.cell 1)); (try clear q80 q81); (try (have q80 := O8.cell 0; have q81 := O8.cell 1)); (try clear q90 q91); (try (have q90 := O9.cell 0; have q91 := O9.cell 1))) | ((with_reducible refine (G2.out _ (by assumption) (by assumption)).mono ?_); rintro e wn ⟨rfl, hb⟩; have kb := hb; (try replace O6 := O6.step kb); (try replace O7 := O7.step kb); (try replace O8 := O8.step kb); (try replace O9 := O9.step kb); (try replace r0 := r0.step kb); (try replace r1 := r1.step kb); (try replace r2 := r2.step kb); (try replace r3 := r3.step kb); (try replace TT := TT.step kb); replace BB := Lib.hid (below_step BB.out kb); (try clear q60 q61); (try (have q60 := O6.cell 0; have q61 := O6.cell 1)); (try clear q70 q71); (try (have q70 := O7.cell 0; have q71 := O7.cell 1)); (try clear q80 q81); (try (have q80 := O8.cell 0; have q81 := O8.cell 1)); (try clear q90 q91); (try (have q90 := O9.cell 0; have q91 := O9.cell 1)))))
        go_ret
        exact ⟨rfl, BB.out⟩
      · have R2 := Lib.hid (rfn_of hG2 na1 na3)
        have G2 := Lib.hid (fun (u : World) (h : Rb u A3 n3 l3) (h' : Rb u A1 n1 l1) => refines_b _ A3 A1 n3 n1 c3 c1 s3 s1 l3 l1 u h h' (by omega) (by omega) hG2)
        clear hG2 na0 na1 na2 na3
        obtain ⟨x0, y0, x1, y1, x2, y2, x3, y3, x4, y4, e0, e1, e2, e3, e4, ⟨hb0, hb1, hb2, hb3, hb4⟩, K0, K1, K2, K3, K4, K5, K6, K7, K8, K9⟩ := parts A0 A1 A2 A3 n0 c0 n1 c1 n2 c2 n3 c3 s0 s1 s2 s3 l0 l1 l2 l3 a4 a5 b4 b5 R1.out R2.out
        clear R1 R2 b4 b5
        replace K0 := Lib.hid K0
        replace K1 := Lib.hid K1
        replace K2 := Lib.hid K2
        replace K3 := Lib.hid K3
        replace K4 := Lib.hid K4
        replace K5 := Lib.hid K5
        replace K6 := Lib.hid K6
        replace K7 := Lib.hid K7
        replace K8 := Lib.hid K8
        replace K9 := Lib.hid K9
        replace hb0 := Lib.hid hb0
        replace hb1 := Lib.hid hb1
        replace hb2 := Lib.hid hb2
        replace hb3 := Lib.hid hb3
        replace hb4 := Lib.hid hb4
        go_enter Tryz.func9, Tryz.ntmps9
        go_wp2_with (first | (go_at_call 12; refine (HL.out _ _ (by simp)).mono ?_; rintro e wn ⟨rfl, rfl⟩; replace O6 := O6.alloc (.cells #[.slice A0 n0 c0, .bool s0, .slice A1 n1 c1, .bool s1, .slice A2 n2 c2, .bool s2, .slice A3 n3 c3, .bool s3] 24); replace O7 := O7.alloc (.cells #[.slice A0 n0 c0, .bool s0, .slice A1 n1 c1, .bool s1, .slice A2 n2 c2, .bool s2, .slice A3 n3 c3, .bool s3] 24); replace O8 := O8.alloc (.cells #[.slice A0 n0 c0, .bool s0, .slice A1 n1 c1, .bool s1, .slice A2 n2 c2, .bool s2, .slice A3 n3 c3, .bool s3] 24); replace O9 := O9.alloc (.cells #[.slice A0 n0 c0, .bool s0, .slice A1 n1 c1, .bool s1, .slice A2 n2 c2, .bool s2, .slice A3 n3 c3, .bool s3] 24); replace r0 := r0.alloc (.cells #[.slice A0 n0 c0, .bool s0, .slice A1 n1 c1, .bool s1, .slice A2 n2 c2, .bool s2, .slice A3 n3 c3, .bool s3] 24); replace r1 := r1.alloc (.cells #[.slice A0 n0 c0, .bool s0, .slice A1 n1 c1, .bool s1, .slice A2 n2 c2, .bool s2, .slice A3 n3 c3, .bool s3] 24); replace r2 := r2.alloc (.cells #[.slice A0 n0 c0, .bool s0, .slice A1 n1 c1, .bool s1, .slice A2 n2 c2, .bool s2, .slice A3 n3 c3, .bool s3] 24); replace r3 := r3.alloc (.cells #[.slice A0 n0 c0, .bool s0, .slice A1 n1 c1, .bool s1, .slice A2 n2 c2, .bool s2, .slice A3 n3 c3, .bool s3] 24); replace TT := TT.alloc (.cells #[.slice A0 n0 c0, .bool s0, .slice A1 n1 c1, .bool s1, .slice A2 n2 c2, .bool s2, .slice A3 n3 c3, .bool s3] 24); replace BB := Lib.hid (below_new BB.out (.cells #[.slice A0 n0 c0, .bool s0, .slice A1 n1 c1, .bool s1, .slice A2 n2 c2, .bool s2, .slice A3 n3 c3, .bool s3] 24))) | (go_at_call 13; refine (awake_any _ TT).mono ?_; rintro e wn ⟨rfl, hb⟩; have kb := hb; (try replace O6 := O6.step kb); (try replace O7 := O7.step kb); (try replace O8 := O8.step kb); (try replace O9 := O9.step kb); (try replace r0 := r0.step kb); (try replace r1 := r1.step kb); (try replace r2 := r2.step kb); (try replace r3 := r3.step kb); (try replace TT := TT.step kb); replace BB := Lib.hid (below_step BB.out kb); (try clear q60 q61); (try (have q60 := O6.cell 0; have q61 := O6.cell 1)); (try clear q70 q71); (try (have q70 := O7.cell 0; have q71 := O7.cell 1)); (try clear q80 q81); (try (have q80 := O8.cell 0; have q81 := O8.cell 1)); (try clear q90 q91); (try (have q90 := O9.cell 0; have q91 := O9.cell 1))) | (go_at_call 83; first | ((with_reducible refine (G1.out _ (by assumption) (by assumption)).mono ?_); rintro e wn ⟨rfl, hb⟩; have kb := hb; (try replace O6 := O6.step kb); (try replace O7 := O7.step kb); (try replace O8 := O8.step kb); (try replace O9 := O9.step kb); (try replace r0 := r0.step kb); (try replace r1 := r1.step kb); (try replace r2 := r2.step kb); (try replace r3 := r3.step kb); (try replace TT := TT.step kb); replace BB := Lib.hid (below_step BB.out kb); (try clear q60 q61); (try (have q60 := O6.cell 0; have q61 := O6.cell 1)); (try clear q70 q71); (try (have q70 := O7.cell 0; have q71 := O7.cell 1)); (try clear q80 q81); (try (have q80 := O8.cell 0; have q81 := O8.cell 1)); (try clear q90 q91); (try (have q90 := O9.cell 0; have q91 := O9.cell 1)))))
        go_at_call 83
        (with_reducible refine (G2.out _ (by assumption) (by assumption)).mono ?_); rintro e wn ⟨rfl, hb⟩; have kb := hb; (try replace O6 := O6.step kb); (try replace O7 := O7.step kb); (try replace O8 := O8.step kb); (try replace O9 := O9.step kb); (try replace r0 := r0.step kb); (try replace r1 := r1.step kb); (try replace r2 := r2.step kb); (try replace r3 := r3.step kb); (try replace TT := TT.step kb); replace BB := Lib.hid (below_step BB.out kb); (try clear q60 q61); (try (have q60 := O6.cell 0; have q61 := O6.cell 1)); (try clear q70 q71); (try (have q70 := O7.cell 0; have q71 := O7.cell 1)); (try clear q80 q81); (try (have q80 := O8.cell 0; have q81 := O8.cell 1)); (try clear q90 q91); (try (have q90 := O9.cell 0; have q91 := O9.cell 1))
        clear G1 G2 HL
        have M13 := (((Own.at1 wn 70 #[.slice none 0 0, .bool false, .slice none 0 0, .bool false, .slice none 0 0, .bool false, .slice none 0 0, .bool false, .slice none 0 0, .bool false] (g := wn.heap.size) rfl).alloc (.cells #[.slice none 0 0, .bool false, .slice none 0 0, .bool false, .slice none 0 0, .bool false, .slice none 0 0, .bool false, .slice none 0 0, .bool false] 70)).alloc (.cells #[.int .i64 0, .int .i64 0, .int .i64 0, .int .i64 0, .int .i64 0] 71)).alloc (.cells #[.int .i64 0, .int .i64 0, .int .i64 0, .int .i64 0, .int .i64 0] 71)
        have M14 := ((Own.at1 (wn.alloc (.cells #[.slice none 0 0, .bool false, .slice none 0 0, .bool false, .slice none 0 0, .bool false, .slice none 0 0, .bool false, .slice none 0 0, .bool false] 70)) 70 #[.slice none 0 0, .bool false, .slice none 0 0, .bool false, .slice none 0 0, .bool false, .slice none 0 0, .bool false, .slice none 0 0, .bool false] (g := wn.heap.size + 1) (by simp)).alloc (.cells #[.int .i64 0, .int .i64 0, .int .i64 0, .int .i64 0, .int .i64 0] 71)).alloc (.cells #[.int .i64 0, .int .i64 0, .int .i64 0, .int .i64 0, .int .i64 0] 71)
        have M15 := (Own.at1 ((wn.alloc (.cells #[.slice none 0 0, .bool false, .slice none 0 0, .bool false, .slice none 0 0, .bool false, .slice none 0 0, .bool false, .slice none 0 0, .bool false] 70)).alloc (.cells #[.slice none 0 0, .bool false, .slice none 0 0, .bool false, .slice none 0 0, .bool false, .slice none 0 0, .bool false, .slice none 0 0, .bool false] 70)) 71 #[.int .i64 0, .int .i64 0, .int .i64 0, .int .i64 0, .int .i64 0] (g := wn.heap.size + 1 + 1) (by simp)).alloc (.cells #[.int .i64 0, .int .i64 0, .int .i64 0, .int .i64 0, .int .i64 0] 71)
        have M16 := (Own.at1 (((wn.alloc (.cells #[.slice none 0 0, .bool false, .slice none 0 0, .bool false, .slice none 0 0, .bool false, .slice none 0 0, .bool false, .slice none 0 0, .bool false] 70)).alloc (.cells #[.slice none 0 0, .bool false, .slice none 0 0, .bool false, .slice none 0 0, .bool false, .slice none 0 0, .bool false, .slice none 0 0, .bool false] 70)).alloc (.cells #[.int .i64 0, .int .i64 0, .int .i64 0, .int .i64 0, .int .i64 0] 71)) 71 #[.int .i64 0, .int .i64 0, .int .i64 0, .int .i64 0, .int .i64 0] (g := wn.heap.size + 1 + 1 + 1) (by simp))
        have Bn := below_new (below_new (below_new (below_new (Below.refl wn.heap.size wn) (.cells #[.slice none 0 0, .bool false, .slice none 0 0, .bool false, .slice none 0 0, .bool false, .slice none 0 0, .bool false, .slice none 0 0, .bool false] 70)) (.cells #[.slice none 0 0, .bool false, .slice none 0 0, .bool false, .slice none 0 0, .bool false, .slice none 0 0, .bool false, .slice none 0 0, .bool false] 70)) (.cells #[.int .i64 0, .int .i64 0, .int .i64 0, .int .i64 0, .int .i64 0] 71)) (.cells #[.int .i64 0, .int .i64 0, .int .i64 0, .int .i64 0, .int .i64 0] 71)
        have hGG := Lib.hid (show w.heap.size + 1 + 1 + 1 < wn.heap.size from O9.lt)
        replace BB := BB.out
        have O6n := O6
        have O7n := O7
        have O8n := O8
        have O9n := O9
        have r0n := r0
        have r1n := r1
        have r2n := r2
        have r3n := r3
        have TTn := TT
        clear q60 q61 q70 q71 q80 q81 q90 q91 O6 O7 O8 O9 r0 r1 r2 r3 TT
        have O6 := O6n.step Bn
        have O7 := O7n.step Bn
        have O8 := O8n.step Bn
        have O9 := O9n.step Bn
        have q60 := O6.cell 0
        have q61 := O6.cell 1
        have q70 := O7.cell 0
        have q71 := O7.cell 1
        have q80 := O8.cell 0
        have q81 := O8.cell 1
        have q90 := O9.cell 0
        have q91 := O9.cell 1
        have hU : ((((wn.alloc (.cells #[.slice none 0 0, .bool false, .slice none 0 0, .bool false, .slice none 0 0, .bool false, .slice none 0 0, .bool false, .slice none 0 0, .bool false] 70)).alloc (.cells #[.slice none 0 0, .bool false, .slice none 0 0, .bool false, .slice none 0 0, .bool false, .slice none 0 0, .bool false, .slice none 0 0, .bool false] 70)).alloc (.cells #[.int .i64 0, .int .i64 0, .int .i64 0, .int .i64 0, .int .i64 0] 71)).alloc (.cells #[.int .i64 0, .int .i64 0, .int .i64 0, .int .i64 0, .int .i64 0] 71)) = ((((wn.alloc (.cells #[.slice none 0 0, .bool false, .slice none 0 0, .bool false, .slice none 0 0, .bool false, .slice none 0 0, .bool false, .slice none 0 0, .bool false] 70)).alloc (.cells #[.slice none 0 0, .bool false, .slice none 0 0, .bool false, .slice none 0 0, .bool false, .slice none 0 0, .bool false, .slice none 0 0, .bool false] 70)).alloc (.cells #[.int .i64 0, .int .i64 0, .int .i64 0, .int .i64 0, .int .i64 0] 71)).alloc (.cells #[.int .i64 0, .int .i64 0, .int .i64 0, .int .i64 0, .int .i64 0] 71)) := rfl
        replace Bn := Lib.hid Bn
        replace O6n := Lib.hid O6n
        replace O7n := Lib.hid O7n
        replace O8n := Lib.hid O8n
        replace O9n := Lib.hid O9n
        replace r0n := Lib.hid r0n
        replace r1n := Lib.hid r1n
        replace r2n := Lib.hid r2n
        replace r3n := Lib.hid r3n
        replace TTn := Lib.hid TTn
        replace BB := Lib.hid BB
        replace M13 := Lib.hid M13
        replace M14 := Lib.hid M14
        replace M15 := Lib.hid M15
        replace M16 := Lib.hid M16
        go_wp2_with fail
        go_at_call 41
        generalize hW : ((((wn.alloc (.cells #[.slice none 0 0, .bool false, .slice none 0 0, .bool false, .slice none 0 0, .bool false, .slice none 0 0, .bool false, .slice none 0 0, .bool false] 70)).alloc (.cells #[.slice none 0 0, .bool false, .slice none 0 0, .bool false, .slice none 0 0, .bool false, .slice none 0 0, .bool false, .slice none 0 0, .bool false] 70)).alloc (.cells #[.int .i64 0, .int .i64 0, .int .i64 0, .int .i64 0, .int .i64 0] 71)).alloc (.cells #[.int .i64 0, .int .i64 0, .int .i64 0, .int .i64 0, .int .i64 0] 71)) = u0 at *
        clear hU
        clear hW
        clear O6
        clear O7
        clear O8
        clear O9
        clear q60 q61 q70 q71 q80 q81 q90 q91
        refine (K0.out u0 (r0n.out.step Bn.out)).mono ?_
        rintro e wk ⟨Ax0, nx0, cx0, rfl, hcx0, hnx0, Nx0, hb⟩
        clear K0
        replace Bn := Lib.hid (below_step Bn.out hb)
        replace M13 := M13.out.step hb
        replace M14 := M14.out.step hb
        replace M15 := M15.out.step hb
        replace M16 := M16.out.step hb
        clear hb
        have k0 := M13.cell 0
        have k1 := M13.cell 1
        have f0 := M13.free 0
        have f1 := M13.free 1
        have D := (M15.far (p := ⟨wn.heap.size, 0, none⟩) (show (wn.heap.size + 1 + 1) ≠ wn.heap.size by omega) (.slice Ax0 nx0 cx0)).far (p := ⟨wn.heap.size, 1, none⟩) (show (wn.heap.size + 1 + 1) ≠ wn.heap.size by omega) (.bool x0.s)
        have k2 := D.cell 0
        have f2 := D.free 0
        replace Nx0 := Lib.hid ((Nx0.tri (i := 0) (k := 1) (j := 0) (a := .slice Ax0 nx0 cx0) (b := .bool x0.s) (z := .int .i64 e0) M13 (by decide) M15 (by decide) (by omega)))
        have YM13 : Own (((wk.setCell ⟨wn.heap.size, 0, none⟩ (.slice Ax0 nx0 cx0)).setCell ⟨wn.heap.size, 1, none⟩ (.bool x0.s)).setCell ⟨(wn.heap.size + 1 + 1), 0, none⟩ (.int .i64 e0)) wn.heap.size 70 #[.slice Ax0 nx0 cx0, .bool x0.s, .slice none 0 0, .bool false, .slice none 0 0, .bool false, .slice none 0 0, .bool false, .slice none 0 0, .bool false] := M13.tri_x (q := (wn.heap.size + 1 + 1)) (by omega)
        have YM14 := M14.tri_far (g := wn.heap.size) (i := 0) (k := 1) (q := (wn.heap.size + 1 + 1)) (j := 0) (a := .slice Ax0 nx0 cx0) (b := .bool x0.s) (z := .int .i64 e0) (by omega) (by omega)
        have YM15 : Own (((wk.setCell ⟨wn.heap.size, 0, none⟩ (.slice Ax0 nx0 cx0)).setCell ⟨wn.heap.size, 1, none⟩ (.bool x0.s)).setCell ⟨(wn.heap.size + 1 + 1), 0, none⟩ (.int .i64 e0)) (wn.heap.size + 1 + 1) 71 #[.int .i64 e0, .int .i64 0, .int .i64 0, .int .i64 0, .int .i64 0] := M15.tri_e (g := wn.heap.size) (by omega)
        have YM16 := M16.tri_far (g := wn.heap.size) (i := 0) (k := 1) (q := (wn.heap.size + 1 + 1)) (j := 0) (a := .slice Ax0 nx0 cx0) (b := .bool x0.s) (z := .int .i64 e0) (by omega) (by omega)
        replace M13 := Lib.hid YM13
        clear YM13
        replace M14 := Lib.hid YM14
        clear YM14
        replace M15 := Lib.hid YM15
        clear YM15
        replace M16 := Lib.hid YM16
        clear YM16
        replace Bn := Lib.hid (below_tri' (i := 0) (k := 1) (j := 0) (a := .slice Ax0 nx0 cx0) (b := .bool x0.s) (z := .int .i64 e0) Bn.out (show wn.heap.size ≤ wn.heap.size by omega) (show wn.heap.size ≤ (wn.heap.size + 1 + 1) by omega))
        have tz : (((wk.setCell ⟨wn.heap.size, 0, none⟩ (.slice Ax0 nx0 cx0)).setCell ⟨wn.heap.size, 1, none⟩ (.bool x0.s)).setCell ⟨(wn.heap.size + 1 + 1), 0, none⟩ (.int .i64 e0)).heap.size = wk.heap.size := by simp
        have O6 := O6n.out.step Bn.out
        have O7 := O7n.out.step Bn.out
        have O8 := O8n.out.step Bn.out
        have O9 := O9n.out.step Bn.out
        have q60 := O6.cell 0
        have q61 := O6.cell 1
        have q70 := O7.cell 0
        have q71 := O7.cell 1
        have q80 := O8.cell 0
        have q81 := O8.cell 1
        have q90 := O9.cell 0
        have q91 := O9.cell 1
        go_wp2_with fail
        go_at_call 41
        generalize hW : (((wk.setCell ⟨wn.heap.size, 0, none⟩ (.slice Ax0 nx0 cx0)).setCell ⟨wn.heap.size, 1, none⟩ (.bool x0.s)).setCell ⟨(wn.heap.size + 1 + 1), 0, none⟩ (.int .i64 e0)) = u1 at *
        clear hW
        clear O6
        clear O7
        clear O8
        clear O9
        clear q60 q61 q70 q71 q80 q81 q90 q91
        refine (K1.out u1 (r2n.out.step Bn.out)).mono ?_
        rintro e wk ⟨Ay0, ny0, cy0, rfl, hcy0, hny0, Ny0, hb⟩
        clear K1
        replace Bn := Lib.hid (below_step Bn.out hb)
        replace M13 := M13.out.step hb
        replace M14 := M14.out.step hb
        replace M15 := M15.out.step hb
        replace M16 := M16.out.step hb
        replace Nx0 := Nx0.out.step hb
        clear hb
        have k0 := M14.cell 0
        have k1 := M14.cell 1
        have f0 := M14.free 0
        have f1 := M14.free 1
        have D := (M16.far (p := ⟨(wn.heap.size + 1), 0, none⟩) (show (wn.heap.size + 1 + 1 + 1) ≠ (wn.heap.size + 1) by omega) (.slice Ay0 ny0 cy0)).far (p := ⟨(wn.heap.size + 1), 1, none⟩) (show (wn.heap.size + 1 + 1 + 1) ≠ (wn.heap.size + 1) by omega) (.bool y0.s)
        have k2 := D.cell 0
        have f2 := D.free 0
        replace Nx0 := Lib.hid ((Nx0.tri (i := 0) (k := 1) (j := 0) (a := .slice Ay0 ny0 cy0) (b := .bool y0.s) (z := .int .i64 e0) M14 (by decide) M16 (by decide) (by omega)))
        replace Ny0 := Lib.hid ((Ny0.tri (i := 0) (k := 1) (j := 0) (a := .slice Ay0 ny0 cy0) (b := .bool y0.s) (z := .int .i64 e0) M14 (by decide) M16 (by decide) (by omega)))
        have YM13 := M13.tri_far (g := (wn.heap.size + 1)) (i := 0) (k := 1) (q := (wn.heap.size + 1 + 1 + 1)) (j := 0) (a := .slice Ay0 ny0 cy0) (b := .bool y0.s) (z := .int .i64 e0) (by omega) (by omega)
        have YM14 : Own (((wk.setCell ⟨(wn.heap.size + 1), 0, none⟩ (.slice Ay0 ny0 cy0)).setCell ⟨(wn.heap.size + 1), 1, none⟩ (.bool y0.s)).setCell ⟨(wn.heap.size + 1 + 1 + 1), 0, none⟩ (.int .i64 e0)) (wn.heap.size + 1) 70 #[.slice Ay0 ny0 cy0, .bool y0.s, .slice none 0 0, .bool false, .slice none 0 0, .bool false, .slice none 0 0, .bool false, .slice none 0 0, .bool false] := M14.tri_x (q := (wn.heap.size + 1 + 1 + 1)) (by omega)
        have YM15 := M15.tri_far (g := (wn.heap.size + 1)) (i := 0) (k := 1) (q := (wn.heap.size + 1 + 1 + 1)) (j := 0) (a := .slice Ay0 ny0 cy0) (b := .bool y0.s) (z := .int .i64 e0) (by omega) (by omega)
        have YM16 : Own (((wk.setCell ⟨(wn.heap.size + 1), 0, none⟩ (.slice Ay0 ny0 cy0)).setCell ⟨(wn.heap.size + 1), 1, none⟩ (.bool y0.s)).setCell ⟨(wn.heap.size + 1 + 1 + 1), 0, none⟩ (.int .i64 e0)) (wn.heap.size + 1 + 1 + 1) 71 #[.int .i64 e0, .int .i64 0, .int .i64 0, .int .i64 0, .int .i64 0] := M16.tri_e (g := (wn.heap.size + 1)) (by omega)
        replace M13 := Lib.hid YM13
        clear YM13
        replace M14 := Lib.hid YM14
        clear YM14
        replace M15 := Lib.hid YM15
        clear YM15
        replace M16 := Lib.hid YM16
        clear YM16
        replace Bn := Lib.hid (below_tri' (i := 0) (k := 1) (j := 0) (a := .slice Ay0 ny0 cy0) (b := .bool y0.s) (z := .int .i64 e0) Bn.out (show wn.heap.size ≤ (wn.heap.size + 1) by omega) (show wn.heap.size ≤ (wn.heap.size + 1 + 1 + 1) by omega))
        have tz : (((wk.setCell ⟨(wn.heap.size + 1), 0, none⟩ (.slice Ay0 ny0 cy0)).setCell ⟨(wn.heap.size + 1), 1, none⟩ (.bool y0.s)).setCell ⟨(wn.heap.size + 1 + 1 + 1), 0, none⟩ (.int .i64 e0)).heap.size = wk.heap.size := by simp
        have O6 := O6n.out.step Bn.out
        have O7 := O7n.out.step Bn.out
        have O8 := O8n.out.step Bn.out
        have O9 := O9n.out.step Bn.out
        have q60 := O6.cell 0
        have q61 := O6.cell 1
        have q70 := O7.cell 0
        have q71 := O7.cell 1
        have q80 := O8.cell 0
        have q81 := O8.cell 1
        have q90 := O9.cell 0
        have q91 := O9.cell 1
        go_wp2_with fail
        go_at_call 43
        generalize hW : (((wk.setCell ⟨(wn.heap.size + 1), 0, none⟩ (.slice Ay0 ny0 cy0)).setCell ⟨(wn.heap.size + 1), 1, none⟩ (.bool y0.s)).setCell ⟨(wn.heap.size + 1 + 1 + 1), 0, none⟩ (.int .i64 e0)) = u2 at *
        clear hW
        clear O6
        clear O7
        clear O8
        clear O9
        clear q60 q61 q70 q71 q80 q81 q90 q91
        refine (K2.out u2 _ (by assumption) (r0n.out.step Bn.out) (r1n.out.step Bn.out)).mono ?_
        rintro e wk ⟨Ax1, nx1, cx1, rfl, hcx1, hnx1, Nx1, hb⟩
        clear K2
        replace Bn := Lib.hid (below_step (below_new Bn.out (.cells #[.slice A0 n0 c0, .bool s0, .slice A1 n1 c1, .bool s1] 24)) hb)
        replace M13 := (M13.out.alloc (.cells #[.slice A0 n0 c0, .bool s0, .slice A1 n1 c1, .bool s1] 24)).step hb
        replace M14 := (M14.out.alloc (.cells #[.slice A0 n0 c0, .bool s0, .slice A1 n1 c1, .bool s1] 24)).step hb
        replace M15 := (M15.out.alloc (.cells #[.slice A0 n0 c0, .bool s0, .slice A1 n1 c1, .bool s1] 24)).step hb
        replace M16 := (M16.out.alloc (.cells #[.slice A0 n0 c0, .bool s0, .slice A1 n1 c1, .bool s1] 24)).step hb
        replace Nx0 := (Nx0.out.alloc (.cells #[.slice A0 n0 c0, .bool s0, .slice A1 n1 c1, .bool s1] 24)).step hb
        replace Ny0 := (Ny0.out.alloc (.cells #[.slice A0 n0 c0, .bool s0, .slice A1 n1 c1, .bool s1] 24)).step hb
        clear hb
        have k0 := M13.cell 2
        have k1 := M13.cell 3
        have f0 := M13.free 2
        have f1 := M13.free 3
        have D := (M15.far (p := ⟨wn.heap.size, 2, none⟩) (show (wn.heap.size + 1 + 1) ≠ wn.heap.size by omega) (.slice Ax1 nx1 cx1)).far (p := ⟨wn.heap.size, 3, none⟩) (show (wn.heap.size + 1 + 1) ≠ wn.heap.size by omega) (.bool x1.s)
        have k2 := D.cell 1
        have f2 := D.free 1
        replace Nx0 := Lib.hid ((Nx0.tri (i := 2) (k := 3) (j := 1) (a := .slice Ax1 nx1 cx1) (b := .bool x1.s) (z := .int .i64 e1) M13 (by decide) M15 (by decide) (by omega)))
        replace Ny0 := Lib.hid ((Ny0.tri (i := 2) (k := 3) (j := 1) (a := .slice Ax1 nx1 cx1) (b := .bool x1.s) (z := .int .i64 e1) M13 (by decide) M15 (by decide) (by omega)))
        replace Nx1 := Lib.hid ((Nx1.tri (i := 2) (k := 3) (j := 1) (a := .slice Ax1 nx1 cx1) (b := .bool x1.s) (z := .int .i64 e1) M13 (by decide) M15 (by decide) (by omega)))
        have YM13 : Own (((wk.setCell ⟨wn.heap.size, 2, none⟩ (.slice Ax1 nx1 cx1)).setCell ⟨wn.heap.size, 3, none⟩ (.bool x1.s)).setCell ⟨(wn.heap.size + 1 + 1), 1, none⟩ (.int .i64 e1)) wn.heap.size 70 #[.slice Ax0 nx0 cx0, .bool x0.s, .slice Ax1 nx1 cx1, .bool x1.s, .slice none 0 0, .bool false, .slice none 0 0, .bool false, .slice none 0 0, .bool false] := M13.tri_x (q := (wn.heap.size + 1 + 1)) (by omega)
        have YM14 := M14.tri_far (g := wn.heap.size) (i := 2) (k := 3) (q := (wn.heap.size + 1 + 1)) (j := 1) (a := .slice Ax1 nx1 cx1) (b := .bool x1.s) (z := .int .i64 e1) (by omega) (by omega)
        have YM15 : Own (((wk.setCell ⟨wn.heap.size, 2, none⟩ (.slice Ax1 nx1 cx1)).setCell ⟨wn.heap.size, 3, none⟩ (.bool x1.s)).setCell ⟨(wn.heap.size + 1 + 1), 1, none⟩ (.int .i64 e1)) (wn.heap.size + 1 + 1) 71 #[.int .i64 e0, .int .i64 e1, .int .i64 0, .int .i64 0, .int .i64 0] := M15.tri_e (g := wn.heap.size) (by omega)
        have YM16 := M16.tri_far (g := wn.heap.size) (i := 2) (k := 3) (q := (wn.heap.size + 1 + 1)) (j := 1) (a := .slice Ax1 nx1 cx1) (b := .bool x1.s) (z := .int .i64 e1) (by omega) (by omega)
        replace M13 := Lib.hid YM13
        clear YM13
        replace M14 := Lib.hid YM14
        clear YM14
        replace M15 := Lib.hid YM15
        clear YM15
        replace M16 := Lib.hid YM16
        clear YM16
        replace Bn := Lib.hid (below_tri' (i := 2) (k := 3) (j := 1) (a := .slice Ax1 nx1 cx1) (b := .bool x1.s) (z := .int .i64 e1) Bn.out (show wn.heap.size ≤ wn.heap.size by omega) (show wn.heap.size ≤ (wn.heap.size + 1 + 1) by omega))
        have tz : (((wk.setCell ⟨wn.heap.size, 2, none⟩ (.slice Ax1 nx1 cx1)).setCell ⟨wn.heap.size, 3, none⟩ (.bool x1.s)).setCell ⟨(wn.heap.size + 1 + 1), 1, none⟩ (.int .i64 e1)).heap.size = wk.heap.size := by simp
        have O6 := O6n.out.step Bn.out
        have O7 := O7n.out.step Bn.out
        have O8 := O8n.out.step Bn.out
        have O9 := O9n.out.step Bn.out
        have q60 := O6.cell 0
        have q61 := O6.cell 1
        have q70 := O7.cell 0
        have q71 := O7.cell 1
        have q80 := O8.cell 0
        have q81 := O8.cell 1
        have q90 := O9.cell 0
        have q91 := O9.cell 1
        go_wp2_with fail
        go_at_call 43
        generalize hW : (((wk.setCell ⟨wn.heap.size, 2, none⟩ (.slice Ax1 nx1 cx1)).setCell ⟨wn.heap.size, 3, none⟩ (.bool x1.s)).setCell ⟨(wn.heap.size + 1 + 1), 1, none⟩ (.int .i64 e1)) = u3 at *
        clear hW
        clear O6
        clear O7
        clear O8
        clear O9
        clear q60 q61 q70 q71 q80 q81 q90 q91
        refine (K3.out u3 _ (by assumption) (r2n.out.step Bn.out) (r3n.out.step Bn.out)).mono ?_
        rintro e wk ⟨Ay1, ny1, cy1, rfl, hcy1, hny1, Ny1, hb⟩
        clear K3
        replace Bn := Lib.hid (below_step (below_new Bn.out (.cells #[.slice A2 n2 c2, .bool s2, .slice A3 n3 c3, .bool s3] 24)) hb)
        replace M13 := (M13.out.alloc (.cells #[.slice A2 n2 c2, .bool s2, .slice A3 n3 c3, .bool s3] 24)).step hb
        replace M14 := (M14.out.alloc (.cells #[.slice A2 n2 c2, .bool s2, .slice A3 n3 c3, .bool s3] 24)).step hb
        replace M15 := (M15.out.alloc (.cells #[.slice A2 n2 c2, .bool s2, .slice A3 n3 c3, .bool s3] 24)).step hb
        replace M16 := (M16.out.alloc (.cells #[.slice A2 n2 c2, .bool s2, .slice A3 n3 c3, .bool s3] 24)).step hb
        replace Nx0 := (Nx0.out.alloc (.cells #[.slice A2 n2 c2, .bool s2, .slice A3 n3 c3, .bool s3] 24)).step hb
        replace Ny0 := (Ny0.out.alloc (.cells #[.slice A2 n2 c2, .bool s2, .slice A3 n3 c3, .bool s3] 24)).step hb
        replace Nx1 := (Nx1.out.alloc (.cells #[.slice A2 n2 c2, .bool s2, .slice A3 n3 c3, .bool s3] 24)).step hb
        clear hb
        have k0 := M14.cell 2
        have k1 := M14.cell 3
        have f0 := M14.free 2
        have f1 := M14.free 3
        have D := (M16.far (p := ⟨(wn.heap.size + 1), 2, none⟩) (show (wn.heap.size + 1 + 1 + 1) ≠ (wn.heap.size + 1) by omega) (.slice Ay1 ny1 cy1)).far (p := ⟨(wn.heap.size + 1), 3, none⟩) (show (wn.heap.size + 1 + 1 + 1) ≠ (wn.heap.size + 1) by omega) (.bool y1.s)
        have k2 := D.cell 1
        have f2 := D.free 1
        replace Nx0 := Lib.hid ((Nx0.tri (i := 2) (k := 3) (j := 1) (a := .slice Ay1 ny1 cy1) (b := .bool y1.s) (z := .int .i64 e1) M14 (by decide) M16 (by decide) (by omega)))
        replace Ny0 := Lib.hid ((Ny0.tri (i := 2) (k := 3) (j := 1) (a := .slice Ay1 ny1 cy1) (b := .bool y1.s) (z := .int .i64 e1) M14 (by decide) M16 (by decide) (by omega)))
        replace Nx1 := Lib.hid ((Nx1.tri (i := 2) (k := 3) (j := 1) (a := .slice Ay1 ny1 cy1) (b := .bool y1.s) (z := .int .i64 e1) M14 (by decide) M16 (by decide) (by omega)))
        replace Ny1 := Lib.hid ((Ny1.tri (i := 2) (k := 3) (j := 1) (a := .slice Ay1 ny1 cy1) (b := .bool y1.s) (z := .int .i64 e1) M14 (by decide) M16 (by decide) (by omega)))
        have YM13 := M13.tri_far (g := (wn.heap.size + 1)) (i := 2) (k := 3) (q := (wn.heap.size + 1 + 1 + 1)) (j := 1) (a := .slice Ay1 ny1 cy1) (b := .bool y1.s) (z := .int .i64 e1) (by omega) (by omega)
        have YM14 : Own (((wk.setCell ⟨(wn.heap.size + 1), 2, none⟩ (.slice Ay1 ny1 cy1)).setCell ⟨(wn.heap.size + 1), 3, none⟩ (.bool y1.s)).setCell ⟨(wn.heap.size + 1 + 1 + 1), 1, none⟩ (.int .i64 e1)) (wn.heap.size + 1) 70 #[.slice Ay0 ny0 cy0, .bool y0.s, .slice Ay1 ny1 cy1, .bool y1.s, .slice none 0 0, .bool false, .slice none 0 0, .bool false, .slice none 0 0, .bool false] := M14.tri_x (q := (wn.heap.size + 1 + 1 + 1)) (by omega)
        have YM15 := M15.tri_far (g := (wn.heap.size + 1)) (i := 2) (k := 3) (q := (wn.heap.size + 1 + 1 + 1)) (j := 1) (a := .slice Ay1 ny1 cy1) (b := .bool y1.s) (z := .int .i64 e1) (by omega) (by omega)
        have YM16 : Own (((wk.setCell ⟨(wn.heap.size + 1), 2, none⟩ (.slice Ay1 ny1 cy1)).setCell ⟨(wn.heap.size + 1), 3, none⟩ (.bool y1.s)).setCell ⟨(wn.heap.size + 1 + 1 + 1), 1, none⟩ (.int .i64 e1)) (wn.heap.size + 1 + 1 + 1) 71 #[.int .i64 e0, .int .i64 e1, .int .i64 0, .int .i64 0, .int .i64 0] := M16.tri_e (g := (wn.heap.size + 1)) (by omega)
        replace M13 := Lib.hid YM13
        clear YM13
        replace M14 := Lib.hid YM14
        clear YM14
        replace M15 := Lib.hid YM15
        clear YM15
        replace M16 := Lib.hid YM16
        clear YM16
        replace Bn := Lib.hid (below_tri' (i := 2) (k := 3) (j := 1) (a := .slice Ay1 ny1 cy1) (b := .bool y1.s) (z := .int .i64 e1) Bn.out (show wn.heap.size ≤ (wn.heap.size + 1) by omega) (show wn.heap.size ≤ (wn.heap.size + 1 + 1 + 1) by omega))
        have tz : (((wk.setCell ⟨(wn.heap.size + 1), 2, none⟩ (.slice Ay1 ny1 cy1)).setCell ⟨(wn.heap.size + 1), 3, none⟩ (.bool y1.s)).setCell ⟨(wn.heap.size + 1 + 1 + 1), 1, none⟩ (.int .i64 e1)).heap.size = wk.heap.size := by simp
        have O6 := O6n.out.step Bn.out
        have O7 := O7n.out.step Bn.out
        have O8 := O8n.out.step Bn.out
        have O9 := O9n.out.step Bn.out
        have q60 := O6.cell 0
        have q61 := O6.cell 1
        have q70 := O7.cell 0
        have q71 := O7.cell 1
        have q80 := O8.cell 0
        have q81 := O8.cell 1
        have q90 := O9.cell 0
        have q91 := O9.cell 1
        go_wp2_with fail
        go_at_call 45
        generalize hW : (((wk.setCell ⟨(wn.heap.size + 1), 2, none⟩ (.slice Ay1 ny1 cy1)).setCell ⟨(wn.heap.size + 1), 3, none⟩ (.bool y1.s)).setCell ⟨(wn.heap.size + 1 + 1 + 1), 1, none⟩ (.int .i64 e1)) = u4 at *
        clear hW
        clear O6
        clear O7
        clear O8
        clear O9
        clear q60 q61 q70 q71 q80 q81 q90 q91
        refine (K4.out u4 (r0n.out.step Bn.out)).mono ?_
        rintro e wk ⟨Ax2, nx2, cx2, rfl, hcx2, hnx2, Nx2, hb⟩
        clear K4
        replace Bn := Lib.hid (below_step Bn.out hb)
        replace M13 := M13.out.step hb
        replace M14 := M14.out.step hb
        replace M15 := M15.out.step hb
        replace M16 := M16.out.step hb
        replace Nx0 := Nx0.out.step hb
        replace Ny0 := Ny0.out.step hb
        replace Nx1 := Nx1.out.step hb
        replace Ny1 := Ny1.out.step hb
        clear hb
        have k0 := M13.cell 4
        have k1 := M13.cell 5
        have f0 := M13.free 4
        have f1 := M13.free 5
        have D := (M15.far (p := ⟨wn.heap.size, 4, none⟩) (show (wn.heap.size + 1 + 1) ≠ wn.heap.size by omega) (.slice Ax2 nx2 cx2)).far (p := ⟨wn.heap.size, 5, none⟩) (show (wn.heap.size + 1 + 1) ≠ wn.heap.size by omega) (.bool x2.s)
        have k2 := D.cell 2
        have f2 := D.free 2
        replace Nx0 := Lib.hid ((Nx0.tri (i := 4) (k := 5) (j := 2) (a := .slice Ax2 nx2 cx2) (b := .bool x2.s) (z := .int .i64 e2) M13 (by decide) M15 (by decide) (by omega)))
        replace Ny0 := Lib.hid ((Ny0.tri (i := 4) (k := 5) (j := 2) (a := .slice Ax2 nx2 cx2) (b := .bool x2.s) (z := .int .i64 e2) M13 (by decide) M15 (by decide) (by omega)))
        replace Nx1 := Lib.hid ((Nx1.tri (i := 4) (k := 5) (j := 2) (a := .slice Ax2 nx2 cx2) (b := .bool x2.s) (z := .int .i64 e2) M13 (by decide) M15 (by decide) (by omega)))
        replace Ny1 := Lib.hid ((Ny1.tri (i := 4) (k := 5) (j := 2) (a := .slice Ax2 nx2 cx2) (b := .bool x2.s) (z := .int .i64 e2) M13 (by decide) M15 (by decide) (by omega)))
        replace Nx2 := Lib.hid ((Nx2.tri (i := 4) (k := 5) (j := 2) (a := .slice Ax2 nx2 cx2) (b := .bool x2.s) (z := .int .i64 e2) M13 (by decide) M15 (by decide) (by omega)))
        have YM13 : Own (((wk.setCell ⟨wn.heap.size, 4, none⟩ (.slice Ax2 nx2 cx2)).setCell ⟨wn.heap.size, 5, none⟩ (.bool x2.s)).setCell ⟨(wn.heap.size + 1 + 1), 2, none⟩ (.int .i64 e2)) wn.heap.size 70 #[.slice Ax0 nx0 cx0, .bool x0.s, .slice Ax1 nx1 cx1, .bool x1.s, .slice Ax2 nx2 cx2, .bool x2.s, .slice none 0 0, .bool false, .slice none 0 0, .bool false] := M13.tri_x (q := (wn.heap.size + 1 + 1)) (by omega)
        have YM14 := M14.tri_far (g := wn.heap.size) (i := 4) (k := 5) (q := (wn.heap.size + 1 + 1)) (j := 2) (a := .slice Ax2 nx2 cx2) (b := .bool x2.s) (z := .int .i64 e2) (by omega) (by omega)
        have YM15 : Own (((wk.setCell ⟨wn.heap.size, 4, none⟩ (.slice Ax2 nx2 cx2)).setCell ⟨wn.heap.size, 5, none⟩ (.bool x2.s)).setCell ⟨(wn.heap.size + 1 + 1), 2, none⟩ (.int .i64 e2)) (wn.heap.size + 1 + 1) 71 #[.int .i64 e0, .int .i64 e1, .int .i64 e2, .int .i64 0, .int .i64 0] := M15.tri_e (g := wn.heap.size) (by omega)
        have YM16 := M16.tri_far (g := wn.heap.size) (i := 4) (k := 5) (q := (wn.heap.size + 1 + 1)) (j := 2) (a := .slice Ax2 nx2 cx2) (b := .bool x2.s) (z := .int .i64 e2) (by omega) (by omega)
        replace M13 := Lib.hid YM13
        clear YM13
        replace M14 := Lib.hid YM14
        clear YM14
        replace M15 := Lib.hid YM15
        clear YM15
        replace M16 := Lib.hid YM16
        clear YM16
        replace Bn := Lib.hid (below_tri' (i := 4) (k := 5) (j := 2) (a := .slice Ax2 nx2 cx2) (b := .bool x2.s) (z := .int .i64 e2) Bn.out (show wn.heap.size ≤ wn.heap.size by omega) (show wn.heap.size ≤ (wn.heap.size + 1 + 1) by omega))
        have tz : (((wk.setCell ⟨wn.heap.size, 4, none⟩ (.slice Ax2 nx2 cx2)).setCell ⟨wn.heap.size, 5, none⟩ (.bool x2.s)).setCell ⟨(wn.heap.size + 1 + 1), 2, none⟩ (.int .i64 e2)).heap.size = wk.heap.size := by simp
        have O6 := O6n.out.step Bn.out
        have O7 := O7n.out.step Bn.out
        have O8 := O8n.out.step Bn.out
        have O9 := O9n.out.step Bn.out
        have q60 := O6.cell 0
        have q61 := O6.cell 1
        have q70 := O7.cell 0
        have q71 := O7.cell 1
        have q80 := O8.cell 0
        have q81 := O8.cell 1
        have q90 := O9.cell 0
        have q91 := O9.cell 1
        go_wp2_with fail
        go_at_call 45
        generalize hW : (((wk.setCell ⟨wn.heap.size, 4, none⟩ (.slice Ax2 nx2 cx2)).setCell ⟨wn.heap.size, 5, none⟩ (.bool x2.s)).setCell ⟨(wn.heap.size + 1 + 1), 2, none⟩ (.int .i64 e2)) = u5 at *
        clear hW
        clear O6
        clear O7
        clear O8
        clear O9
        clear q60 q61 q70 q71 q80 q81 q90 q91
        refine (K5.out u5 (r2n.out.step Bn.out)).mono ?_
        rintro e wk ⟨Ay2, ny2, cy2, rfl, hcy2, hny2, Ny2, hb⟩
        clear K5
        replace Bn := Lib.hid (below_step Bn.out hb)
        replace M13 := M13.out.step hb
        replace M14 := M14.out.step hb
        replace M15 := M15.out.step hb
        replace M16 := M16.out.step hb
        replace Nx0 := Nx0.out.step hb
        replace Ny0 := Ny0.out.step hb
        replace Nx1 := Nx1.out.step hb
        replace Ny1 := Ny1.out.step hb
        replace Nx2 := Nx2.out.step hb
        clear hb
        have k0 := M14.cell 4
        have k1 := M14.cell 5
        have f0 := M14.free 4
        have f1 := M14.free 5
        have D := (M16.far (p := ⟨(wn.heap.size + 1), 4, none⟩) (show (wn.heap.size + 1 + 1 + 1) ≠ (wn.heap.size + 1) by omega) (.slice Ay2 ny2 cy2)).far (p := ⟨(wn.heap.size + 1), 5, none⟩) (show (wn.heap.size + 1 + 1 + 1) ≠ (wn.heap.size + 1) by omega) (.bool y2.s)
        have k2 := D.cell 2
        have f2 := D.free 2
        replace Nx0 := Lib.hid ((Nx0.tri (i := 4) (k := 5) (j := 2) (a := .slice Ay2 ny2 cy2) (b := .bool y2.s) (z := .int .i64 e2) M14 (by decide) M16 (by decide) (by omega)))
        replace Ny0 := Lib.hid ((Ny0.tri (i := 4) (k := 5) (j := 2) (a := .slice Ay2 ny2 cy2) (b := .bool y2.s) (z := .int .i64 e2) M14 (by decide) M16 (by decide) (by omega)))
        replace Nx1 := Lib.hid ((Nx1.tri (i := 4) (k := 5) (j := 2) (a := .slice Ay2 ny2 cy2) (b := .bool y2.s) (z := .int .i64 e2) M14 (by decide) M16 (by decide) (by omega)))
        replace Ny1 := Lib.hid ((Ny1.tri (i := 4) (k := 5) (j := 2) (a := .slice Ay2 ny2 cy2) (b := .bool y2.s) (z := .int .i64 e2) M14 (by decide) M16 (by decide) (by omega)))
        replace Nx2 := Lib.hid ((Nx2.tri (i := 4) (k := 5) (j := 2) (a := .slice Ay2 ny2 cy2) (b := .bool y2.s) (z := .int .i64 e2) M14 (by decide) M16 (by decide) (by omega)))
        replace Ny2 := Lib.hid ((Ny2.tri (i := 4) (k := 5) (j := 2) (a := .slice Ay2 ny2 cy2) (b := .bool y2.s) (z := .int .i64 e2) M14 (by decide) M16 (by decide) (by omega)))
        have YM13 := M13.tri_far (g := (wn.heap.size + 1)) (i := 4) (k := 5) (q := (wn.heap.size + 1 + 1 + 1)) (j := 2) (a := .slice Ay2 ny2 cy2) (b := .bool y2.s) (z := .int .i64 e2) (by omega) (by omega)
        have YM14 : Own (((wk.setCell ⟨(wn.heap.size + 1), 4, none⟩ (.slice Ay2 ny2 cy2)).setCell ⟨(wn.heap.size + 1), 5, none⟩ (.bool y2.s)).setCell ⟨(wn.heap.size + 1 + 1 + 1), 2, none⟩ (.int .i64 e2)) (wn.heap.size + 1) 70 #[.slice Ay0 ny0 cy0, .bool y0.s, .slice Ay1 ny1 cy1, .bool y1.s, .slice Ay2 ny2 cy2, .bool y2.s, .slice none 0 0, .bool false, .slice none 0 0, .bool false] := M14.tri_x (q := (wn.heap.size + 1 + 1 + 1)) (by omega)
        have YM15 := M15.tri_far (g := (wn.heap.size + 1)) (i := 4) (k := 5) (q := (wn.heap.size + 1 + 1 + 1)) (j := 2) (a := .slice Ay2 ny2 cy2) (b := .bool y2.s) (z := .int .i64 e2) (by omega) (by omega)
        have YM16 : Own (((wk.setCell ⟨(wn.heap.size + 1), 4, none⟩ (.slice Ay2 ny2 cy2)).setCell ⟨(wn.heap.size + 1), 5, none⟩ (.bool y2.s)).setCell ⟨(wn.heap.size + 1 + 1 + 1), 2, none⟩ (.int .i64 e2)) (wn.heap.size + 1 + 1 + 1) 71 #[.int .i64 e0, .int .i64 e1, .int .i64 e2, .int .i64 0, .int .i64 0] := M16.tri_e (g := (wn.heap.size + 1)) (by omega)
        replace M13 := Lib.hid YM13
        clear YM13
        replace M14 := Lib.hid YM14
        clear YM14
        replace M15 := Lib.hid YM15
        clear YM15
        replace M16 := Lib.hid YM16
        clear YM16
        replace Bn := Lib.hid (below_tri' (i := 4) (k := 5) (j := 2) (a := .slice Ay2 ny2 cy2) (b := .bool y2.s) (z := .int .i64 e2) Bn.out (show wn.heap.size ≤ (wn.heap.size + 1) by omega) (show wn.heap.size ≤ (wn.heap.size + 1 + 1 + 1) by omega))
        have tz : (((wk.setCell ⟨(wn.heap.size + 1), 4, none⟩ (.slice Ay2 ny2 cy2)).setCell ⟨(wn.heap.size + 1), 5, none⟩ (.bool y2.s)).setCell ⟨(wn.heap.size + 1 + 1 + 1), 2, none⟩ (.int .i64 e2)).heap.size = wk.heap.size := by simp
        have O6 := O6n.out.step Bn.out
        have O7 := O7n.out.step Bn.out
        have O8 := O8n.out.step Bn.out
        have O9 := O9n.out.step Bn.out
        have q60 := O6.cell 0
        have q61 := O6.cell 1
        have q70 := O7.cell 0
        have q71 := O7.cell 1
        have q80 := O8.cell 0
        have q81 := O8.cell 1
        have q90 := O9.cell 0
        have q91 := O9.cell 1
        go_wp2_with fail
        go_at_call 47
        generalize hW : (((wk.setCell ⟨(wn.heap.size + 1), 4, none⟩ (.slice Ay2 ny2 cy2)).setCell ⟨(wn.heap.size + 1), 5, none⟩ (.bool y2.s)).setCell ⟨(wn.heap.size + 1 + 1 + 1), 2, none⟩ (.int .i64 e2)) = u6 at *
        clear hW
        clear O6
        clear O7
        clear O8
        clear O9
        clear q60 q61 q70 q71 q80 q81 q90 q91
        refine (K6.out u6 (r0n.out.step Bn.out)).mono ?_
        rintro e wk ⟨Ax3, nx3, cx3, rfl, hcx3, hnx3, Nx3, hb⟩
        clear K6
        replace Bn := Lib.hid (below_step Bn.out hb)
        replace M13 := M13.out.step hb
        replace M14 := M14.out.step hb
        replace M15 := M15.out.step hb
        replace M16 := M16.out.step hb
        replace Nx0 := Nx0.out.step hb
        replace Ny0 := Ny0.out.step hb
        replace Nx1 := Nx1.out.step hb
        replace Ny1 := Ny1.out.step hb
        replace Nx2 := Nx2.out.step hb
        replace Ny2 := Ny2.out.step hb
        clear hb
        have k0 := M13.cell 6
        have k1 := M13.cell 7
        have f0 := M13.free 6
        have f1 := M13.free 7
        have D := (M15.far (p := ⟨wn.heap.size, 6, none⟩) (show (wn.heap.size + 1 + 1) ≠ wn.heap.size by omega) (.slice Ax3 nx3 cx3)).far (p := ⟨wn.heap.size, 7, none⟩) (show (wn.heap.size + 1 + 1) ≠ wn.heap.size by omega) (.bool x3.s)
        have k2 := D.cell 3
        have f2 := D.free 3
        replace Nx0 := Lib.hid ((Nx0.tri (i := 6) (k := 7) (j := 3) (a := .slice Ax3 nx3 cx3) (b := .bool x3.s) (z := .int .i64 e3) M13 (by decide) M15 (by decide) (by omega)))
        replace Ny0 := Lib.hid ((Ny0.tri (i := 6) (k := 7) (j := 3) (a := .slice Ax3 nx3 cx3) (b := .bool x3.s) (z := .int .i64 e3) M13 (by decide) M15 (by decide) (by omega)))
        replace Nx1 := Lib.hid ((Nx1.tri (i := 6) (k := 7) (j := 3) (a := .slice Ax3 nx3 cx3) (b := .bool x3.s) (z := .int .i64 e3) M13 (by decide) M15 (by decide) (by omega)))
        replace Ny1 := Lib.hid ((Ny1.tri (i := 6) (k := 7) (j := 3) (a := .slice Ax3 nx3 cx3) (b := .bool x3.s) (z := .int .i64 e3) M13 (by decide) M15 (by decide) (by omega)))
        replace Nx2 := Lib.hid ((Nx2.tri (i := 6) (k := 7) (j := 3) (a := .slice Ax3 nx3 cx3) (b := .bool x3.s) (z := .int .i64 e3) M13 (by decide) M15 (by decide) (by omega)))
        replace Ny2 := Lib.hid ((Ny2.tri (i := 6) (k := 7) (j := 3) (a := .slice Ax3 nx3 cx3) (b := .bool x3.s) (z := .int .i64 e3) M13 (by decide) M15 (by decide) (by omega)))
        replace Nx3 := Lib.hid ((Nx3.tri (i := 6) (k := 7) (j := 3) (a := .slice Ax3 nx3 cx3) (b := .bool x3.s) (z := .int .i64 e3) M13 (by decide) M15 (by decide) (by omega)))
        have YM13 : Own (((wk.setCell ⟨wn.heap.size, 6, none⟩ (.slice Ax3 nx3 cx3)).setCell ⟨wn.heap.size, 7, none⟩ (.bool x3.s)).setCell ⟨(wn.heap.size + 1 + 1), 3, none⟩ (.int .i64 e3)) wn.heap.size 70 #[.slice Ax0 nx0 cx0, .bool x0.s, .slice Ax1 nx1 cx1, .bool x1.s, .slice Ax2 nx2 cx2, .bool x2.s, .slice Ax3 nx3 cx3, .bool x3.s, .slice none 0 0, .bool false] := M13.tri_x (q := (wn.heap.size + 1 + 1)) (by omega)
        have YM14 := M14.tri_far (g := wn.heap.size) (i := 6) (k := 7) (q := (wn.heap.size + 1 + 1)) (j := 3) (a := .slice Ax3 nx3 cx3) (b := .bool x3.s) (z := .int .i64 e3) (by omega) (by omega)
        have YM15 : Own (((wk.setCell ⟨wn.heap.size, 6, none⟩ (.slice Ax3 nx3 cx3)).setCell ⟨wn.heap.size, 7, none⟩ (.bool x3.s)).setCell ⟨(wn.heap.size + 1 + 1), 3, none⟩ (.int .i64 e3)) (wn.heap.size + 1 + 1) 71 #[.int .i64 e0, .int .i64 e1, .int .i64 e2, .int .i64 e3, .int .i64 0] := M15.tri_e (g := wn.heap.size) (by omega)
        have YM16 := M16.tri_far (g := wn.heap.size) (i := 6) (k := 7) (q := (wn.heap.size + 1 + 1)) (j := 3) (a := .slice Ax3 nx3 cx3) (b := .bool x3.s) (z := .int .i64 e3) (by omega) (by omega)
        replace M13 := Lib.hid YM13
        clear YM13
        replace M14 := Lib.hid YM14
        clear YM14
        replace M15 := Lib.hid YM15
        clear YM15
        replace M16 := Lib.hid YM16
        clear YM16
        replace Bn := Lib.hid (below_tri' (i := 6) (k := 7) (j := 3) (a := .slice Ax3 nx3 cx3) (b := .bool x3.s) (z := .int .i64 e3) Bn.out (show wn.heap.size ≤ wn.heap.size by omega) (show wn.heap.size ≤ (wn.heap.size + 1 + 1) by omega))
        have tz : (((wk.setCell ⟨wn.heap.size, 6, none⟩ (.slice Ax3 nx3 cx3)).setCell ⟨wn.heap.size, 7, none⟩ (.bool x3.s)).setCell ⟨(wn.heap.size + 1 + 1), 3, none⟩ (.int .i64 e3)).heap.size = wk.heap.size := by simp
        have O6 := O6n.out.step Bn.out
        have O7 := O7n.out.step Bn.out
        have O8 := O8n.out.step Bn.out
        have O9 := O9n.out.step Bn.out
        have q60 := O6.cell 0
        have q61 := O6.cell 1
        have q70 := O7.cell 0
        have q71 := O7.cell 1
        have q80 := O8.cell 0
        have q81 := O8.cell 1
        have q90 := O9.cell 0
        have q91 := O9.cell 1
        go_wp2_with fail
        go_at_call 47
        generalize hW : (((wk.setCell ⟨wn.heap.size, 6, none⟩ (.slice Ax3 nx3 cx3)).setCell ⟨wn.heap.size, 7, none⟩ (.bool x3.s)).setCell ⟨(wn.heap.size + 1 + 1), 3, none⟩ (.int .i64 e3)) = u7 at *
        clear hW
        clear O6
        clear O7
        clear O8
        clear O9
        clear q60 q61 q70 q71 q80 q81 q90 q91
        refine (K7.out u7 (r2n.out.step Bn.out)).mono ?_
        rintro e wk ⟨Ay3, ny3, cy3, rfl, hcy3, hny3, Ny3, hb⟩
        clear K7
        replace Bn := Lib.hid (below_step Bn.out hb)
        replace M13 := M13.out.step hb
        replace M14 := M14.out.step hb
        replace M15 := M15.out.step hb
        replace M16 := M16.out.step hb
        replace Nx0 := Nx0.out.step hb
        replace Ny0 := Ny0.out.step hb
        replace Nx1 := Nx1.out.step hb
        replace Ny1 := Ny1.out.step hb
        replace Nx2 := Nx2.out.step hb
        replace Ny2 := Ny2.out.step hb
        replace Nx3 := Nx3.out.step hb
        clear hb
        have k0 := M14.cell 6
        have k1 := M14.cell 7
        have f0 := M14.free 6
        have f1 := M14.free 7
        have D := (M16.far (p := ⟨(wn.heap.size + 1), 6, none⟩) (show (wn.heap.size + 1 + 1 + 1) ≠ (wn.heap.size + 1) by omega) (.slice Ay3 ny3 cy3)).far (p := ⟨(wn.heap.size + 1), 7, none⟩) (show (wn.heap.size + 1 + 1 + 1) ≠ (wn.heap.size + 1) by omega) (.bool y3.s)
        have k2 := D.cell 3
        have f2 := D.free 3
        replace Nx0 := Lib.hid ((Nx0.tri (i := 6) (k := 7) (j := 3) (a := .slice Ay3 ny3 cy3) (b := .bool y3.s) (z := .int .i64 e3) M14 (by decide) M16 (by decide) (by omega)))
        replace Ny0 := Lib.hid ((Ny0.tri (i := 6) (k := 7) (j := 3) (a := .slice Ay3 ny3 cy3) (b := .bool y3.s) (z := .int .i64 e3) M14 (by decide) M16 (by decide) (by omega)))
        replace Nx1 := Lib.hid ((Nx1.tri (i := 6) (k := 7) (j := 3) (a := .slice Ay3 ny3 cy3) (b := .bool y3.s) (z := .int .i64 e3) M14 (by decide) M16 (by decide) (by omega)))
        replace Ny1 := Lib.hid ((Ny1.tri (i := 6) (k := 7) (j := 3) (a := .slice Ay3 ny3 cy3) (b := .bool y3.s) (z := .int .i64 e3) M14 (by decide) M16 (by decide) (by omega)))
        replace Nx2 := Lib.hid ((Nx2.tri (i := 6) (k := 7) (j := 3) (a := .slice Ay3 ny3 cy3) (b := .bool y3.s) (z := .int .i64 e3) M14 (by decide) M16 (by decide) (by omega)))
        replace Ny2 := Lib.hid ((Ny2.tri (i := 6) (k := 7) (j := 3) (a := .slice Ay3 ny3 cy3) (b := .bool y3.s) (z := .int .i64 e3) M14 (by decide) M16 (by decide) (by omega)))
        replace Nx3 := Lib.hid ((Nx3.tri (i := 6) (k := 7) (j := 3) (a := .slice Ay3 ny3 cy3) (b := .bool y3.s) (z := .int .i64 e3) M14 (by decide) M16 (by decide) (by omega)))
        replace Ny3 := Lib.hid ((Ny3.tri (i := 6) (k := 7) (j := 3) (a := .slice Ay3 ny3 cy3) (b := .bool y3.s) (z := .int .i64 e3) M14 (by decide) M16 (by decide) (by omega)))
        have YM13 := M13.tri_far (g := (wn.heap.size + 1)) (i := 6) (k := 7) (q := (wn.heap.size + 1 + 1 + 1)) (j := 3) (a := .slice Ay3 ny3 cy3) (b := .bool y3.s) (z := .int .i64 e3) (by omega) (by omega)
        have YM14 : Own (((wk.setCell ⟨(wn.heap.size + 1), 6, none⟩ (.slice Ay3 ny3 cy3)).setCell ⟨(wn.heap.size + 1), 7, none⟩ (.bool y3.s)).setCell ⟨(wn.heap.size + 1 + 1 + 1), 3, none⟩ (.int .i64 e3)) (wn.heap.size + 1) 70 #[.slice Ay0 ny0 cy0, .bool y0.s, .slice Ay1 ny1 cy1, .bool y1.s, .slice Ay2 ny2 cy2, .bool y2.s, .slice Ay3 ny3 cy3, .bool y3.s, .slice none 0 0, .bool false] := M14.tri_x (q := (wn.heap.size + 1 + 1 + 1)) (by omega)
        have YM15 := M15.tri_far (g := (wn.heap.size + 1)) (i := 6) (k := 7) (q := (wn.heap.size + 1 + 1 + 1)) (j := 3) (a := .slice Ay3 ny3 cy3) (b := .bool y3.s) (z := .int .i64 e3) (by omega) (by omega)
        have YM16 : Own (((wk.setCell ⟨(wn.heap.size + 1), 6, none⟩ (.slice Ay3 ny3 cy3)).setCell ⟨(wn.heap.size + 1), 7, none⟩ (.bool y3.s)).setCell ⟨(wn.heap.size + 1 + 1 + 1), 3, none⟩ (.int .i64 e3)) (wn.heap.size + 1 + 1 + 1) 71 #[.int .i64 e0, .int .i64 e1, .int .i64 e2, .int .i64 e3, .int .i64 0] := M16.tri_e (g := (wn.heap.size + 1)) (by omega)
        replace M13 := Lib.hid YM13
        clear YM13
        replace M14 := Lib.hid YM14
        clear YM14
        replace M15 := Lib.hid YM15
        clear YM15
        replace M16 := Lib.hid YM16
        clear YM16
        replace Bn := Lib.hid (below_tri' (i := 6) (k := 7) (j := 3) (a := .slice Ay3 ny3 cy3) (b := .bool y3.s) (z := .int .i64 e3) Bn.out (show wn.heap.size ≤ (wn.heap.size + 1) by omega) (show wn.heap.size ≤ (wn.heap.size + 1 + 1 + 1) by omega))
        have tz : (((wk.setCell ⟨(wn.heap.size + 1), 6, none⟩ (.slice Ay3 ny3 cy3)).setCell ⟨(wn.heap.size + 1), 7, none⟩ (.bool y3.s)).setCell ⟨(wn.heap.size + 1 + 1 + 1), 3, none⟩ (.int .i64 e3)).heap.size = wk.heap.size := by simp
        have O6 := O6n.out.step Bn.out
        have O7 := O7n.out.step Bn.out
        have O8 := O8n.out.step Bn.out
        have O9 := O9n.out.step Bn.out
        have q60 := O6.cell 0
        have q61 := O6.cell 1
        have q70 := O7.cell 0
        have q71 := O7.cell 1
        have q80 := O8.cell 0
        have q81 := O8.cell 1
        have q90 := O9.cell 0
        have q91 := O9.cell 1
        go_wp2_with fail
        go_at_call 49
        generalize hW : (((wk.setCell ⟨(wn.heap.size + 1), 6, none⟩ (.slice Ay3 ny3 cy3)).setCell ⟨(wn.heap.size + 1), 7, none⟩ (.bool y3.s)).setCell ⟨(wn.heap.size + 1 + 1 + 1), 3, none⟩ (.int .i64 e3)) = u8 at *
        clear hW
        clear O6
        clear O7
        clear O8
        clear O9
        clear q60 q61 q70 q71 q80 q81 q90 q91
        refine (K8.out u8 (r0n.out.step Bn.out) (r1n.out.step Bn.out)).mono ?_
        rintro e wk ⟨Ax4, nx4, cx4, rfl, hcx4, hnx4, Nx4, hb⟩
        clear K8
        replace Bn := Lib.hid (below_step Bn.out hb)
        replace M13 := M13.out.step hb
        replace M14 := M14.out.step hb
        replace M15 := M15.out.step hb
        replace M16 := M16.out.step hb
        replace Nx0 := Nx0.out.step hb
        replace Ny0 := Ny0.out.step hb
        replace Nx1 := Nx1.out.step hb
        replace Ny1 := Ny1.out.step hb
        replace Nx2 := Nx2.out.step hb
        replace Ny2 := Ny2.out.step hb
        replace Nx3 := Nx3.out.step hb
        replace Ny3 := Ny3.out.step hb
        clear hb
        have k0 := M13.cell 8
        have k1 := M13.cell 9
        have f0 := M13.free 8
        have f1 := M13.free 9
        have D := (M15.far (p := ⟨wn.heap.size, 8, none⟩) (show (wn.heap.size + 1 + 1) ≠ wn.heap.size by omega) (.slice Ax4 nx4 cx4)).far (p := ⟨wn.heap.size, 9, none⟩) (show (wn.heap.size + 1 + 1) ≠ wn.heap.size by omega) (.bool x4.s)
        have k2 := D.cell 4
        have f2 := D.free 4
        replace Nx0 := Lib.hid ((Nx0.tri (i := 8) (k := 9) (j := 4) (a := .slice Ax4 nx4 cx4) (b := .bool x4.s) (z := .int .i64 e4) M13 (by decide) M15 (by decide) (by omega)))
        replace Ny0 := Lib.hid ((Ny0.tri (i := 8) (k := 9) (j := 4) (a := .slice Ax4 nx4 cx4) (b := .bool x4.s) (z := .int .i64 e4) M13 (by decide) M15 (by decide) (by omega)))
        replace Nx1 := Lib.hid ((Nx1.tri (i := 8) (k := 9) (j := 4) (a := .slice Ax4 nx4 cx4) (b := .bool x4.s) (z := .int .i64 e4) M13 (by decide) M15 (by decide) (by omega)))
        replace Ny1 := Lib.hid ((Ny1.tri (i := 8) (k := 9) (j := 4) (a := .slice Ax4 nx4 cx4) (b := .bool x4.s) (z := .int .i64 e4) M13 (by decide) M15 (by decide) (by omega)))
        replace Nx2 := Lib.hid ((Nx2.tri (i := 8) (k := 9) (j := 4) (a := .slice Ax4 nx4 cx4) (b := .bool x4.s) (z := .int .i64 e4) M13 (by decide) M15 (by decide) (by omega)))
        replace Ny2 := Lib.hid ((Ny2.tri (i := 8) (k := 9) (j := 4) (a := .slice Ax4 nx4 cx4) (b := .bool x4.s) (z := .int .i64 e4) M13 (by decide) M15 (by decide) (by omega)))
        replace Nx3 := Lib.hid ((Nx3.tri (i := 8) (k := 9) (j := 4) (a := .slice Ax4 nx4 cx4) (b := .bool x4.s) (z := .int .i64 e4) M13 (by decide) M15 (by decide) (by omega)))
        replace Ny3 := Lib.hid ((Ny3.tri (i := 8) (k := 9) (j := 4) (a := .slice Ax4 nx4 cx4) (b := .bool x4.s) (z := .int .i64 e4) M13 (by decide) M15 (by decide) (by omega)))
        replace Nx4 := Lib.hid ((Nx4.tri (i := 8) (k := 9) (j := 4) (a := .slice Ax4 nx4 cx4) (b := .bool x4.s) (z := .int .i64 e4) M13 (by decide) M15 (by decide) (by omega)))
        have YM13 : Own (((wk.setCell ⟨wn.heap.size, 8, none⟩ (.slice Ax4 nx4 cx4)).setCell ⟨wn.heap.size, 9, none⟩ (.bool x4.s)).setCell ⟨(wn.heap.size + 1 + 1), 4, none⟩ (.int .i64 e4)) wn.heap.size 70 #[.slice Ax0 nx0 cx0, .bool x0.s, .slice Ax1 nx1 cx1, .bool x1.s, .slice Ax2 nx2 cx2, .bool x2.s, .slice Ax3 nx3 cx3, .bool x3.s, .slice Ax4 nx4 cx4, .bool x4.s] := M13.tri_x (q := (wn.heap.size + 1 + 1)) (by omega)
        have YM14 := M14.tri_far (g := wn.heap.size) (i := 8) (k := 9) (q := (wn.heap.size + 1 + 1)) (j := 4) (a := .slice Ax4 nx4 cx4) (b := .bool x4.s) (z := .int .i64 e4) (by omega) (by omega)
        have YM15 : Own (((wk.setCell ⟨wn.heap.size, 8, none⟩ (.slice Ax4 nx4 cx4)).setCell ⟨wn.heap.size, 9, none⟩ (.bool x4.s)).setCell ⟨(wn.heap.size + 1 + 1), 4, none⟩ (.int .i64 e4)) (wn.heap.size + 1 + 1) 71 #[.int .i64 e0, .int .i64 e1, .int .i64 e2, .int .i64 e3, .int .i64 e4] := M15.tri_e (g := wn.heap.size) (by omega)
        have YM16 := M16.tri_far (g := wn.heap.size) (i := 8) (k := 9) (q := (wn.heap.size + 1 + 1)) (j := 4) (a := .slice Ax4 nx4 cx4) (b := .bool x4.s) (z := .int .i64 e4) (by omega) (by omega)
        replace M13 := Lib.hid YM13
        clear YM13
        replace M14 := Lib.hid YM14
        clear YM14
        replace M15 := Lib.hid YM15
        clear YM15
        replace M16 := Lib.hid YM16
        clear YM16
        replace Bn := Lib.hid (below_tri' (i := 8) (k := 9) (j := 4) (a := .slice Ax4 nx4 cx4) (b := .bool x4.s) (z := .int .i64 e4) Bn.out (show wn.heap.size ≤ wn.heap.size by omega) (show wn.heap.size ≤ (wn.heap.size + 1 + 1) by omega))
        have tz : (((wk.setCell ⟨wn.heap.size, 8, none⟩ (.slice Ax4 nx4 cx4)).setCell ⟨wn.heap.size, 9, none⟩ (.bool x4.s)).setCell ⟨(wn.heap.size + 1 + 1), 4, none⟩ (.int .i64 e4)).heap.size = wk.heap.size := by simp
        have O6 := O6n.out.step Bn.out
        have O7 := O7n.out.step Bn.out
        have O8 := O8n.out.step Bn.out
        have O9 := O9n.out.step Bn.out
        have q60 := O6.cell 0
        have q61 := O6.cell 1
        have q70 := O7.cell 0
        have q71 := O7.cell 1
        have q80 := O8.cell 0
        have q81 := O8.cell 1
        have q90 := O9.cell 0
        have q91 := O9.cell 1
        go_wp2_with fail
        go_at_call 49
        generalize hW : (((wk.setCell ⟨wn.heap.size, 8, none⟩ (.slice Ax4 nx4 cx4)).setCell ⟨wn.heap.size, 9, none⟩ (.bool x4.s)).setCell ⟨(wn.heap.size + 1 + 1), 4, none⟩ (.int .i64 e4)) = u9 at *
        clear hW
        clear O6
        clear O7
        clear O8
        clear O9
        clear q60 q61 q70 q71 q80 q81 q90 q91
        refine (K9.out u9 (r2n.out.step Bn.out) (r3n.out.step Bn.out)).mono ?_
        rintro e wk ⟨Ay4, ny4, cy4, rfl, hcy4, hny4, Ny4, hb⟩
        clear K9
        replace Bn := Lib.hid (below_step Bn.out hb)
        replace M13 := M13.out.step hb
        replace M14 := M14.out.step hb
        replace M15 := M15.out.step hb
        replace M16 := M16.out.step hb
        replace Nx0 := Nx0.out.step hb
        replace Ny0 := Ny0.out.step hb
        replace Nx1 := Nx1.out.step hb
        replace Ny1 := Ny1.out.step hb
        replace Nx2 := Nx2.out.step hb
        replace Ny2 := Ny2.out.step hb
        replace Nx3 := Nx3.out.step hb
        replace Ny3 := Ny3.out.step hb
        replace Nx4 := Nx4.out.step hb
        clear hb
        have k0 := M14.cell 8
        have k1 := M14.cell 9
        have f0 := M14.free 8
        have f1 := M14.free 9
        have D := (M16.far (p := ⟨(wn.heap.size + 1), 8, none⟩) (show (wn.heap.size + 1 + 1 + 1) ≠ (wn.heap.size + 1) by omega) (.slice Ay4 ny4 cy4)).far (p := ⟨(wn.heap.size + 1), 9, none⟩) (show (wn.heap.size + 1 + 1 + 1) ≠ (wn.heap.size + 1) by omega) (.bool y4.s)
        have k2 := D.cell 4
        have f2 := D.free 4
        replace Nx0 := Lib.hid ((Nx0.tri (i := 8) (k := 9) (j := 4) (a := .slice Ay4 ny4 cy4) (b := .bool y4.s) (z := .int .i64 e4) M14 (by decide) M16 (by decide) (by omega)))
        replace Ny0 := Lib.hid ((Ny0.tri (i := 8) (k := 9) (j := 4) (a := .slice Ay4 ny4 cy4) (b := .bool y4.s) (z := .int .i64 e4) M14 (by decide) M16 (by decide) (by omega)))
        replace Nx1 := Lib.hid ((Nx1.tri (i := 8) (k := 9) (j := 4) (a := .slice Ay4 ny4 cy4) (b := .bool y4.s) (z := .int .i64 e4) M14 (by decide) M16 (by decide) (by omega)))
        replace Ny1 := Lib.hid ((Ny1.tri (i := 8) (k := 9) (j := 4) (a := .slice Ay4 ny4 cy4) (b := .bool y4.s) (z := .int .i64 e4) M14 (by decide) M16 (by decide) (by omega)))
        replace Nx2 := Lib.hid ((Nx2.tri (i := 8) (k := 9) (j := 4) (a := .slice Ay4 ny4 cy4) (b := .bool y4.s) (z := .int .i64 e4) M14 (by decide) M16 (by decide) (by omega)))
        replace Ny2 := Lib.hid ((Ny2.tri (i := 8) (k := 9) (j := 4) (a := .slice Ay4 ny4 cy4) (b := .bool y4.s) (z := .int .i64 e4) M14 (by decide) M16 (by decide) (by omega)))
        replace Nx3 := Lib.hid ((Nx3.tri (i := 8) (k := 9) (j := 4) (a := .slice Ay4 ny4 cy4) (b := .bool y4.s) (z := .int .i64 e4) M14 (by decide) M16 (by decide) (by omega)))
        replace Ny3 := Lib.hid ((Ny3.tri (i := 8) (k := 9) (j := 4) (a := .slice Ay4 ny4 cy4) (b := .bool y4.s) (z := .int .i64 e4) M14 (by decide) M16 (by decide) (by omega)))
        replace Nx4 := Lib.hid ((Nx4.tri (i := 8) (k := 9) (j := 4) (a := .slice Ay4 ny4 cy4) (b := .bool y4.s) (z := .int .i64 e4) M14 (by decide) M16 (by decide) (by omega)))
        replace Ny4 := Lib.hid ((Ny4.tri (i := 8) (k := 9) (j := 4) (a := .slice Ay4 ny4 cy4) (b := .bool y4.s) (z := .int .i64 e4) M14 (by decide) M16 (by decide) (by omega)))
        have YM13 := M13.tri_far (g := (wn.heap.size + 1)) (i := 8) (k := 9) (q := (wn.heap.size + 1 + 1 + 1)) (j := 4) (a := .slice Ay4 ny4 cy4) (b := .bool y4.s) (z := .int .i64 e4) (by omega) (by omega)
        have YM14 : Own (((wk.setCell ⟨(wn.heap.size + 1), 8, none⟩ (.slice Ay4 ny4 cy4)).setCell ⟨(wn.heap.size + 1), 9, none⟩ (.bool y4.s)).setCell ⟨(wn.heap.size + 1 + 1 + 1), 4, none⟩ (.int .i64 e4)) (wn.heap.size + 1) 70 #[.slice Ay0 ny0 cy0, .bool y0.s, .slice Ay1 ny1 cy1, .bool y1.s, .slice Ay2 ny2 cy2, .bool y2.s, .slice Ay3 ny3 cy3, .bool y3.s, .slice Ay4 ny4 cy4, .bool y4.s] := M14.tri_x (q := (wn.heap.size + 1 + 1 + 1)) (by omega)
        have YM15 := M15.tri_far (g := (wn.heap.size + 1)) (i := 8) (k := 9) (q := (wn.heap.size + 1 + 1 + 1)) (j := 4) (a := .slice Ay4 ny4 cy4) (b := .bool y4.s) (z := .int .i64 e4) (by omega) (by omega)
        have YM16 : Own (((wk.setCell ⟨(wn.heap.size + 1), 8, none⟩ (.slice Ay4 ny4 cy4)).setCell ⟨(wn.heap.size + 1), 9, none⟩ (.bool y4.s)).setCell ⟨(wn.heap.size + 1 + 1 + 1), 4, none⟩ (.int .i64 e4)) (wn.heap.size + 1 + 1 + 1) 71 #[.int .i64 e0, .int .i64 e1, .int .i64 e2, .int .i64 e3, .int .i64 e4] := M16.tri_e (g := (wn.heap.size + 1)) (by omega)
        replace M13 := Lib.hid YM13
        clear YM13
        replace M14 := Lib.hid YM14
        clear YM14
        replace M15 := Lib.hid YM15
        clear YM15
        replace M16 := Lib.hid YM16
        clear YM16
        replace Bn := Lib.hid (below_tri' (i := 8) (k := 9) (j := 4) (a := .slice Ay4 ny4 cy4) (b := .bool y4.s) (z := .int .i64 e4) Bn.out (show wn.heap.size ≤ (wn.heap.size + 1) by omega) (show wn.heap.size ≤ (wn.heap.size + 1 + 1 + 1) by omega))
        have tz : (((wk.setCell ⟨(wn.heap.size + 1), 8, none⟩ (.slice Ay4 ny4 cy4)).setCell ⟨(wn.heap.size + 1), 9, none⟩ (.bool y4.s)).setCell ⟨(wn.heap.size + 1 + 1 + 1), 4, none⟩ (.int .i64 e4)).heap.size = wk.heap.size := by simp
        have O6 := O6n.out.step Bn.out
        have O7 := O7n.out.step Bn.out
        have O8 := O8n.out.step Bn.out
        have O9 := O9n.out.step Bn.out
        have q60 := O6.cell 0
        have q61 := O6.cell 1
        have q70 := O7.cell 0
        have q71 := O7.cell 1
        have q80 := O8.cell 0
        have q81 := O8.cell 1
        have q90 := O9.cell 0
        have q91 := O9.cell 1
        replace M15 := M15.out
        replace M16 := M16.out
        have p0 := M15.cell 0
        have t0 := M16.cell 0
        have p1 := M15.cell 1
        have t1 := M16.cell 1
        have p2 := M15.cell 2
        have t2 := M16.cell 2
        have p3 := M15.cell 3
        have t3 := M16.cell 3
        have p4 := M15.cell 4
        have t4 := M16.cell 4
        have eqE := run_eqE e0 e1 e2 e3 e4
        go_wp2
        clear k0 k1 f0 f1 D k2 f2 q60 q61 q70 q71 q80 q81 q90 q91 O6 O7 O8 O9 p0 p1 p2 p3 p4 t0 t1 t2 t3 t4 M15 M16 eqE
        generalize hW : (((wk.setCell ⟨(wn.heap.size + 1), 8, none⟩ (.slice Ay4 ny4 cy4)).setCell ⟨(wn.heap.size + 1), 9, none⟩ (.bool y4.s)).setCell ⟨(wn.heap.size + 1 + 1 + 1), 4, none⟩ (.int .i64 e4)) = v at *
        clear hW
        obtain ⟨F, hF⟩ : ∃ F : Nat → Cv, F = fun j => ([(⟨Ax0, nx0, cx0, x0.s⟩ : Cv), (⟨Ax1, nx1, cx1, x1.s⟩ : Cv), (⟨Ax2, nx2, cx2, x2.s⟩ : Cv), (⟨Ax3, nx3, cx3, x3.s⟩ : Cv), (⟨Ax4, nx4, cx4, x4.s⟩ : Cv)]).getD j ⟨none, 0, 0, false⟩ := ⟨_, rfl⟩
        obtain ⟨x, hx⟩ : ∃ x : Nat → V, x = fun j => ([x0, x1, x2, x3, x4]).getD j nilV := ⟨_, rfl⟩
        obtain ⟨G, hG⟩ : ∃ G : Nat → Cv, G = fun j => ([(⟨Ay0, ny0, cy0, y0.s⟩ : Cv), (⟨Ay1, ny1, cy1, y1.s⟩ : Cv), (⟨Ay2, ny2, cy2, y2.s⟩ : Cv), (⟨Ay3, ny3, cy3, y3.s⟩ : Cv), (⟨Ay4, ny4, cy4, y4.s⟩ : Cv)]).getD j ⟨none, 0, 0, false⟩ := ⟨_, rfl⟩
        obtain ⟨y, hy⟩ : ∃ y : Nat → V, y = fun j => ([y0, y1, y2, y3, y4]).getD j nilV := ⟨_, rfl⟩
        have OX : Own v wn.heap.size 70 (rowV5 F) := by subst hF; exact M13.out
        have OY : Own v (wn.heap.size + 1) 70 (rowV5 G) := by subst hG; exact M14.out
        have HV : ∀ j, j < 5 → (Rb v (F j).A (F j).n (x j).l ∧ (F j).n ≤ 1000 ∧ (F j).s = (x j).s) ∧ (Rb v (G j).A (G j).n (y j).l ∧ (G j).n ≤ 1000 ∧ (G j).s = (y j).s) ∧ belV (x j) (y j) = true := fun j hj => by
          subst hF hG hx hy
          rcases (show j = 0 ∨ j = 1 ∨ j = 2 ∨ j = 3 ∨ j = 4 by omega) with rfl | rfl | rfl | rfl | rfl
          · exact ⟨⟨Nx0.out.rd, hnx0, rfl⟩, ⟨Ny0.out.rd, hny0, rfl⟩, hb0.out⟩
          · exact ⟨⟨Nx1.out.rd, hnx1, rfl⟩, ⟨Ny1.out.rd, hny1, rfl⟩, hb1.out⟩
          · exact ⟨⟨Nx2.out.rd, hnx2, rfl⟩, ⟨Ny2.out.rd, hny2, rfl⟩, hb2.out⟩
          · exact ⟨⟨Nx3.out.rd, hnx3, rfl⟩, ⟨Ny3.out.rd, hny3, rfl⟩, hb3.out⟩
          · exact ⟨⟨Nx4.out.rd, hnx4, rfl⟩, ⟨Ny4.out.rd, hny4, rfl⟩, hb4.out⟩
        have TT := TTn.out.step Bn.out
        replace BB := Lib.hid (below_step BB.out Bn.out)
        clear hF hG hx hy M13 M14 Bn TTn O6n O7n O8n O9n r0n r1n r2n r3n Nx0 hb0 Ny0 Nx1 hb1 Ny1 Nx2 hb2 Ny2 Nx3 hb3 Ny3 Nx4 hb4 Ny4
        replace OX := Lib.hid OX
        replace OY := Lib.hid OY
        replace HV := Lib.hid HV
        replace TT := Lib.hid TT
        go_loopw [17] (fun q wr => ∃ i : Nat, i ≤ 5 ∧ q = .int .i64 i ∧ Hid (Below v.heap.size v wr)) (fun q _ => 5 - (intOf q).toNat)
        case atStart => exact ⟨0, by decide, rfl, Lib.hid (Below.refl _ _)⟩
        case round =>
          obtain ⟨i, hi, rfl, Bv⟩ := hrel
          by_cases hlt : i < 5
          · obtain ⟨⟨rp, hnp, hsp⟩, ⟨rq, hnq, hsq⟩, hbe⟩ := HV.out i hlt
            have gF := rowV5_get F i hlt
            have gG := rowV5_get G i hlt
            rw [hsp] at gF
            rw [hsq] at gG
            clear hsp hsq
            generalize (F i).A = Ap at *
            generalize (F i).n = np at *
            generalize (F i).c = cp at *
            generalize (G i).A = Aq at *
            generalize (G i).n = nq at *
            generalize (G i).c = cq at *
            generalize x i = xp at *
            generalize y i = yq at *
            obtain ⟨lp, sp⟩ := xp
            obtain ⟨lq, sq⟩ := yq
            replace rp := rp.step Bv.out
            replace rq := rq.step Bv.out
            have OX' := OX.out.step Bv.out
            have OY' := OY.out.step Bv.out
            have TT' := TT.out.step Bv.out
            replace gF : (rowV5 F)[i * 2]? = some (.slice Ap np cp) ∧ (rowV5 F)[i * 2 + 1]? = some (.bool sp) := gF
            replace gG : (rowV5 G)[i * 2]? = some (.slice Aq nq cq) ∧ (rowV5 G)[i * 2 + 1]? = some (.bool sq) := gG
            replace gF := Lib.hid gF
            replace gG := Lib.hid gG
            replace hbe := Lib.hid hbe
            have d1 : decide ((i : Int) < 5) = true := by simp; omega
            go_wp2
            refine region_y (by kernel_rfl) (fun u => rds Ap np lp u ∧ (rds Aq nq lq u ∧ (ownT wn.heap.size 70 (rowV5 F) u ∧ (ownT (wn.heap.size + 1) 70 (rowV5 G) u ∧ (tbs u ∧ blw v u))))) [] [isV (.int .i64 i), isV (.pointer (some ⟨wn.heap.size, i * 2, none⟩)), isV (.agg #[.slice Ap np cp, .bool sp]), isV (.int .i64 i), isV (.pointer (some ⟨(wn.heap.size + 1), i * 2, none⟩)), isV (.agg #[.slice Aq nq cq, .bool sq]), isV (.bool true), isV (.bool false)] [some 134, some 135, some 136, some 137, some 138, some 139, some 140, some 141] [[], [0], [1], [], [3], [4], [2, 5], [6]] (by kernel_rfl) (by kernel_rfl) rfl (by kernel_rfl) (by kernel_rfl) (by kernel_rfl) ⟨rp.drew, rq.drew, OX'.drew, OY'.drew, TT'.drew, below_drew Bv.out⟩ (fun _ h => by cases h) ?_ ?_
            · refine ⟨?_, ?_, ?_, ?_, ?_, ?_, ?_, ?_, trivial⟩
              · intro a w' hS hO hF' hP K hK
                have f0 := hO 17 (by rfl)
                refine if_ok (by rfl) ?_
                unfold Oper.wp execOp
                simp only [Sem.run_pure, ev f0]
                exact hK _ w' (fun h => by cases h) (keep_same hS) rfl
              · intro a w' hS hO hF' hP K hK
                obtain ⟨_, f0, rfl⟩ := (hF' 0 rfl).1 134 _ rfl rfl
                have ha := hO 13 (by rfl)
                refine if_ok (by rfl) ?_
                refine wp_ixA (.tmp 13) _ rfl (k := i) (ev ha) (ev f0) (by omega) ?_
                exact hK _ w' (fun h => by cases h) (keep_same hS) rfl
              · intro a w' hS hO hF' hP K hK
                obtain ⟨_, f0, rfl⟩ := (hF' 1 rfl).1 135 _ rfl rfl
                have hc := fun i => hS.2.2.1.cell i
                refine if_ok (by rfl) ?_
                refine wp_ldV _ rfl (ev f0) ((hc _).trans gF.out.1) ((hc _).trans gF.out.2) ?_
                exact hK _ w' (fun h => by cases h) (keep_same hS) rfl
              · intro a w' hS hO hF' hP K hK
                have f0 := hO 17 (by rfl)
                refine if_ok (by rfl) ?_
                unfold Oper.wp execOp
                simp only [Sem.run_pure, ev f0]
                exact hK _ w' (fun h => by cases h) (keep_same hS) rfl
              · intro a w' hS hO hF' hP K hK
                obtain ⟨_, f0, rfl⟩ := (hF' 3 rfl).1 137 _ rfl rfl
                have ha := hO 14 (by rfl)
                refine if_ok (by rfl) ?_
                refine wp_ixA (.tmp 14) _ rfl (k := i) (ev ha) (ev f0) (by omega) ?_
                exact hK _ w' (fun h => by cases h) (keep_same hS) rfl
              · intro a w' hS hO hF' hP K hK
                obtain ⟨_, f0, rfl⟩ := (hF' 4 rfl).1 138 _ rfl rfl
                have hc := fun i => hS.2.2.2.1.cell i
                refine if_ok (by rfl) ?_
                refine wp_ldV _ rfl (ev f0) ((hc _).trans gG.out.1) ((hc _).trans gG.out.2) ?_
                exact hK _ w' (fun h => by cases h) (keep_same hS) rfl
              · intro a w' hS hO hF' hP K hK
                obtain ⟨_, f0, rfl⟩ := (hF' 2 rfl).1 136 _ rfl rfl
                obtain ⟨_, f1, rfl⟩ := (hF' 5 rfl).1 139 _ rfl rfl
                refine if_ok (by rfl) ?_
                refine wp_calls rfl (enters_of Tryz.func84 (by kernel_rfl) rfl) (args := #[(.agg #[.slice Ap np cp, .bool sp]), (.agg #[.slice Aq nq cq, .bool sq])]) (by simp [Act.eval, f0, f1]) ?_
                obtain ⟨rp, rq, OX1, OY1, TT, BB⟩ := id hS
                apply Calls.mono
                (with_reducible apply below_t); (repeat (first | assumption | (with_reducible (apply Nb.rd; assumption)) | (with_reducible (apply Rb.at_later; assumption)) | (with_reducible (apply Tabs.at_later; assumption)) | (with_reducible apply Rb.alloc) | (with_reducible apply Tabs.alloc) | (with_reducible apply Rb.drew) | (with_reducible apply Tabs.drew) | (show I64 _; unfold I64; omega) | omega)); (try exact hbe.out)
                rintro e w2 ⟨rfl, hb⟩
                exact ⟨_, rfl, hK _ w2 (fun h => by cases h) (keep_below hb hS) rfl⟩
              · intro a w' hS hO hF' hP K hK
                obtain ⟨_, f0, rfl⟩ := (hF' 6 rfl).1 140 _ rfl rfl
                refine if_ok (by rfl) ?_
                refine wp_not _ rfl (ev f0) ?_
                exact hK _ w' (fun h => by cases h) (keep_same hS) rfl
            · intro vs u hl hS hV
              match vs, hl, hV with
              | [v0, v1, v2, v3, v4, v5, v6, v7], _, hV =>
                obtain rfl := hV 0 _ rfl
                obtain rfl := hV 1 _ rfl
                obtain rfl := hV 2 _ rfl
                obtain rfl := hV 3 _ rfl
                obtain rfl := hV 4 _ rfl
                obtain rfl := hV 5 _ rfl
                obtain rfl := hV 6 _ rfl
                obtain rfl := hV 7 _ rfl
                simp only [puts, Act.put, List.setIfInBounds_toArray, List.set_cons_zero, List.set_cons_succ]
                obtain ⟨rp, rq, OX1, OY1, TT, BB⟩ := hS
                clear hV
                replace rp : Rb u Ap np lp := rp
                replace rq : Rb u Aq nq lq := rq
                replace OX1 : Own u wn.heap.size 70 (rowV5 F) := OX1
                replace OY1 : Own u (wn.heap.size + 1) 70 (rowV5 G) := OY1
                replace TT : Tabs u := TT
                replace BB : Below v.heap.size v u := BB
                go_wp2
                go_roundw
                case rel => exact ⟨i + 1, by omega, by go_num, Lib.hid BB⟩
                case measure => simp [intOf]; omega
          · obtain rfl : i = 5 := by omega
            go_wp2
            go_ret
            exact ⟨rfl, below_step BB.out Bv.out⟩
  · skip
    have HL := Lib.hid (long4_b _ A0 A1 A2 A3 n0 c0 n1 c1 n2 c2 n3 c3 s0 s1 s2 s3 hl)
    clear hl
    have q60 := O6.cell 0
    have q61 := O6.cell 1
    have q70 := O7.cell 0
    have q71 := O7.cell 1
    have q80 := O8.cell 0
    have q81 := O8.cell 1
    have q90 := O9.cell 0
    have q91 := O9.cell 1
    go_enter Tryz.func9, Tryz.ntmps9
    go_wp2_with (first | (go_at_call 12; refine (HL.out _ _ (by simp)).mono ?_; rintro e wn ⟨rfl, rfl⟩; replace O6 := O6.alloc (.cells #[.slice A0 n0 c0, .bool s0, .slice A1 n1 c1, .bool s1, .slice A2 n2 c2, .bool s2, .slice A3 n3 c3, .bool s3] 24); replace O7 := O7.alloc (.cells #[.slice A0 n0 c0, .bool s0, .slice A1 n1 c1, .bool s1, .slice A2 n2 c2, .bool s2, .slice A3 n3 c3, .bool s3] 24); replace O8 := O8.alloc (.cells #[.slice A0 n0 c0, .bool s0, .slice A1 n1 c1, .bool s1, .slice A2 n2 c2, .bool s2, .slice A3 n3 c3, .bool s3] 24); replace O9 := O9.alloc (.cells #[.slice A0 n0 c0, .bool s0, .slice A1 n1 c1, .bool s1, .slice A2 n2 c2, .bool s2, .slice A3 n3 c3, .bool s3] 24); replace r0 := r0.alloc (.cells #[.slice A0 n0 c0, .bool s0, .slice A1 n1 c1, .bool s1, .slice A2 n2 c2, .bool s2, .slice A3 n3 c3, .bool s3] 24); replace r1 := r1.alloc (.cells #[.slice A0 n0 c0, .bool s0, .slice A1 n1 c1, .bool s1, .slice A2 n2 c2, .bool s2, .slice A3 n3 c3, .bool s3] 24); replace r2 := r2.alloc (.cells #[.slice A0 n0 c0, .bool s0, .slice A1 n1 c1, .bool s1, .slice A2 n2 c2, .bool s2, .slice A3 n3 c3, .bool s3] 24); replace r3 := r3.alloc (.cells #[.slice A0 n0 c0, .bool s0, .slice A1 n1 c1, .bool s1, .slice A2 n2 c2, .bool s2, .slice A3 n3 c3, .bool s3] 24); replace TT := TT.alloc (.cells #[.slice A0 n0 c0, .bool s0, .slice A1 n1 c1, .bool s1, .slice A2 n2 c2, .bool s2, .slice A3 n3 c3, .bool s3] 24); replace BB := Lib.hid (below_new BB.out (.cells #[.slice A0 n0 c0, .bool s0, .slice A1 n1 c1, .bool s1, .slice A2 n2 c2, .bool s2, .slice A3 n3 c3, .bool s3] 24))) | (go_at_call 13; refine (awake_any _ TT).mono ?_; rintro e wn ⟨rfl, hb⟩; replace BB := Lib.hid (below_step BB.out hb)))
    go_ret
    exact ⟨rfl, BB.out⟩
end Go.Proofs.YtognpmggfplekaaGreatDoor
