/-
  The walk of VecMonotone: it returns true. Conditions: the tables of package bit read as the program lays them.
-/
import Derived.Test.YtognpmggfplekaaGreatDoorWx
namespace Go.Proofs.YtognpmggfplekaaGreatDoor
open Go Go.RowKit

set_option maxRecDepth 100000 in
theorem below_t (A Y : Option Addr) (n m c d : Nat) (s t : Bool) (l k : List Int) (w : World) (h : Rb w A n l) (h' : Rb w Y m k) (hn : n ≤ 1000) (TT : Tabs w) (hb : belV ⟨l, s⟩ ⟨k, t⟩ = true) :
    Calls Tryz.prog 84 #[.agg #[.slice A n c, .bool s], .agg #[.slice Y m d, .bool t]] w fun e w' => e = .returned (.bool true) ∧ Below w.heap.size w w' := by
  have := below_any A Y n m c d s t l k w h h' (by omega) TT
  rw [hb] at this
  exact this
set_option maxRecDepth 100000 in
theorem refines_b (p : Bool) (A Y : Option Addr) (n m c d : Nat) (s t : Bool) (l k : List Int) (w : World) (h : Rb w A n l) (h' : Rb w Y m k) (hn : n ≤ 1000) (hm : m ≤ 1000) (hp : rfB ⟨l, s⟩ ⟨k, t⟩ = p) :
    Calls Tryz.prog 83 #[.agg #[.slice A n c, .bool s], .agg #[.slice Y m d, .bool t]] w fun e w' => e = .returned (.bool p) ∧ Below w.heap.size w w' := by
  have := refines_any A Y n m c d s t l k w h h' (by omega) (by omega)
  rw [hp] at this
  exact this
set_option maxRecDepth 100000 in
theorem leq_t {a b : Int} (w : World) (h : leqB a b = true) : Calls Tryz.prog 85 #[.int .u8 a, .int .u8 b] w fun e w' => e = .returned (.bool true) ∧ Below w.heap.size w w' := by
  have := quietB (leq_any a b w)
  rw [h] at this
  exact this
set_option maxRecDepth 100000 in
theorem two_ops (i : Nat) (hi : i < 22) : (twoOp i = 29) = False ∧ (twoOp i = 30) = False := by
  rcases (show i = 0 ∨ i = 1 ∨ i = 2 ∨ i = 3 ∨ i = 4 ∨ i = 5 ∨ i = 6 ∨ i = 7 ∨ i = 8 ∨ i = 9 ∨ i = 10 ∨ i = 11 ∨ i = 12 ∨ i = 13 ∨ i = 14 ∨ i = 15 ∨ i = 16 ∨ i = 17 ∨ i = 18 ∨ i = 19 ∨ i = 20 ∨ i = 21 by omega) with rfl | rfl | rfl | rfl | rfl | rfl | rfl | rfl | rfl | rfl | rfl | rfl | rfl | rfl | rfl | rfl | rfl | rfl | rfl | rfl | rfl | rfl
  all_goals exact ⟨by simp [twoOp], by simp [twoOp]⟩
def mnDs : List (Option Tmp) := some 92 :: some 93 :: some 94 :: some 95 :: some 96 :: some 97 :: some 98 :: some 99 :: some 100 :: some 101 :: some 102 :: some 103 :: some 104 :: some 105 :: some 106 :: some 107 :: some 12 :: []
def mnDp : List (List Nat) := [] :: [0] :: [] :: [2, 1] :: [1, 3, 3] :: [4, 4] :: [5] :: [5] :: [5] :: [6, 7, 8, 5, 5] :: [5] :: [5] :: [5] :: [10, 11, 12, 9, 5] :: [9, 13, 13, 5] :: [5, 14] :: [15, 14, 0, 1, 2, 3, 4, 5, 6, 7, 8, 9, 10, 11, 12, 13, 14, 15] :: []
def mnVs  (A0 : Option Addr) (n0 c0 : Nat) (s0 : Bool) (l0 : List Int) (A1 : Option Addr) (n1 c1 : Nat) (s1 : Bool) (l1 : List Int) (A2 : Option Addr) (n2 c2 : Nat) (s2 : Bool) (l2 : List Int) (A3 : Option Addr) (n3 c3 : Nat) (s3 : Bool) (l3 : List Int) (A4 : Option Addr) (n4 c4 : Nat) (s4 : Bool) (l4 : List Int) (A5 : Option Addr) (n5 c5 : Nat) (s5 : Bool) (l5 : List Int) : List (Value → World → Prop) := (isV (.agg #[.slice A1 n1 c1, .bool s1])) :: (isV (.int .u8 (truth (⟨l1, s1⟩ : V)))) :: (isV (.agg #[.slice A4 n4 c4, .bool s4])) :: (isV (.int .u8 (truth (⟨l4, s4⟩ : V)))) :: (isV (.bool true)) :: (isV (.bool true)) :: (isV (.agg #[.slice A0 n0 c0, .bool s0])) :: (isV (.agg #[.slice A1 n1 c1, .bool s1])) :: (isV (.agg #[.slice A2 n2 c2, .bool s2])) :: (isW (condV (⟨l0, s0⟩ : V) (⟨l1, s1⟩ : V) (⟨l2, s2⟩ : V))) :: (isV (.agg #[.slice A3 n3 c3, .bool s3])) :: (isV (.agg #[.slice A4 n4 c4, .bool s4])) :: (isV (.agg #[.slice A5 n5 c5, .bool s5])) :: (isW (condV (⟨l3, s3⟩ : V) (⟨l4, s4⟩ : V) (⟨l5, s5⟩ : V))) :: (isV (.bool true)) :: (isV (.bool true)) :: (isV (.bool true)) :: []
instance  (A0 : Option Addr) (n0 c0 : Nat) (s0 : Bool) (l0 : List Int) (A1 : Option Addr) (n1 c1 : Nat) (s1 : Bool) (l1 : List Int) (A2 : Option Addr) (n2 c2 : Nat) (s2 : Bool) (l2 : List Int) (A3 : Option Addr) (n3 c3 : Nat) (s3 : Bool) (l3 : List Int) (A4 : Option Addr) (n4 c4 : Nat) (s4 : Bool) (l4 : List Int) (A5 : Option Addr) (n5 c5 : Nat) (s5 : Bool) (l5 : List Int) : StVs (mnVs A0 n0 c0 s0 l0 A1 n1 c1 s1 l1 A2 n2 c2 s2 l2 A3 n3 c3 s3 l3 A4 n4 c4 s4 l4 A5 n5 c5 s5 l5) := by unfold mnVs; exact by repeat (first | exact stvs_nil | refine stvs_cons inferInstance ?_)
set_option maxRecDepth 100000 in
set_option maxHeartbeats 8000000 in
theorem walk_VecMonotone (A0 : Option Addr) (n0 c0 : Nat) (s0 : Bool) (l0 : List Int) (A1 : Option Addr) (n1 c1 : Nat) (s1 : Bool) (l1 : List Int) (A2 : Option Addr) (n2 c2 : Nat) (s2 : Bool) (l2 : List Int) (A3 : Option Addr) (n3 c3 : Nat) (s3 : Bool) (l3 : List Int) (A4 : Option Addr) (n4 c4 : Nat) (s4 : Bool) (l4 : List Int) (A5 : Option Addr) (n5 c5 : Nat) (s5 : Bool) (l5 : List Int) (w : World) (h0 : Rb w A0 n0 l0) (hc0 : n0 ≤ c0) (h1 : Rb w A1 n1 l1) (hc1 : n1 ≤ c1) (h2 : Rb w A2 n2 l2) (hc2 : n2 ≤ c2) (h3 : Rb w A3 n3 l3) (hc3 : n3 ≤ c3) (h4 : Rb w A4 n4 l4) (hc4 : n4 ≤ c4) (h5 : Rb w A5 n5 l5) (hc5 : n5 ≤ c5) (TT : Tabs w) : Calls Tryz.prog 8 #[.agg #[.slice A0 n0 c0, .bool s0], .agg #[.slice A1 n1 c1, .bool s1], .agg #[.slice A2 n2 c2, .bool s2], .agg #[.slice A3 n3 c3, .bool s3], .agg #[.slice A4 n4 c4, .bool s4], .agg #[.slice A5 n5 c5, .bool s5]] w fun e w' => e = .returned (.bool true) ∧ Below w.heap.size w w' := by
  have na0 := h0.nn
  have na1 := h1.nn
  have na2 := h2.nn
  have na3 := h3.nn
  have na4 := h4.nn
  have na5 := h5.nn
  have O0 := ((((((Own.at1 w 24 #[.slice A0 n0 c0, .bool s0] (g := w.heap.size) (by simp)).alloc (.cells #[.slice A1 n1 c1, .bool s1] 24)).alloc (.cells #[.slice A2 n2 c2, .bool s2] 24)).alloc (.cells #[.slice A3 n3 c3, .bool s3] 24)).alloc (.cells #[.slice A4 n4 c4, .bool s4] 24)).alloc (.cells #[.slice A5 n5 c5, .bool s5] 24))
  have O1 := (((((Own.at1 (w.alloc (.cells #[.slice A0 n0 c0, .bool s0] 24)) 24 #[.slice A1 n1 c1, .bool s1] (g := w.heap.size + 1) (by simp)).alloc (.cells #[.slice A2 n2 c2, .bool s2] 24)).alloc (.cells #[.slice A3 n3 c3, .bool s3] 24)).alloc (.cells #[.slice A4 n4 c4, .bool s4] 24)).alloc (.cells #[.slice A5 n5 c5, .bool s5] 24))
  have O2 := ((((Own.at1 ((w.alloc (.cells #[.slice A0 n0 c0, .bool s0] 24)).alloc (.cells #[.slice A1 n1 c1, .bool s1] 24)) 24 #[.slice A2 n2 c2, .bool s2] (g := w.heap.size + 1 + 1) (by simp)).alloc (.cells #[.slice A3 n3 c3, .bool s3] 24)).alloc (.cells #[.slice A4 n4 c4, .bool s4] 24)).alloc (.cells #[.slice A5 n5 c5, .bool s5] 24))
  have O3 := (((Own.at1 (((w.alloc (.cells #[.slice A0 n0 c0, .bool s0] 24)).alloc (.cells #[.slice A1 n1 c1, .bool s1] 24)).alloc (.cells #[.slice A2 n2 c2, .bool s2] 24)) 24 #[.slice A3 n3 c3, .bool s3] (g := w.heap.size + 1 + 1 + 1) (by simp)).alloc (.cells #[.slice A4 n4 c4, .bool s4] 24)).alloc (.cells #[.slice A5 n5 c5, .bool s5] 24))
  have O4 := ((Own.at1 ((((w.alloc (.cells #[.slice A0 n0 c0, .bool s0] 24)).alloc (.cells #[.slice A1 n1 c1, .bool s1] 24)).alloc (.cells #[.slice A2 n2 c2, .bool s2] 24)).alloc (.cells #[.slice A3 n3 c3, .bool s3] 24)) 24 #[.slice A4 n4 c4, .bool s4] (g := w.heap.size + 1 + 1 + 1 + 1) (by simp)).alloc (.cells #[.slice A5 n5 c5, .bool s5] 24))
  have O5 := (Own.at1 (((((w.alloc (.cells #[.slice A0 n0 c0, .bool s0] 24)).alloc (.cells #[.slice A1 n1 c1, .bool s1] 24)).alloc (.cells #[.slice A2 n2 c2, .bool s2] 24)).alloc (.cells #[.slice A3 n3 c3, .bool s3] 24)).alloc (.cells #[.slice A4 n4 c4, .bool s4] 24)) 24 #[.slice A5 n5 c5, .bool s5] (g := w.heap.size + 1 + 1 + 1 + 1 + 1) (by simp))
  have BB := (below_new (below_new (below_new (below_new (below_new (below_new (Below.refl w.heap.size w) (.cells #[.slice A0 n0 c0, .bool s0] 24)) (.cells #[.slice A1 n1 c1, .bool s1] 24)) (.cells #[.slice A2 n2 c2, .bool s2] 24)) (.cells #[.slice A3 n3 c3, .bool s3] 24)) (.cells #[.slice A4 n4 c4, .bool s4] 24)) (.cells #[.slice A5 n5 c5, .bool s5] 24))
  have X6 := O0
  have X7 := O1
  have X8 := O2
  have X9 := O3
  have X10 := O4
  have X11 := O5
  clear O0
  clear O1
  clear O2
  clear O3
  clear O4
  clear O5
  have O6 := X6
  clear X6
  have O7 := X7
  clear X7
  have O8 := X8
  clear X8
  have O9 := X9
  clear X9
  have O10 := X10
  clear X10
  have O11 := X11
  clear X11
  replace TT := TT.step BB
  have r0 := h0.step BB
  have r1 := h1.step BB
  have r2 := h2.step BB
  have r3 := h3.step BB
  have r4 := h4.step BB
  have r5 := h5.step BB
  clear h0 h1 h2 h3 h4 h5
  replace BB := Lib.hid BB
  cases hl : lngB [n0, n1, n2, n3, n4, n5]
  · skip
    have hn := lng_no hl
    have hn0 : n0 ≤ 140 := hn n0 (by simp)
    have hn1 : n1 ≤ 140 := hn n1 (by simp)
    have hn2 : n2 ≤ 140 := hn n2 (by simp)
    have hn3 : n3 ≤ 140 := hn n3 (by simp)
    have hn4 : n4 ≤ 140 := hn n4 (by simp)
    have hn5 : n5 ≤ 140 := hn n5 (by simp)
    have HL := Lib.hid (long6_b _ A0 A1 A2 A3 A4 A5 n0 c0 n1 c1 n2 c2 n3 c3 n4 c4 n5 c5 s0 s1 s2 s3 s4 s5 hl)
    clear hl hn
    have q60 := O6.cell 0
    have q61 := O6.cell 1
    have q70 := O7.cell 0
    have q71 := O7.cell 1
    have q80 := O8.cell 0
    have q81 := O8.cell 1
    have q90 := O9.cell 0
    have q91 := O9.cell 1
    have q100 := O10.cell 0
    have q101 := O10.cell 1
    have q110 := O11.cell 0
    have q111 := O11.cell 1
    cases hG1 : rfB (⟨l3, s3⟩ : V) (⟨l0, s0⟩ : V)
    · skip
      have G1 := Lib.hid (fun (u : World) (h : Rb u A3 n3 l3) (h' : Rb u A0 n0 l0) => refines_b _ A3 A0 n3 n0 c3 c0 s3 s0 l3 l0 u h h' (by omega) (by omega) hG1)
      clear hG1
      go_enter Tryz.func8, Tryz.ntmps8
      go_wp2_with (first | (go_at_call 12; refine (HL.out _ _ (by simp)).mono ?_; rintro e wn ⟨rfl, rfl⟩; replace O6 := O6.alloc (.cells #[.slice A0 n0 c0, .bool s0, .slice A1 n1 c1, .bool s1, .slice A2 n2 c2, .bool s2, .slice A3 n3 c3, .bool s3, .slice A4 n4 c4, .bool s4, .slice A5 n5 c5, .bool s5] 24); replace O7 := O7.alloc (.cells #[.slice A0 n0 c0, .bool s0, .slice A1 n1 c1, .bool s1, .slice A2 n2 c2, .bool s2, .slice A3 n3 c3, .bool s3, .slice A4 n4 c4, .bool s4, .slice A5 n5 c5, .bool s5] 24); replace O8 := O8.alloc (.cells #[.slice A0 n0 c0, .bool s0, .slice A1 n1 c1, .bool s1, .slice A2 n2 c2, .bool s2, .slice A3 n3 c3, .bool s3, .slice A4 n4 c4, .bool s4, .slice A5 n5 c5, .bool s5] 24); replace O9 := O9.alloc (.cells #[.slice A0 n0 c0, .bool s0, .slice A1 n1 c1, .bool s1, .slice A2 n2 c2, .bool s2, .slice A3 n3 c3, .bool s3, .slice A4 n4 c4, .bool s4, .slice A5 n5 c5, .bool s5] 24); replace O10 := O10.alloc (.cells #[.slice A0 n0 c0, .bool s0, .slice A1 n1 c1, .bool s1, .slice A2 n2 c2, .bool s2, .slice A3 n3 c3, .bool s3, .slice A4 n4 c4, .bool s4, .slice A5 n5 c5, .bool s5] 24); replace O11 := O11.alloc (.cells #[.slice A0 n0 c0, .bool s0, .slice A1 n1 c1, .bool s1, .slice A2 n2 c2, .bool s2, .slice A3 n3 c3, .bool s3, .slice A4 n4 c4, .bool s4, .slice A5 n5 c5, .bool s5] 24); replace r0 := r0.alloc (.cells #[.slice A0 n0 c0, .bool s0, .slice A1 n1 c1, .bool s1, .slice A2 n2 c2, .bool s2, .slice A3 n3 c3, .bool s3, .slice A4 n4 c4, .bool s4, .slice A5 n5 c5, .bool s5] 24); replace r1 := r1.alloc (.cells #[.slice A0 n0 c0, .bool s0, .slice A1 n1 c1, .bool s1, .slice A2 n2 c2, .bool s2, .slice A3 n3 c3, .bool s3, .slice A4 n4 c4, .bool s4, .slice A5 n5 c5, .bool s5] 24); replace r2 := r2.alloc (.cells #[.slice A0 n0 c0, .bool s0, .slice A1 n1 c1, .bool s1, .slice A2 n2 c2, .bool s2, .slice A3 n3 c3, .bool s3, .slice A4 n4 c4, .bool s4, .slice A5 n5 c5, .bool s5] 24); replace r3 := r3.alloc (.cells #[.slice A0 n0 c0, .bool s0, .slice A1 n1 c1, .bool s1, .slice A2 n2 c2, .bool s2, .slice A3 n3 c3, .bool s3, .slice A4 n4 c4, .bool s4, .slice A5 n5 c5, .bool s5] 24); replace r4 := r4.alloc (.cells #[.slice A0 n0 c0, .bool s0, .slice A1 n1 c1, .bool s1, .slice A2 n2 c2, .bool s2, .slice A3 n3 c3, .bool s3, .slice A4 n4 c4, .bool s4, .slice A5 n5 c5, .bool s5] 24); replace r5 := r5.alloc (.cells #[.slice A0 n0 c0, .bool s0, .slice A1 n1 c1, .bool s1, .slice A2 n2 c2, .bool s2, .slice A3 n3 c3, .bool s3, .slice A4 n4 c4, .bool s4, .slice A5 n5 c5, .bool s5] 24); replace TT := TT.alloc (.cells #[.slice A0 n0 c0, .bool s0, .slice A1 n1 c1, .bool s1, .slice A2 n2 c2, .bool s2, .slice A3 n3 c3, .bool s3, .slice A4 n4 c4, .bool s4, .slice A5 n5 c5, .bool s5] 24); replace BB := Lib.hid (below_new BB.out (.cells #[.slice A0 n0 c0, .bool s0, .slice A1 n1 c1, .bool s1, .slice A2 n2 c2, .bool s2, .slice A3 n3 c3, .bool s3, .slice A4 n4 c4, .bool s4, .slice A5 n5 c5, .bool s5] 24))) | (go_at_call 13; refine (awake_any _ TT).mono ?_; rintro e wn ⟨rfl, hb⟩; have kb := hb; (try replace O6 := O6.step kb); (try replace O7 := O7.step kb); (try replace O8 := O8.step kb); (try replace O9 := O9.step kb); (try replace O10 := O10.step kb); (try replace O11 := O11.step kb); (try replace r0 := r0.step kb); (try replace r1 := r1.step kb); (try replace r2 := r2.step kb); (try replace r3 := r3.step kb); (try replace r4 := r4.step kb); (try replace r5 := r5.step kb); (try replace TT := TT.step kb); replace BB := Lib.hid (below_step BB.out kb); (try clear q60 q61); (try (have q60 := O6.cell 0; have q61 := O6.cell 1)); (try clear q70 q71); (try (have q70 := O7.cell 0; have q71 := O7.cell 1)); (try clear q80 q81); (try (have q80 := O8.cell 0; have q81 := O8.cell 1)); (try clear q90 q91); (try (have q90 := O9.cell 0; have q91 := O9.cell 1)); (try clear q100 q101); (try (have q100 := O10.cell 0; have q101 := O10.cell 1)); (try clear q110 q111); (try (have q110 := O11.cell 0; have q111 := O11.cell 1))) | (go_at_call 83; first | ((with_reducible refine (G1.out _ (by assumption) (by assumption)).mono ?_); rintro e wn ⟨rfl, hb⟩; have kb := hb; (try replace O6 := O6.step kb); (try replace O7 := O7.step kb); (try replace O8 := O8.step kb); (try replace O9 := O9.step kb); (try replace O10 := O10.step kb); (try replace O11 := O11.step kb); (try replace r0 := r0.step kb); (try replace r1 := r1.step kb); (try replace r2 := r2.step kb); (try replace r3 := r3.step kb); (try replace r4 := r4.step kb); (try replace r5 := r5.step kb); (try replace TT := TT.step kb); replace BB := Lib.hid (below_step BB.out kb); (try clear q60 q61); (try (have q60 := O6.cell 0; have q61 := O6.cell 1)); (try clear q70 q71); (try (have q70 := O7.cell 0; have q71 := O7.cell 1)); (try clear q80 q81); (try (have q80 := O8.cell 0; have q81 := O8.cell 1)); (try clear q90 q91); (try (have q90 := O9.cell 0; have q91 := O9.cell 1)); (try clear q100 q101); (try (have q100 := O10.cell 0; have q101 := O10.cell 1)); (try clear q110 q111); (try (have q110 := O11.cell 0; have q111 := O11.cell 1))) | ((with_reducible refine (G2.out _ (by assumption) (by assumption)).mono ?_); rintro e wn ⟨rfl, hb⟩; have kb := hb; (try replace O6 := O6.step kb); (try replace O7 := O7.step kb); (try replace O8 := O8.step kb); (try replace O9 := O9.step kb); (try replace O10 := O10.step kb); (try replace O11 := O11.step kb); (try replace r0 := r0.step kb); (try replace r1 := r1.step kb); (try replace r2 := r2.step kb); (try replace r3 := r3.step kb); (try replace r4 := r4.step kb); (try replace r5 := r5.step kb); (try replace TT := TT.step kb); replace BB := Lib.hid (below_step BB.out kb); (try clear q60 q61); (try (have q60 := O6.cell 0; have q61 := O6.cell 1)); (try clear q70 q71); (try (have q70 := O7.cell 0; have q71 := O7.cell 1)); (try clear q80 q81); (try (have q80 := O8.cell 0; have q81 := O8.cell 1)); (try clear q90 q91); (try (have q90 := O9.cell 0; have q91 := O9.cell 1)); (try clear q100 q101); (try (have q100 := O10.cell 0; have q101 := O10.cell 1)); (try clear q110 q111); (try (have q110 := O11.cell 0; have q111 := O11.cell 1))) | ((with_reducible refine (G3.out _ (by assumption) (by assumption)).mono ?_); rintro e wn ⟨rfl, hb⟩; have kb := hb; (try replace O6 := O6.step kb); (try replace O7 := O7.step kb); (try replace O8 := O8.step kb); (try replace O9 := O9.step kb); (try replace O10 := O10.step kb); (try replace O11 := O11.step kb); (try replace r0 := r0.step kb); (try replace r1 := r1.step kb); (try replace r2 := r2.step kb); (try replace r3 := r3.step kb); (try replace r4 := r4.step kb); (try replace r5 := r5.step kb); (try replace TT := TT.step kb); replace BB := Lib.hid (below_step BB.out kb); (try clear q60 q61); (try (have q60 := O6.cell 0; have q61 := O6.cell 1)); (try clear q70 q71); (try (have q70 := O7.cell 0; have q71 := O7.cell 1)); (try clear q80 q81); (try (have q80 := O8.cell 0; have q81 := O8.cell 1)); (try clear q90 q91); (try (have q90 := O9.cell 0; have q91 := O9.cell 1)); (try clear q100 q101); (try (have q100 := O10.cell 0; have q101 := O10.cell 1)); (try clear q110 q111); (try (have q110 := O11.cell 0; have q111 := O11.cell 1)))))
      go_ret
      exact ⟨rfl, BB.out⟩
    · have R1 := Lib.hid (rfn_of hG1 na0 na3)
      have G1 := Lib.hid (fun (u : World) (h : Rb u A3 n3 l3) (h' : Rb u A0 n0 l0) => refines_b _ A3 A0 n3 n0 c3 c0 s3 s0 l3 l0 u h h' (by omega) (by omega) hG1)
      clear hG1
      cases hG2 : rfB (⟨l4, s4⟩ : V) (⟨l1, s1⟩ : V)
      · skip
        have G2 := Lib.hid (fun (u : World) (h : Rb u A4 n4 l4) (h' : Rb u A1 n1 l1) => refines_b _ A4 A1 n4 n1 c4 c1 s4 s1 l4 l1 u h h' (by omega) (by omega) hG2)
        clear hG2
        go_enter Tryz.func8, Tryz.ntmps8
        go_wp2_with (first | (go_at_call 12; refine (HL.out _ _ (by simp)).mono ?_; rintro e wn ⟨rfl, rfl⟩; replace O6 := O6.alloc (.cells #[.slice A0 n0 c0, .bool s0, .slice A1 n1 c1, .bool s1, .slice A2 n2 c2, .bool s2, .slice A3 n3 c3, .bool s3, .slice A4 n4 c4, .bool s4, .slice A5 n5 c5, .bool s5] 24); replace O7 := O7.alloc (.cells #[.slice A0 n0 c0, .bool s0, .slice A1 n1 c1, .bool s1, .slice A2 n2 c2, .bool s2, .slice A3 n3 c3, .bool s3, .slice A4 n4 c4, .bool s4, .slice A5 n5 c5, .bool s5] 24); replace O8 := O8.alloc (.cells #[.slice A0 n0 c0, .bool s0, .slice A1 n1 c1, .bool s1, .slice A2 n2 c2, .bool s2, .slice A3 n3 c3, .bool s3, .slice A4 n4 c4, .bool s4, .slice A5 n5 c5, .bool s5] 24); replace O9 := O9.alloc (.cells #[.slice A0 n0 c0, .bool s0, .slice A1 n1 c1, .bool s1, .slice A2 n2 c2, .bool s2, .slice A3 n3 c3, .bool s3, .slice A4 n4 c4, .bool s4, .slice A5 n5 c5, .bool s5] 24); replace O10 := O10.alloc (.cells #[.slice A0 n0 c0, .bool s0, .slice A1 n1 c1, .bool s1, .slice A2 n2 c2, .bool s2, .slice A3 n3 c3, .bool s3, .slice A4 n4 c4, .bool s4, .slice A5 n5 c5, .bool s5] 24); replace O11 := O11.alloc (.cells #[.slice A0 n0 c0, .bool s0, .slice A1 n1 c1, .bool s1, .slice A2 n2 c2, .bool s2, .slice A3 n3 c3, .bool s3, .slice A4 n4 c4, .bool s4, .slice A5 n5 c5, .bool s5] 24); replace r0 := r0.alloc (.cells #[.slice A0 n0 c0, .bool s0, .slice A1 n1 c1, .bool s1, .slice A2 n2 c2, .bool s2, .slice A3 n3 c3, .bool s3, .slice A4 n4 c4, .bool s4, .slice A5 n5 c5, .bool s5] 24); replace r1 := r1.alloc (.cells #[.slice A0 n0 c0, .bool s0, .slice A1 n1 c1, .bool s1, .slice A2 n2 c2, .bool s2, .slice A3 n3 c3, .bool s3, .slice A4 n4 c4, .bool s4, .slice A5 n5 c5, .bool s5] 24); replace r2 := r2.alloc (.cells #[.slice A0 n0 c0, .bool s0, .slice A1 n1 c1, .bool s1, .slice A2 n2 c2, .bool s2, .slice A3 n3 c3, .bool s3, .slice A4 n4 c4, .bool s4, .slice A5 n5 c5, .bool s5] 24); replace r3 := r3.alloc (.cells #[.slice A0 n0 c0, .bool s0, .slice A1 n1 c1, .bool s1, .slice A2 n2 c2, .bool s2, .slice A3 n3 c3, .bool s3, .slice A4 n4 c4, .bool s4, .slice A5 n5 c5, .bool s5] 24); replace r4 := r4.alloc (.cells #[.slice A0 n0 c0, .bool s0, .slice A1 n1 c1, .bool s1, .slice A2 n2 c2, .bool s2, .slice A3 n3 c3, .bool s3, .slice A4 n4 c4, .bool s4, .slice A5 n5 c5, .bool s5] 24); replace r5 := r5.alloc (.cells #[.slice A0 n0 c0, .bool s0, .slice A1 n1 c1, .bool s1, .slice A2 n2 c2, .bool s2, .slice A3 n3 c3, .bool s3, .slice A4 n4 c4, .bool s4, .slice A5 n5 c5, .bool s5] 24); replace TT := TT.alloc (.cells #[.slice A0 n0 c0, .bool s0, .slice A1 n1 c1, .bool s1, .slice A2 n2 c2, .bool s2, .slice A3 n3 c3, .bool s3, .slice A4 n4 c4, .bool s4, .slice A5 n5 c5, .bool s5] 24); replace BB := Lib.hid (below_new BB.out (.cells #[.slice A0 n0 c0, .bool s0, .slice A1 n1 c1, .bool s1, .slice A2 n2 c2, .bool s2, .slice A3 n3 c3, .bool s3, .slice A4 n4 c4, .bool s4, .slice A5 n5 c5, .bool s5] 24))) | (go_at_call 13; refine (awake_any _ TT).mono ?_; rintro e wn ⟨rfl, hb⟩; have kb := hb; (try replace O6 := O6.step kb); (try replace O7 := O7.step kb); (try replace O8 := O8.step kb); (try replace O9 := O9.step kb); (try replace O10 := O10.step kb); (try replace O11 := O11.step kb); (try replace r0 := r0.step kb); (try replace r1 := r1.step kb); (try replace r2 := r2.step kb); (try replace r3 := r3.step kb); (try replace r4 := r4.step kb); (try replace r5 := r5.step kb); (try replace TT := TT.step kb); replace BB := Lib.hid (below_step BB.out kb); (try clear q60 q61); (try (have q60 := O6.cell 0; have q61 := O6.cell 1)); (try clear q70 q71); (try (have q70 := O7.cell 0; have q71 := O7.cell 1)); (try clear q80 q81); (try (have q80 := O8.cell 0; have q81 := O8.cell 1)); (try clear q90 q91); (try (have q90 := O9.cell 0; have q91 := O9.cell 1)); (try clear q100 q101); (try (have q100 := O10.cell 0; have q101 := O10.cell 1)); (try clear q110 q111); (try (have q110 := O11.cell 0; have q111 := O11.cell 1))) | (go_at_call 83; first | ((with_reducible refine (G1.out _ (by assumption) (by assumption)).mono ?_); rintro e wn ⟨rfl, hb⟩; have kb := hb; (try replace O6 := O6.step kb); (try replace O7 := O7.step kb); (try replace O8 := O8.step kb); (try replace O9 := O9.step kb); (try replace O10 := O10.step kb); (try replace O11 := O11.step kb); (try replace r0 := r0.step kb); (try replace r1 := r1.step kb); (try replace r2 := r2.step kb); (try replace r3 := r3.step kb); (try replace r4 := r4.step kb); (try replace r5 := r5.step kb); (try replace TT := TT.step kb); replace BB := Lib.hid (below_step BB.out kb); (try clear q60 q61); (try (have q60 := O6.cell 0; have q61 := O6.cell 1)); (try clear q70 q71); (try (have q70 := O7.cell 0; have q71 := O7.cell 1)); (try clear q80 q81); (try (have q80 := O8.cell 0; have q81 := O8.cell 1)); (try clear q90 q91); (try (have q90 := O9.cell 0; have q91 := O9.cell 1)); (try clear q100 q101); (try (have q100 := O10.cell 0; have q101 := O10.cell 1)); (try clear q110 q111); (try (have q110 := O11.cell 0; have q111 := O11.cell 1))) | ((with_reducible refine (G2.out _ (by assumption) (by assumption)).mono ?_); rintro e wn ⟨rfl, hb⟩; have kb := hb; (try replace O6 := O6.step kb); (try replace O7 := O7.step kb); (try replace O8 := O8.step kb); (try replace O9 := O9.step kb); (try replace O10 := O10.step kb); (try replace O11 := O11.step kb); (try replace r0 := r0.step kb); (try replace r1 := r1.step kb); (try replace r2 := r2.step kb); (try replace r3 := r3.step kb); (try replace r4 := r4.step kb); (try replace r5 := r5.step kb); (try replace TT := TT.step kb); replace BB := Lib.hid (below_step BB.out kb); (try clear q60 q61); (try (have q60 := O6.cell 0; have q61 := O6.cell 1)); (try clear q70 q71); (try (have q70 := O7.cell 0; have q71 := O7.cell 1)); (try clear q80 q81); (try (have q80 := O8.cell 0; have q81 := O8.cell 1)); (try clear q90 q91); (try (have q90 := O9.cell 0; have q91 := O9.cell 1)); (try clear q100 q101); (try (have q100 := O10.cell 0; have q101 := O10.cell 1)); (try clear q110 q111); (try (have q110 := O11.cell 0; have q111 := O11.cell 1))) | ((with_reducible refine (G3.out _ (by assumption) (by assumption)).mono ?_); rintro e wn ⟨rfl, hb⟩; have kb := hb; (try replace O6 := O6.step kb); (try replace O7 := O7.step kb); (try replace O8 := O8.step kb); (try replace O9 := O9.step kb); (try replace O10 := O10.step kb); (try replace O11 := O11.step kb); (try replace r0 := r0.step kb); (try replace r1 := r1.step kb); (try replace r2 := r2.step kb); (try replace r3 := r3.step kb); (try replace r4 := r4.step kb); (try replace r5 := r5.step kb); (try replace TT := TT.step kb); replace BB := Lib.hid (below_step BB.out kb); (try clear q60 q61); (try (have q60 := O6.cell 0; have q61 := O6.cell 1)); (try clear q70 q71); (try (have q70 := O7.cell 0; have q71 := O7.cell 1)); (try clear q80 q81); (try (have q80 := O8.cell 0; have q81 := O8.cell 1)); (try clear q90 q91); (try (have q90 := O9.cell 0; have q91 := O9.cell 1)); (try clear q100 q101); (try (have q100 := O10.cell 0; have q101 := O10.cell 1)); (try clear q110 q111); (try (have q110 := O11.cell 0; have q111 := O11.cell 1)))))
        go_ret
        exact ⟨rfl, BB.out⟩
      · have R2 := Lib.hid (rfn_of hG2 na1 na4)
        have G2 := Lib.hid (fun (u : World) (h : Rb u A4 n4 l4) (h' : Rb u A1 n1 l1) => refines_b _ A4 A1 n4 n1 c4 c1 s4 s1 l4 l1 u h h' (by omega) (by omega) hG2)
        clear hG2
        cases hG3 : rfB (⟨l5, s5⟩ : V) (⟨l2, s2⟩ : V)
        · skip
          have G3 := Lib.hid (fun (u : World) (h : Rb u A5 n5 l5) (h' : Rb u A2 n2 l2) => refines_b _ A5 A2 n5 n2 c5 c2 s5 s2 l5 l2 u h h' (by omega) (by omega) hG3)
          clear hG3
          go_enter Tryz.func8, Tryz.ntmps8
          go_wp2_with (first | (go_at_call 12; refine (HL.out _ _ (by simp)).mono ?_; rintro e wn ⟨rfl, rfl⟩; replace O6 := O6.alloc (.cells #[.slice A0 n0 c0, .bool s0, .slice A1 n1 c1, .bool s1, .slice A2 n2 c2, .bool s2, .slice A3 n3 c3, .bool s3, .slice A4 n4 c4, .bool s4, .slice A5 n5 c5, .bool s5] 24); replace O7 := O7.alloc (.cells #[.slice A0 n0 c0, .bool s0, .slice A1 n1 c1, .bool s1, .slice A2 n2 c2, .bool s2, .slice A3 n3 c3, .bool s3, .slice A4 n4 c4, .bool s4, .slice A5 n5 c5, .bool s5] 24); replace O8 := O8.alloc (.cells #[.slice A0 n0 c0, .bool s0, .slice A1 n1 c1, .bool s1, .slice A2 n2 c2, .bool s2, .slice A3 n3 c3, .bool s3, .slice A4 n4 c4, .bool s4, .slice A5 n5 c5, .bool s5] 24); replace O9 := O9.alloc (.cells #[.slice A0 n0 c0, .bool s0, .slice A1 n1 c1, .bool s1, .slice A2 n2 c2, .bool s2, .slice A3 n3 c3, .bool s3, .slice A4 n4 c4, .bool s4, .slice A5 n5 c5, .bool s5] 24); replace O10 := O10.alloc (.cells #[.slice A0 n0 c0, .bool s0, .slice A1 n1 c1, .bool s1, .slice A2 n2 c2, .bool s2, .slice A3 n3 c3, .bool s3, .slice A4 n4 c4, .bool s4, .slice A5 n5 c5, .bool s5] 24); replace O11 := O11.alloc (.cells #[.slice A0 n0 c0, .bool s0, .slice A1 n1 c1, .bool s1, .slice A2 n2 c2, .bool s2, .slice A3 n3 c3, .bool s3, .slice A4 n4 c4, .bool s4, .slice A5 n5 c5, .bool s5] 24); replace r0 := r0.alloc (.cells #[.slice A0 n0 c0, .bool s0, .slice A1 n1 c1, .bool s1, .slice A2 n2 c2, .bool s2, .slice A3 n3 c3, .bool s3, .slice A4 n4 c4, .bool s4, .slice A5 n5 c5, .bool s5] 24); replace r1 := r1.alloc (.cells #[.slice A0 n0 c0, .bool s0, .slice A1 n1 c1, .bool s1, .slice A2 n2 c2, .bool s2, .slice A3 n3 c3, .bool s3, .slice A4 n4 c4, .bool s4, .slice A5 n5 c5, .bool s5] 24); replace r2 := r2.alloc (.cells #[.slice A0 n0 c0, .bool s0, .slice A1 n1 c1, .bool s1, .slice A2 n2 c2, .bool s2, .slice A3 n3 c3, .bool s3, .slice A4 n4 c4, .bool s4, .slice A5 n5 c5, .bool s5] 24); replace r3 := r3.alloc (.cells #[.slice A0 n0 c0, .bool s0, .slice A1 n1 c1, .bool s1, .slice A2 n2 c2, .bool s2, .slice A3 n3 c3, .bool s3, .slice A4 n4 c4, .bool s4, .slice A5 n5 c5, .bool s5] 24); replace r4 := r4.alloc (.cells #[.slice A0 n0 c0, .bool s0, .slice A1 n1 c1, .bool s1, .slice A2 n2 c2, .bool s2, .slice A3 n3 c3, .bool s3, .slice A4 n4 c4, .bool s4, .slice A5 n5 c5, .bool s5] 24); replace r5 := r5.alloc (.cells #[.slice A0 n0 c0, .bool s0, .slice A1 n1 c1, .bool s1, .slice A2 n2 c2, .bool s2, .slice A3 n3 c3, .bool s3, .slice A4 n4 c4, .bool s4, .slice A5 n5 c5, .bool s5] 24); replace TT := TT.alloc (.cells #[.slice A0 n0 c0, .bool s0, .slice A1 n1 c1, .bool s1, .slice A2 n2 c2, .bool s2, .slice A3 n3 c3, .bool s3, .slice A4 n4 c4, .bool s4, .slice A5 n5 c5, .bool s5] 24); replace BB := Lib.hid (below_new BB.out (.cells #[.slice A0 n0 c0, .bool s0, .slice A1 n1 c1, .bool s1, .slice A2 n2 c2, .bool s2, .slice A3 n3 c3, .bool s3, .slice A4 n4 c4, .bool s4, .slice A5 n5 c5, .bool s5] 24))) | (go_at_call 13; refine (awake_any _ TT).mono ?_; rintro e wn ⟨rfl, hb⟩; have kb := hb; (try replace O6 := O6.step kb); (try replace O7 := O7.step kb); (try replace O8 := O8.step kb); (try replace O9 := O9.step kb); (try replace O10 := O10.step kb); (try replace O11 := O11.step kb); (try replace r0 := r0.step kb); (try replace r1 := r1.step kb); (try replace r2 := r2.step kb); (try replace r3 := r3.step kb); (try replace r4 := r4.step kb); (try replace r5 := r5.step kb); (try replace TT := TT.step kb); replace BB := Lib.hid (below_step BB.out kb); (try clear q60 q61); (try (have q60 := O6.cell 0; have q61 := O6.cell 1)); (try clear q70 q71); (try (have q70 := O7.cell 0; have q71 := O7.cell 1)); (try clear q80 q81); (try (have q80 := O8.cell 0; have q81 := O8.cell 1)); (try clear q90 q91); (try (have q90 := O9.cell 0; have q91 := O9.cell 1)); (try clear q100 q101); (try (have q100 := O10.cell 0; have q101 := O10.cell 1)); (try clear q110 q111); (try (have q110 := O11.cell 0; have q111 := O11.cell 1))) | (go_at_call 83; first | ((with_reducible refine (G1.out _ (by assumption) (by assumption)).mono ?_); rintro e wn ⟨rfl, hb⟩; have kb := hb; (try replace O6 := O6.step kb); (try replace O7 := O7.step kb); (try replace O8 := O8.step kb); (try replace O9 := O9.step kb); (try replace O10 := O10.step kb); (try replace O11 := O11.step kb); (try replace r0 := r0.step kb); (try replace r1 := r1.step kb); (try replace r2 := r2.step kb); (try replace r3 := r3.step kb); (try replace r4 := r4.step kb); (try replace r5 := r5.step kb); (try replace TT := TT.step kb); replace BB := Lib.hid (below_step BB.out kb); (try clear q60 q61); (try (have q60 := O6.cell 0; have q61 := O6.cell 1)); (try clear q70 q71); (try (have q70 := O7.cell 0; have q71 := O7.cell 1)); (try clear q80 q81); (try (have q80 := O8.cell 0; have q81 := O8.cell 1)); (try clear q90 q91); (try (have q90 := O9.cell 0; have q91 := O9.cell 1)); (try clear q100 q101); (try (have q100 := O10.cell 0; have q101 := O10.cell 1)); (try clear q110 q111); (try (have q110 := O11.cell 0; have q111 := O11.cell 1))) | ((with_reducible refine (G2.out _ (by assumption) (by assumption)).mono ?_); rintro e wn ⟨rfl, hb⟩; have kb := hb; (try replace O6 := O6.step kb); (try replace O7 := O7.step kb); (try replace O8 := O8.step kb); (try replace O9 := O9.step kb); (try replace O10 := O10.step kb); (try replace O11 := O11.step kb); (try replace r0 := r0.step kb); (try replace r1 := r1.step kb); (try replace r2 := r2.step kb); (try replace r3 := r3.step kb); (try replace r4 := r4.step kb); (try replace r5 := r5.step kb); (try replace TT := TT.step kb); replace BB := Lib.hid (below_step BB.out kb); (try clear q60 q61); (try (have q60 := O6.cell 0; have q61 := O6.cell 1)); (try clear q70 q71); (try (have q70 := O7.cell 0; have q71 := O7.cell 1)); (try clear q80 q81); (try (have q80 := O8.cell 0; have q81 := O8.cell 1)); (try clear q90 q91); (try (have q90 := O9.cell 0; have q91 := O9.cell 1)); (try clear q100 q101); (try (have q100 := O10.cell 0; have q101 := O10.cell 1)); (try clear q110 q111); (try (have q110 := O11.cell 0; have q111 := O11.cell 1))) | ((with_reducible refine (G3.out _ (by assumption) (by assumption)).mono ?_); rintro e wn ⟨rfl, hb⟩; have kb := hb; (try replace O6 := O6.step kb); (try replace O7 := O7.step kb); (try replace O8 := O8.step kb); (try replace O9 := O9.step kb); (try replace O10 := O10.step kb); (try replace O11 := O11.step kb); (try replace r0 := r0.step kb); (try replace r1 := r1.step kb); (try replace r2 := r2.step kb); (try replace r3 := r3.step kb); (try replace r4 := r4.step kb); (try replace r5 := r5.step kb); (try replace TT := TT.step kb); replace BB := Lib.hid (below_step BB.out kb); (try clear q60 q61); (try (have q60 := O6.cell 0; have q61 := O6.cell 1)); (try clear q70 q71); (try (have q70 := O7.cell 0; have q71 := O7.cell 1)); (try clear q80 q81); (try (have q80 := O8.cell 0; have q81 := O8.cell 1)); (try clear q90 q91); (try (have q90 := O9.cell 0; have q91 := O9.cell 1)); (try clear q100 q101); (try (have q100 := O10.cell 0; have q101 := O10.cell 1)); (try clear q110 q111); (try (have q110 := O11.cell 0; have q111 := O11.cell 1)))))
          go_ret
          exact ⟨rfl, BB.out⟩
        · have R3 := Lib.hid (rfn_of hG3 na2 na5)
          have G3 := Lib.hid (fun (u : World) (h : Rb u A5 n5 l5) (h' : Rb u A2 n2 l2) => refines_b _ A5 A2 n5 n2 c5 c2 s5 s2 l5 l2 u h h' (by omega) (by omega) hG3)
          clear hG3 na0 na1 na2 na3 na4 na5
          go_enter Tryz.func8, Tryz.ntmps8
          go_wp2_with (first | (go_at_call 12; refine (HL.out _ _ (by simp)).mono ?_; rintro e wn ⟨rfl, rfl⟩; replace O6 := O6.alloc (.cells #[.slice A0 n0 c0, .bool s0, .slice A1 n1 c1, .bool s1, .slice A2 n2 c2, .bool s2, .slice A3 n3 c3, .bool s3, .slice A4 n4 c4, .bool s4, .slice A5 n5 c5, .bool s5] 24); replace O7 := O7.alloc (.cells #[.slice A0 n0 c0, .bool s0, .slice A1 n1 c1, .bool s1, .slice A2 n2 c2, .bool s2, .slice A3 n3 c3, .bool s3, .slice A4 n4 c4, .bool s4, .slice A5 n5 c5, .bool s5] 24); replace O8 := O8.alloc (.cells #[.slice A0 n0 c0, .bool s0, .slice A1 n1 c1, .bool s1, .slice A2 n2 c2, .bool s2, .slice A3 n3 c3, .bool s3, .slice A4 n4 c4, .bool s4, .slice A5 n5 c5, .bool s5] 24); replace O9 := O9.alloc (.cells #[.slice A0 n0 c0, .bool s0, .slice A1 n1 c1, .bool s1, .slice A2 n2 c2, .bool s2, .slice A3 n3 c3, .bool s3, .slice A4 n4 c4, .bool s4, .slice A5 n5 c5, .bool s5] 24); replace O10 := O10.alloc (.cells #[.slice A0 n0 c0, .bool s0, .slice A1 n1 c1, .bool s1, .slice A2 n2 c2, .bool s2, .slice A3 n3 c3, .bool s3, .slice A4 n4 c4, .bool s4, .slice A5 n5 c5, .bool s5] 24); replace O11 := O11.alloc (.cells #[.slice A0 n0 c0, .bool s0, .slice A1 n1 c1, .bool s1, .slice A2 n2 c2, .bool s2, .slice A3 n3 c3, .bool s3, .slice A4 n4 c4, .bool s4, .slice A5 n5 c5, .bool s5] 24); replace r0 := r0.alloc (.cells #[.slice A0 n0 c0, .bool s0, .slice A1 n1 c1, .bool s1, .slice A2 n2 c2, .bool s2, .slice A3 n3 c3, .bool s3, .slice A4 n4 c4, .bool s4, .slice A5 n5 c5, .bool s5] 24); replace r1 := r1.alloc (.cells #[.slice A0 n0 c0, .bool s0, .slice A1 n1 c1, .bool s1, .slice A2 n2 c2, .bool s2, .slice A3 n3 c3, .bool s3, .slice A4 n4 c4, .bool s4, .slice A5 n5 c5, .bool s5] 24); replace r2 := r2.alloc (.cells #[.slice A0 n0 c0, .bool s0, .slice A1 n1 c1, .bool s1, .slice A2 n2 c2, .bool s2, .slice A3 n3 c3, .bool s3, .slice A4 n4 c4, .bool s4, .slice A5 n5 c5, .bool s5] 24); replace r3 := r3.alloc (.cells #[.slice A0 n0 c0, .bool s0, .slice A1 n1 c1, .bool s1, .slice A2 n2 c2, .bool s2, .slice A3 n3 c3, .bool s3, .slice A4 n4 c4, .bool s4, .slice A5 n5 c5, .bool s5] 24); replace r4 := r4.alloc (.cells #[.slice A0 n0 c0, .bool s0, .slice A1 n1 c1, .bool s1, .slice A2 n2 c2, .bool s2, .slice A3 n3 c3, .bool s3, .slice A4 n4 c4, .bool s4, .slice A5 n5 c5, .bool s5] 24); replace r5 := r5.alloc (.cells #[.slice A0 n0 c0, .bool s0, .slice A1 n1 c1, .bool s1, .slice A2 n2 c2, .bool s2, .slice A3 n3 c3, .bool s3, .slice A4 n4 c4, .bool s4, .slice A5 n5 c5, .bool s5] 24); replace TT := TT.alloc (.cells #[.slice A0 n0 c0, .bool s0, .slice A1 n1 c1, .bool s1, .slice A2 n2 c2, .bool s2, .slice A3 n3 c3, .bool s3, .slice A4 n4 c4, .bool s4, .slice A5 n5 c5, .bool s5] 24); replace BB := Lib.hid (below_new BB.out (.cells #[.slice A0 n0 c0, .bool s0, .slice A1 n1 c1, .bool s1, .slice A2 n2 c2, .bool s2, .slice A3 n3 c3, .bool s3, .slice A4 n4 c4, .bool s4, .slice A5 n5 c5, .bool s5] 24))) | (go_at_call 13; refine (awake_any _ TT).mono ?_; rintro e wn ⟨rfl, hb⟩; have kb := hb; (try replace O6 := O6.step kb); (try replace O7 := O7.step kb); (try replace O8 := O8.step kb); (try replace O9 := O9.step kb); (try replace O10 := O10.step kb); (try replace O11 := O11.step kb); (try replace r0 := r0.step kb); (try replace r1 := r1.step kb); (try replace r2 := r2.step kb); (try replace r3 := r3.step kb); (try replace r4 := r4.step kb); (try replace r5 := r5.step kb); (try replace TT := TT.step kb); replace BB := Lib.hid (below_step BB.out kb); (try clear q60 q61); (try (have q60 := O6.cell 0; have q61 := O6.cell 1)); (try clear q70 q71); (try (have q70 := O7.cell 0; have q71 := O7.cell 1)); (try clear q80 q81); (try (have q80 := O8.cell 0; have q81 := O8.cell 1)); (try clear q90 q91); (try (have q90 := O9.cell 0; have q91 := O9.cell 1)); (try clear q100 q101); (try (have q100 := O10.cell 0; have q101 := O10.cell 1)); (try clear q110 q111); (try (have q110 := O11.cell 0; have q111 := O11.cell 1))) | (go_at_call 83; first | ((with_reducible refine (G1.out _ (by assumption) (by assumption)).mono ?_); rintro e wn ⟨rfl, hb⟩; have kb := hb; (try replace O6 := O6.step kb); (try replace O7 := O7.step kb); (try replace O8 := O8.step kb); (try replace O9 := O9.step kb); (try replace O10 := O10.step kb); (try replace O11 := O11.step kb); (try replace r0 := r0.step kb); (try replace r1 := r1.step kb); (try replace r2 := r2.step kb); (try replace r3 := r3.step kb); (try replace r4 := r4.step kb); (try replace r5 := r5.step kb); (try replace TT := TT.step kb); replace BB := Lib.hid (below_step BB.out kb); (try clear q60 q61); (try (have q60 := O6.cell 0; have q61 := O6.cell 1)); (try clear q70 q71); (try (have q70 := O7.cell 0; have q71 := O7.cell 1)); (try clear q80 q81); (try (have q80 := O8.cell 0; have q81 := O8.cell 1)); (try clear q90 q91); (try (have q90 := O9.cell 0; have q91 := O9.cell 1)); (try clear q100 q101); (try (have q100 := O10.cell 0; have q101 := O10.cell 1)); (try clear q110 q111); (try (have q110 := O11.cell 0; have q111 := O11.cell 1))) | ((with_reducible refine (G2.out _ (by assumption) (by assumption)).mono ?_); rintro e wn ⟨rfl, hb⟩; have kb := hb; (try replace O6 := O6.step kb); (try replace O7 := O7.step kb); (try replace O8 := O8.step kb); (try replace O9 := O9.step kb); (try replace O10 := O10.step kb); (try replace O11 := O11.step kb); (try replace r0 := r0.step kb); (try replace r1 := r1.step kb); (try replace r2 := r2.step kb); (try replace r3 := r3.step kb); (try replace r4 := r4.step kb); (try replace r5 := r5.step kb); (try replace TT := TT.step kb); replace BB := Lib.hid (below_step BB.out kb); (try clear q60 q61); (try (have q60 := O6.cell 0; have q61 := O6.cell 1)); (try clear q70 q71); (try (have q70 := O7.cell 0; have q71 := O7.cell 1)); (try clear q80 q81); (try (have q80 := O8.cell 0; have q81 := O8.cell 1)); (try clear q90 q91); (try (have q90 := O9.cell 0; have q91 := O9.cell 1)); (try clear q100 q101); (try (have q100 := O10.cell 0; have q101 := O10.cell 1)); (try clear q110 q111); (try (have q110 := O11.cell 0; have q111 := O11.cell 1))) | ((with_reducible refine (G3.out _ (by assumption) (by assumption)).mono ?_); rintro e wn ⟨rfl, hb⟩; have kb := hb; (try replace O6 := O6.step kb); (try replace O7 := O7.step kb); (try replace O8 := O8.step kb); (try replace O9 := O9.step kb); (try replace O10 := O10.step kb); (try replace O11 := O11.step kb); (try replace r0 := r0.step kb); (try replace r1 := r1.step kb); (try replace r2 := r2.step kb); (try replace r3 := r3.step kb); (try replace r4 := r4.step kb); (try replace r5 := r5.step kb); (try replace TT := TT.step kb); replace BB := Lib.hid (below_step BB.out kb); (try clear q60 q61); (try (have q60 := O6.cell 0; have q61 := O6.cell 1)); (try clear q70 q71); (try (have q70 := O7.cell 0; have q71 := O7.cell 1)); (try clear q80 q81); (try (have q80 := O8.cell 0; have q81 := O8.cell 1)); (try clear q90 q91); (try (have q90 := O9.cell 0; have q91 := O9.cell 1)); (try clear q100 q101); (try (have q100 := O10.cell 0; have q101 := O10.cell 1)); (try clear q110 q111); (try (have q110 := O11.cell 0; have q111 := O11.cell 1)))) | (go_at_call 15; refine (ones_any _).mono ?_; rintro e wx ⟨rfl, rfl⟩; replace O6 := O6.alloc (.cells oneRow 31); replace O7 := O7.alloc (.cells oneRow 31); replace O8 := O8.alloc (.cells oneRow 31); replace O9 := O9.alloc (.cells oneRow 31); replace O10 := O10.alloc (.cells oneRow 31); replace O11 := O11.alloc (.cells oneRow 31); replace r0 := r0.alloc (.cells oneRow 31); replace r1 := r1.alloc (.cells oneRow 31); replace r2 := r2.alloc (.cells oneRow 31); replace r3 := r3.alloc (.cells oneRow 31); replace r4 := r4.alloc (.cells oneRow 31); replace r5 := r5.alloc (.cells oneRow 31); replace TT := TT.alloc (.cells oneRow 31); replace BB := Lib.hid (below_new BB.out (.cells oneRow 31)); have OR := Own.new wn 31 oneRow))
          generalize wn.heap.size = gR at *
          go_loopw [48] (fun v wr => ∃ i : Nat, i ≤ 9 ∧ v = .int .i64 i ∧ Hid (Own wr gR 31 oneRow) ∧ Hid (Own wr w.heap.size 24 #[.slice A0 n0 c0, .bool s0]) ∧ Hid (Own wr (w.heap.size + 1) 24 #[.slice A1 n1 c1, .bool s1]) ∧ Hid (Own wr (w.heap.size + 1 + 1) 24 #[.slice A2 n2 c2, .bool s2]) ∧ Hid (Own wr (w.heap.size + 1 + 1 + 1) 24 #[.slice A3 n3 c3, .bool s3]) ∧ Hid (Own wr (w.heap.size + 1 + 1 + 1 + 1) 24 #[.slice A4 n4 c4, .bool s4]) ∧ Hid (Own wr (w.heap.size + 1 + 1 + 1 + 1 + 1) 24 #[.slice A5 n5 c5, .bool s5]) ∧ Hid (Rb wr A0 n0 l0) ∧ Hid (Rb wr A1 n1 l1) ∧ Hid (Rb wr A2 n2 l2) ∧ Hid (Rb wr A3 n3 l3) ∧ Hid (Rb wr A4 n4 l4) ∧ Hid (Rb wr A5 n5 l5) ∧ Hid (Tabs wr) ∧ Hid (Below w.heap.size w wr)) (fun v _ => 9 - (intOf v).toNat)
          case atStart => exact ⟨0, by decide, rfl, Lib.hid OR, Lib.hid O6, Lib.hid O7, Lib.hid O8, Lib.hid O9, Lib.hid O10, Lib.hid O11, Lib.hid r0, Lib.hid r1, Lib.hid r2, Lib.hid r3, Lib.hid r4, Lib.hid r5, Lib.hid TT, BB⟩
          case round =>
            clear OR O6 O7 O8 O9 O10 O11 r0 r1 r2 r3 r4 r5 TT BB
            obtain ⟨i, hi, rfl, OR, O6, O7, O8, O9, O10, O11, r0, r1, r2, r3, r4, r5, TT, BB⟩ := hrel
            replace OR := OR.out
            replace O6 := O6.out
            replace O7 := O7.out
            replace O8 := O8.out
            replace O9 := O9.out
            replace O10 := O10.out
            replace O11 := O11.out
            replace r0 := r0.out
            replace r1 := r1.out
            replace r2 := r2.out
            replace r3 := r3.out
            replace r4 := r4.out
            replace r5 := r5.out
            replace TT := TT.out
            have q60 := O6.cell 0
            have q61 := O6.cell 1
            have q70 := O7.cell 0
            have q71 := O7.cell 1
            have q80 := O8.cell 0
            have q81 := O8.cell 1
            have q90 := O9.cell 0
            have q91 := O9.cell 1
            have q100 := O10.cell 0
            have q101 := O10.cell 1
            have q110 := O11.cell 0
            have q111 := O11.cell 1
            by_cases hlt : i < 9
            · have hrow := one_row i hlt
              have e0 : wr.cell? ⟨gR, i * 2, none⟩ = some (.int .u8 (oneOp i)) := (OR.cell (i * 2)).trans hrow.1
              have e1 : wr.cell? ⟨gR, i * 2 + 1, none⟩ = some (.func (.func (oneFn i)) #[] #[]) := (OR.cell (i * 2 + 1)).trans hrow.2
              have e2 : wr.cell? ⟨gR, 0 + i * 2, none⟩ = some (.int .u8 (oneOp i)) := by rw [Nat.zero_add]; exact e0
              have e3 : wr.cell? ⟨gR, 0 + i * 2 + 1, none⟩ = some (.func (.func (oneFn i)) #[] #[]) := by rw [Nat.zero_add]; exact e1
              have d1 : decide ((i : Int) < 9) = true := by simp; omega
              clear hrow
              go_wp2
              replace O6 := O6.alloc (.cells #[.int .u8 (oneOp i), .func (.func (oneFn i)) #[] #[]] 31); replace O7 := O7.alloc (.cells #[.int .u8 (oneOp i), .func (.func (oneFn i)) #[] #[]] 31); replace O8 := O8.alloc (.cells #[.int .u8 (oneOp i), .func (.func (oneFn i)) #[] #[]] 31); replace O9 := O9.alloc (.cells #[.int .u8 (oneOp i), .func (.func (oneFn i)) #[] #[]] 31); replace O10 := O10.alloc (.cells #[.int .u8 (oneOp i), .func (.func (oneFn i)) #[] #[]] 31); replace O11 := O11.alloc (.cells #[.int .u8 (oneOp i), .func (.func (oneFn i)) #[] #[]] 31); replace r0 := r0.alloc (.cells #[.int .u8 (oneOp i), .func (.func (oneFn i)) #[] #[]] 31); replace r1 := r1.alloc (.cells #[.int .u8 (oneOp i), .func (.func (oneFn i)) #[] #[]] 31); replace r2 := r2.alloc (.cells #[.int .u8 (oneOp i), .func (.func (oneFn i)) #[] #[]] 31); replace r3 := r3.alloc (.cells #[.int .u8 (oneOp i), .func (.func (oneFn i)) #[] #[]] 31); replace r4 := r4.alloc (.cells #[.int .u8 (oneOp i), .func (.func (oneFn i)) #[] #[]] 31); replace r5 := r5.alloc (.cells #[.int .u8 (oneOp i), .func (.func (oneFn i)) #[] #[]] 31); replace TT := TT.alloc (.cells #[.int .u8 (oneOp i), .func (.func (oneFn i)) #[] #[]] 31); replace BB := Lib.hid (below_new BB.out (.cells #[.int .u8 (oneOp i), .func (.func (oneFn i)) #[] #[]] 31)); replace OR := OR.alloc (.cells #[.int .u8 (oneOp i), .func (.func (oneFn i)) #[] #[]] 31); have O14 := Own.new wr 31 #[.int .u8 (oneOp i), .func (.func (oneFn i)) #[] #[]]; replace R2 := R2.out
              have hf := one_fn i hlt
              clear e0 e1 e2 e3
              refine region_y (by kernel_rfl) (fun u => owns w.heap.size #[.slice A0 n0 c0, .bool s0] u ∧ (owns (w.heap.size + 1) #[.slice A1 n1 c1, .bool s1] u ∧ (owns (w.heap.size + 1 + 1) #[.slice A2 n2 c2, .bool s2] u ∧ (owns (w.heap.size + 1 + 1 + 1) #[.slice A3 n3 c3, .bool s3] u ∧ (owns (w.heap.size + 1 + 1 + 1 + 1) #[.slice A4 n4 c4, .bool s4] u ∧ (owns (w.heap.size + 1 + 1 + 1 + 1 + 1) #[.slice A5 n5 c5, .bool s5] u ∧ (rds A0 n0 l0 u ∧ (rds A1 n1 l1 u ∧ (rds A2 n2 l2 u ∧ (rds A3 n3 l3 u ∧ (rds A4 n4 l4 u ∧ (rds A5 n5 l5 u ∧ (ownT gR 31 oneRow u ∧ (ownT wr.heap.size 31 #[.int .u8 (oneOp i), .func (.func (oneFn i)) #[] #[]] u ∧ (tbs u ∧ blw w u))))))))))))))) [] [isV (.pointer (some ⟨wr.heap.size, 1, none⟩)), isV ((.func (.func (oneFn i)) #[] #[])), isV (.agg #[.slice A1 n1 c1, .bool s1]), isW (oneV i (⟨l1, s1⟩ : V)), isV (.pointer (some ⟨wr.heap.size, 1, none⟩)), isV ((.func (.func (oneFn i)) #[] #[])), isV (.agg #[.slice A4 n4 c4, .bool s4]), isW (oneV i (⟨l4, s4⟩ : V)), isV (.bool true), isV (.bool false)] [some 52, some 53, some 54, some 55, some 56, some 57, some 58, some 59, some 60, some 61] [[], [0], [], [1, 2], [], [4], [], [5, 6, 3], [3, 7, 7], [8]] (by kernel_rfl) (by kernel_rfl) rfl (by kernel_rfl) (by kernel_rfl) (by kernel_rfl) ⟨O6.drew, O7.drew, O8.drew, O9.drew, O10.drew, O11.drew, r0.drew, r1.drew, r2.drew, r3.drew, r4.drew, r5.drew, OR.drew, O14.drew, TT.drew, below_drew BB.out⟩ (fun _ h => by cases h) ?_ ?_
              · refine ⟨?_, ?_, ?_, ?_, ?_, ?_, ?_, ?_, ?_, ?_, trivial⟩
                · intro a w' hS hO hF' hP K hK
                  have ha := hO 14 (by rfl)
                  refine if_ok (by rfl) ?_
                  refine wp_val (w' := w') (q := .pointer (some ⟨wr.heap.size, 1, none⟩)) (by unfold execOp; simp only [ev ha]; simp [go_sem]) ?_
                  exact hK _ w' (fun h => by cases h) (keep_same hS) rfl
                · intro a w' hS hO hF' hP K hK
                  obtain ⟨_, f0, rfl⟩ := (hF' 0 rfl).1 52 _ rfl rfl
                  have hc := hS.2.2.2.2.2.2.2.2.2.2.2.2.2.1.cell 1
                  refine if_ok (by rfl) ?_
                  refine wp_val (w' := w') (q := (.func (.func (oneFn i)) #[] #[])) (by unfold execOp; simp only [ev f0]; simp [go_sem, hc]) ?_
                  exact hK _ w' (fun h => by cases h) (keep_same hS) rfl
                · intro a w' hS hO hF' hP K hK
                  have ha := hO 7 (by rfl)
                  refine if_ok (by rfl) ?_
                  refine wp_load_row 24 (.tmp 7) rfl (w.heap.size + 1) (ev ha) _ _ (0, 0) _ hS.2.1 Tryz.underlying24 rfl (by kernel_rfl) ?_
                  exact hK _ w' (fun h => by cases h) (keep_same hS) rfl
                · intro a w' hS hO hF' hP K hK
                  obtain ⟨_, f0, rfl⟩ := (hF' 2 rfl).1 54 _ rfl rfl
                  obtain ⟨_, fq, rfl⟩ := (hF' 1 rfl).1 53 _ rfl rfl
                  refine if_ok (by rfl) ?_
                  refine wp_callv (lb := #[]) rfl (ev fq) hf.1 (args := #[(.agg #[.slice A1 n1 c1, .bool s1])]) (by simp [Act.eval, f0]) ?_
                  rw [Array.append_empty]
                  obtain ⟨O6, O7, O8, O9, O10, O11, r0, r1, r2, r3, r4, r5, OR, O14, TT, BB⟩ := id hS
                  apply Calls.mono
                  first | exact hf.2 _ _ _ _ _ _ (by assumption) (by assumption) (by assumption)
                  rintro e w2 ⟨A, n, c, rfl, hc, hn, hv, hb⟩
                  exact ⟨_, rfl, hK _ w2 (fun h => by cases h) (keep_below hb hS) ⟨A, n, c, rfl, hc, hn, hv.rd⟩⟩
                · intro a w' hS hO hF' hP K hK
                  have ha := hO 14 (by rfl)
                  refine if_ok (by rfl) ?_
                  refine wp_val (w' := w') (q := .pointer (some ⟨wr.heap.size, 1, none⟩)) (by unfold execOp; simp only [ev ha]; simp [go_sem]) ?_
                  exact hK _ w' (fun h => by cases h) (keep_same hS) rfl
                · intro a w' hS hO hF' hP K hK
                  obtain ⟨_, f0, rfl⟩ := (hF' 4 rfl).1 56 _ rfl rfl
                  have hc := hS.2.2.2.2.2.2.2.2.2.2.2.2.2.1.cell 1
                  refine if_ok (by rfl) ?_
                  refine wp_val (w' := w') (q := (.func (.func (oneFn i)) #[] #[])) (by unfold execOp; simp only [ev f0]; simp [go_sem, hc]) ?_
                  exact hK _ w' (fun h => by cases h) (keep_same hS) rfl
                · intro a w' hS hO hF' hP K hK
                  have ha := hO 10 (by rfl)
                  refine if_ok (by rfl) ?_
                  refine wp_load_row 24 (.tmp 10) rfl (w.heap.size + 1 + 1 + 1 + 1) (ev ha) _ _ (0, 0) _ hS.2.2.2.2.1 Tryz.underlying24 rfl (by kernel_rfl) ?_
                  exact hK _ w' (fun h => by cases h) (keep_same hS) rfl
                · intro a w' hS hO hF' hP K hK
                  obtain ⟨_, f0, rfl⟩ := (hF' 6 rfl).1 58 _ rfl rfl
                  obtain ⟨_, fq, rfl⟩ := (hF' 5 rfl).1 57 _ rfl rfl
                  refine if_ok (by rfl) ?_
                  refine wp_callv (lb := #[]) rfl (ev fq) hf.1 (args := #[(.agg #[.slice A4 n4 c4, .bool s4])]) (by simp [Act.eval, f0]) ?_
                  rw [Array.append_empty]
                  obtain ⟨O6, O7, O8, O9, O10, O11, r0, r1, r2, r3, r4, r5, OR, O14, TT, BB⟩ := id hS
                  apply Calls.mono
                  first | exact hf.2 _ _ _ _ _ _ (by assumption) (by assumption) (by assumption)
                  rintro e w2 ⟨A, n, c, rfl, hc, hn, hv, hb⟩
                  exact ⟨_, rfl, hK _ w2 (fun h => by cases h) (keep_below hb hS) ⟨A, n, c, rfl, hc, hn, hv.rd⟩⟩
                · intro a w' hS hO hF' hP K hK
                  obtain ⟨_, f0, Ay0, ny0, cy0, rfl, hc0, hn0, hr0⟩ := (hF' 3 rfl).1 55 _ rfl rfl
                  obtain ⟨_, f1, Ay1, ny1, cy1, rfl, hc1, hn1, hr1⟩ := (hF' 7 rfl).1 59 _ rfl rfl
                  refine if_ok (by rfl) ?_
                  refine wp_calls rfl (enters_of Tryz.func84 (by kernel_rfl) rfl) (args := #[(.agg #[.slice Ay0 ny0 cy0, .bool (oneV i (⟨l1, s1⟩ : V)).s]), (.agg #[.slice Ay1 ny1 cy1, .bool (oneV i (⟨l4, s4⟩ : V)).s])]) (by simp [Act.eval, f0, f1]) ?_
                  obtain ⟨O6, O7, O8, O9, O10, O11, r0, r1, r2, r3, r4, r5, OR, O14, TT, BB⟩ := id hS
                  apply Calls.mono
                  (with_reducible apply below_t); (repeat (first | assumption | (with_reducible (apply Nb.rd; assumption)) | (with_reducible (apply Rb.at_later; assumption)) | (with_reducible (apply Tabs.at_later; assumption)) | (with_reducible apply Rb.alloc) | (with_reducible apply Tabs.alloc) | (with_reducible apply Rb.drew) | (with_reducible apply Tabs.drew) | (show I64 _; unfold I64; omega) | omega)); exact ones_mo i hlt R2
                  rintro e w2 ⟨rfl, hb⟩
                  exact ⟨_, rfl, hK _ w2 (fun h => by cases h) (keep_below hb hS) rfl⟩
                · intro a w' hS hO hF' hP K hK
                  obtain ⟨_, f0, rfl⟩ := (hF' 8 rfl).1 60 _ rfl rfl
                  refine if_ok (by rfl) ?_
                  refine wp_not _ rfl (ev f0) ?_
                  exact hK _ w' (fun h => by cases h) (keep_same hS) rfl
              · intro vs u hl hS hV
                match vs, hl, hV with
                | [v0, v1, v2, v3, v4, v5, v6, v7, v8, v9], _, hV =>
                  obtain rfl := hV 0 _ rfl
                  obtain rfl := hV 1 _ rfl
                  obtain rfl := hV 2 _ rfl
                  obtain rfl := hV 4 _ rfl
                  obtain rfl := hV 5 _ rfl
                  obtain rfl := hV 6 _ rfl
                  obtain rfl := hV 8 _ rfl
                  obtain rfl := hV 9 _ rfl
                  simp only [puts, Act.put, List.setIfInBounds_toArray, List.set_cons_zero, List.set_cons_succ]
                  obtain ⟨O6, O7, O8, O9, O10, O11, r0, r1, r2, r3, r4, r5, OR, O14, TT, BB⟩ := hS
                  clear hV
                  replace BB := Lib.hid BB
                  replace OR : Own u gR 31 oneRow := OR
                  clear O14
                  go_wp2
                  go_roundw
                  case rel => exact ⟨i + 1, by omega, by go_num, Lib.hid OR, Lib.hid O6, Lib.hid O7, Lib.hid O8, Lib.hid O9, Lib.hid O10, Lib.hid O11, Lib.hid r0, Lib.hid r1, Lib.hid r2, Lib.hid r3, Lib.hid r4, Lib.hid r5, Lib.hid TT, BB⟩
                  case measure => simp [intOf]; omega
            · obtain rfl : i = 9 := by omega
              clear OR
              go_wp2_with (go_at_call 19; refine (twos_any _).mono ?_; rintro e wx ⟨rfl, rfl⟩; replace O6 := O6.alloc (.cells twoRow 39); replace O7 := O7.alloc (.cells twoRow 39); replace O8 := O8.alloc (.cells twoRow 39); replace O9 := O9.alloc (.cells twoRow 39); replace O10 := O10.alloc (.cells twoRow 39); replace O11 := O11.alloc (.cells twoRow 39); replace r0 := r0.alloc (.cells twoRow 39); replace r1 := r1.alloc (.cells twoRow 39); replace r2 := r2.alloc (.cells twoRow 39); replace r3 := r3.alloc (.cells twoRow 39); replace r4 := r4.alloc (.cells twoRow 39); replace r5 := r5.alloc (.cells twoRow 39); replace TT := TT.alloc (.cells twoRow 39); replace BB := Lib.hid (below_new BB.out (.cells twoRow 39)); have OR := Own.new wr 39 twoRow)
              generalize wr.alloc (.cells twoRow 39) = W2 at *
              generalize wr.heap.size = gT at *
              go_loopw [65] (fun v wr => ∃ i : Nat, i ≤ 24 ∧ v = .int .i64 i ∧ Hid (Own wr gT 39 twoRow) ∧ Hid (Own wr w.heap.size 24 #[.slice A0 n0 c0, .bool s0]) ∧ Hid (Own wr (w.heap.size + 1) 24 #[.slice A1 n1 c1, .bool s1]) ∧ Hid (Own wr (w.heap.size + 1 + 1) 24 #[.slice A2 n2 c2, .bool s2]) ∧ Hid (Own wr (w.heap.size + 1 + 1 + 1) 24 #[.slice A3 n3 c3, .bool s3]) ∧ Hid (Own wr (w.heap.size + 1 + 1 + 1 + 1) 24 #[.slice A4 n4 c4, .bool s4]) ∧ Hid (Own wr (w.heap.size + 1 + 1 + 1 + 1 + 1) 24 #[.slice A5 n5 c5, .bool s5]) ∧ Hid (Rb wr A0 n0 l0) ∧ Hid (Rb wr A1 n1 l1) ∧ Hid (Rb wr A2 n2 l2) ∧ Hid (Rb wr A3 n3 l3) ∧ Hid (Rb wr A4 n4 l4) ∧ Hid (Rb wr A5 n5 l5) ∧ Hid (Tabs wr) ∧ Hid (Below w.heap.size w wr)) (fun v _ => 24 - (intOf v).toNat)
              case atStart => exact ⟨0, by decide, rfl, Lib.hid OR, Lib.hid O6, Lib.hid O7, Lib.hid O8, Lib.hid O9, Lib.hid O10, Lib.hid O11, Lib.hid r0, Lib.hid r1, Lib.hid r2, Lib.hid r3, Lib.hid r4, Lib.hid r5, Lib.hid TT, BB⟩
              case round =>
                clear OR O6 O7 O8 O9 O10 O11 r0 r1 r2 r3 r4 r5 TT BB
                obtain ⟨i, hi, rfl, OR, O6, O7, O8, O9, O10, O11, r0, r1, r2, r3, r4, r5, TT, BB⟩ := hrel
                replace OR := OR.out
                replace O6 := O6.out
                replace O7 := O7.out
                replace O8 := O8.out
                replace O9 := O9.out
                replace O10 := O10.out
                replace O11 := O11.out
                replace r0 := r0.out
                replace r1 := r1.out
                replace r2 := r2.out
                replace r3 := r3.out
                replace r4 := r4.out
                replace r5 := r5.out
                replace TT := TT.out
                have q60 := O6.cell 0
                have q61 := O6.cell 1
                have q70 := O7.cell 0
                have q71 := O7.cell 1
                have q80 := O8.cell 0
                have q81 := O8.cell 1
                have q90 := O9.cell 0
                have q91 := O9.cell 1
                have q100 := O10.cell 0
                have q101 := O10.cell 1
                have q110 := O11.cell 0
                have q111 := O11.cell 1
                by_cases hlt : i < 24
                · have hrow := two_row i hlt
                  have e0 : wr.cell? ⟨gT, i * 2, none⟩ = some (.int .u8 (twoOp i)) := (OR.cell (i * 2)).trans hrow.1
                  have e1 : wr.cell? ⟨gT, i * 2 + 1, none⟩ = some (.func (.func (twoFn i)) #[] #[]) := (OR.cell (i * 2 + 1)).trans hrow.2
                  have e2 : wr.cell? ⟨gT, 0 + i * 2, none⟩ = some (.int .u8 (twoOp i)) := by rw [Nat.zero_add]; exact e0
                  have e3 : wr.cell? ⟨gT, 0 + i * 2 + 1, none⟩ = some (.func (.func (twoFn i)) #[] #[]) := by rw [Nat.zero_add]; exact e1
                  have d1 : decide ((i : Int) < 24) = true := by simp; omega
                  clear hrow
                  go_wp2
                  replace O6 := O6.alloc (.cells #[.int .u8 (twoOp i), .func (.func (twoFn i)) #[] #[]] 39); replace O7 := O7.alloc (.cells #[.int .u8 (twoOp i), .func (.func (twoFn i)) #[] #[]] 39); replace O8 := O8.alloc (.cells #[.int .u8 (twoOp i), .func (.func (twoFn i)) #[] #[]] 39); replace O9 := O9.alloc (.cells #[.int .u8 (twoOp i), .func (.func (twoFn i)) #[] #[]] 39); replace O10 := O10.alloc (.cells #[.int .u8 (twoOp i), .func (.func (twoFn i)) #[] #[]] 39); replace O11 := O11.alloc (.cells #[.int .u8 (twoOp i), .func (.func (twoFn i)) #[] #[]] 39); replace r0 := r0.alloc (.cells #[.int .u8 (twoOp i), .func (.func (twoFn i)) #[] #[]] 39); replace r1 := r1.alloc (.cells #[.int .u8 (twoOp i), .func (.func (twoFn i)) #[] #[]] 39); replace r2 := r2.alloc (.cells #[.int .u8 (twoOp i), .func (.func (twoFn i)) #[] #[]] 39); replace r3 := r3.alloc (.cells #[.int .u8 (twoOp i), .func (.func (twoFn i)) #[] #[]] 39); replace r4 := r4.alloc (.cells #[.int .u8 (twoOp i), .func (.func (twoFn i)) #[] #[]] 39); replace r5 := r5.alloc (.cells #[.int .u8 (twoOp i), .func (.func (twoFn i)) #[] #[]] 39); replace TT := TT.alloc (.cells #[.int .u8 (twoOp i), .func (.func (twoFn i)) #[] #[]] 39); replace BB := Lib.hid (below_new BB.out (.cells #[.int .u8 (twoOp i), .func (.func (twoFn i)) #[] #[]] 39)); replace OR := OR.alloc (.cells #[.int .u8 (twoOp i), .func (.func (twoFn i)) #[] #[]] 39); have O16 := Own.new wr 39 #[.int .u8 (twoOp i), .func (.func (twoFn i)) #[] #[]]
                  have hf := two_fn i hlt
                  clear e0 e1 e2 e3
                  by_cases h22 : i < 22
                  · obtain ⟨hop1, hop2⟩ := two_ops i h22
                    replace R2 := R2.out
                    replace R3 := R3.out
                    refine region_y (by kernel_rfl) (fun u => owns w.heap.size #[.slice A0 n0 c0, .bool s0] u ∧ (owns (w.heap.size + 1) #[.slice A1 n1 c1, .bool s1] u ∧ (owns (w.heap.size + 1 + 1) #[.slice A2 n2 c2, .bool s2] u ∧ (owns (w.heap.size + 1 + 1 + 1) #[.slice A3 n3 c3, .bool s3] u ∧ (owns (w.heap.size + 1 + 1 + 1 + 1) #[.slice A4 n4 c4, .bool s4] u ∧ (owns (w.heap.size + 1 + 1 + 1 + 1 + 1) #[.slice A5 n5 c5, .bool s5] u ∧ (rds A0 n0 l0 u ∧ (rds A1 n1 l1 u ∧ (rds A2 n2 l2 u ∧ (rds A3 n3 l3 u ∧ (rds A4 n4 l4 u ∧ (rds A5 n5 l5 u ∧ (ownT gT 39 twoRow u ∧ (ownT wr.heap.size 39 #[.int .u8 (twoOp i), .func (.func (twoFn i)) #[] #[]] u ∧ (tbs u ∧ blw w u))))))))))))))) [] [isV (.pointer (some ⟨wr.heap.size, 0, none⟩)), isV ((.int .u8 (twoOp i))), isV (.bool true), isV (.bool true), isV (.pointer (some ⟨wr.heap.size, 0, none⟩)), isV ((.int .u8 (twoOp i))), isV (.bool true), isV (.bool true), isV (.bool true), isV (.pointer (some ⟨wr.heap.size, 1, none⟩)), isV ((.func (.func (twoFn i)) #[] #[])), isV (.agg #[.slice A1 n1 c1, .bool s1]), isV (.agg #[.slice A2 n2 c2, .bool s2]), isW (twoV i (⟨l1, s1⟩ : V) (⟨l2, s2⟩ : V)), isV (.pointer (some ⟨wr.heap.size, 1, none⟩)), isV ((.func (.func (twoFn i)) #[] #[])), isV (.agg #[.slice A4 n4 c4, .bool s4]), isV (.agg #[.slice A5 n5 c5, .bool s5]), isW (twoV i (⟨l4, s4⟩ : V) (⟨l5, s5⟩ : V)), isV (.bool true), isV (.bool false), isV (.bool false)] [some 69, some 70, some 71, some 72, some 73, some 74, some 75, some 76, some 77, some 78, some 79, some 80, some 81, some 82, some 83, some 84, some 85, some 86, some 87, some 88, some 89, some 90] [[], [0], [1], [2], [3], [4, 3], [5, 3], [3, 6], [7, 3], [8], [9, 8], [8], [8], [10, 11, 12, 8, 8], [8], [14, 8], [8], [8], [15, 16, 17, 13, 8], [13, 18, 18, 8], [19, 8], [8, 20]] (by kernel_rfl) (by kernel_rfl) rfl (by kernel_rfl) (by kernel_rfl) (by kernel_rfl) ⟨O6.drew, O7.drew, O8.drew, O9.drew, O10.drew, O11.drew, r0.drew, r1.drew, r2.drew, r3.drew, r4.drew, r5.drew, OR.drew, O16.drew, TT.drew, below_drew BB.out⟩ (fun _ h => by cases h) ?_ ?_
                    · refine ⟨?_, ?_, ?_, ?_, ?_, ?_, ?_, ?_, ?_, ?_, ?_, ?_, ?_, ?_, ?_, ?_, ?_, ?_, ?_, ?_, ?_, ?_, trivial⟩
                      · intro a w' hS hO hF' hP K hK
                        have ha := hO 16 (by rfl)
                        refine if_ok (by rfl) ?_
                        refine wp_val (w' := w') (q := .pointer (some ⟨wr.heap.size, 0, none⟩)) (by unfold execOp; simp only [ev ha]; simp [go_sem]) ?_
                        exact hK _ w' (fun h => by cases h) (keep_same hS) rfl
                      · intro a w' hS hO hF' hP K hK
                        obtain ⟨_, f0, rfl⟩ := (hF' 0 rfl).1 69 _ rfl rfl
                        have hc := hS.2.2.2.2.2.2.2.2.2.2.2.2.2.1.cell 0
                        refine if_ok (by rfl) ?_
                        refine wp_val (w' := w') (q := (.int .u8 (twoOp i))) (by unfold execOp; simp only [ev f0]; simp [go_sem, hc]) ?_
                        exact hK _ w' (fun h => by cases h) (keep_same hS) rfl
                      · intro a w' hS hO hF' hP K hK
                        obtain ⟨_, f0, rfl⟩ := (hF' 1 rfl).1 70 _ rfl rfl
                        refine if_ok (by rfl) ?_
                        refine wp_val (w' := w') (q := .bool true) (by unfold execOp; simp only [(ev f0)]; simp [go_sem, hop1]) ?_
                        exact hK _ w' (fun h => by cases h) (keep_same hS) rfl
                      · intro a w' hS hO hF' hP K hK
                        obtain ⟨_, f0, rfl⟩ := (hF' 2 rfl).1 71 _ rfl rfl
                        refine if_ok (by rfl) ?_
                        unfold Oper.wp execOp
                        simp only [Sem.run_pure, ev f0]
                        exact hK _ w' (fun h => by cases h) (keep_same hS) rfl
                      · intro a w' hS hO hF' hP K hK
                        obtain ⟨_, fg, rfl⟩ := (hF' 3 rfl).1 72 _ rfl rfl
                        have ha := hO 16 (by rfl)
                        refine if_wanted (by rfl) (yield_of (by rfl) fg) ?_
                        refine wp_val (w' := w') (q := .pointer (some ⟨wr.heap.size, 0, none⟩)) (by unfold execOp; simp only [ev ha]; simp [go_sem]) ?_
                        exact hK _ w' (fun h => by cases h) (keep_same hS) rfl
                      · intro a w' hS hO hF' hP K hK
                        obtain ⟨_, fg, rfl⟩ := (hF' 3 rfl).1 72 _ rfl rfl
                        obtain ⟨_, f0, rfl⟩ := (hF' 4 rfl).1 73 _ rfl rfl
                        have hc := hS.2.2.2.2.2.2.2.2.2.2.2.2.2.1.cell 0
                        refine if_wanted (by rfl) (yield_of (by rfl) fg) ?_
                        refine wp_val (w' := w') (q := (.int .u8 (twoOp i))) (by unfold execOp; simp only [ev f0]; simp [go_sem, hc]) ?_
                        exact hK _ w' (fun h => by cases h) (keep_same hS) rfl
                      · intro a w' hS hO hF' hP K hK
                        obtain ⟨_, fg, rfl⟩ := (hF' 3 rfl).1 72 _ rfl rfl
                        obtain ⟨_, f0, rfl⟩ := (hF' 5 rfl).1 74 _ rfl rfl
                        refine if_wanted (by rfl) (yield_of (by rfl) fg) ?_
                        refine wp_val (w' := w') (q := .bool true) (by unfold execOp; simp only [(ev f0)]; simp [go_sem, hop2]) ?_
                        exact hK _ w' (fun h => by cases h) (keep_same hS) rfl
                      · intro a w' hS hO hF' hP K hK
                        obtain ⟨_, f0, rfl⟩ := (hF' 3 rfl).1 72 _ rfl rfl
                        obtain ⟨_, f1, rfl⟩ := (hF' 6 rfl).1 75 _ rfl rfl
                        refine if_ok (by rfl) ?_
                        refine wp_pick_and _ _ _ rfl (ev f0) (ev f1) ?_
                        exact hK _ w' (fun h => by cases h) (keep_same hS) rfl
                      · intro a w' hS hO hF' hP K hK
                        obtain ⟨_, f0, rfl⟩ := (hF' 7 rfl).1 76 _ rfl rfl
                        refine if_ok (by rfl) ?_
                        unfold Oper.wp execOp
                        simp only [Sem.run_pure, ev f0]
                        exact hK _ w' (fun h => by cases h) (keep_same hS) rfl
                      · intro a w' hS hO hF' hP K hK
                        obtain ⟨_, fg, rfl⟩ := (hF' 8 rfl).1 77 _ rfl rfl
                        have ha := hO 16 (by rfl)
                        refine if_wanted (by rfl) (yield_of (by rfl) fg) ?_
                        refine wp_val (w' := w') (q := .pointer (some ⟨wr.heap.size, 1, none⟩)) (by unfold execOp; simp only [ev ha]; simp [go_sem]) ?_
                        exact hK _ w' (fun h => by cases h) (keep_same hS) rfl
                      · intro a w' hS hO hF' hP K hK
                        obtain ⟨_, fg, rfl⟩ := (hF' 8 rfl).1 77 _ rfl rfl
                        obtain ⟨_, f0, rfl⟩ := (hF' 9 rfl).1 78 _ rfl rfl
                        have hc := hS.2.2.2.2.2.2.2.2.2.2.2.2.2.1.cell 1
                        refine if_wanted (by rfl) (yield_of (by rfl) fg) ?_
                        refine wp_val (w' := w') (q := (.func (.func (twoFn i)) #[] #[])) (by unfold execOp; simp only [ev f0]; simp [go_sem, hc]) ?_
                        exact hK _ w' (fun h => by cases h) (keep_same hS) rfl
                      · intro a w' hS hO hF' hP K hK
                        obtain ⟨_, fg, rfl⟩ := (hF' 8 rfl).1 77 _ rfl rfl
                        have ha := hO 7 (by rfl)
                        refine if_wanted (by rfl) (yield_of (by rfl) fg) ?_
                        refine wp_load_row 24 (.tmp 7) rfl (w.heap.size + 1) (ev ha) _ _ (0, 0) _ hS.2.1 Tryz.underlying24 rfl (by kernel_rfl) ?_
                        exact hK _ w' (fun h => by cases h) (keep_same hS) rfl
                      · intro a w' hS hO hF' hP K hK
                        obtain ⟨_, fg, rfl⟩ := (hF' 8 rfl).1 77 _ rfl rfl
                        have ha := hO 8 (by rfl)
                        refine if_wanted (by rfl) (yield_of (by rfl) fg) ?_
                        refine wp_load_row 24 (.tmp 8) rfl (w.heap.size + 1 + 1) (ev ha) _ _ (0, 0) _ hS.2.2.1 Tryz.underlying24 rfl (by kernel_rfl) ?_
                        exact hK _ w' (fun h => by cases h) (keep_same hS) rfl
                      · intro a w' hS hO hF' hP K hK
                        obtain ⟨_, fg, rfl⟩ := (hF' 8 rfl).1 77 _ rfl rfl
                        obtain ⟨_, f0, rfl⟩ := (hF' 11 rfl).1 80 _ rfl rfl
                        obtain ⟨_, f1, rfl⟩ := (hF' 12 rfl).1 81 _ rfl rfl
                        obtain ⟨_, fq, rfl⟩ := (hF' 10 rfl).1 79 _ rfl rfl
                        refine if_wanted (by rfl) (yield_of (by rfl) fg) ?_
                        refine wp_callv (lb := #[]) rfl (ev fq) hf.1 (args := #[(.agg #[.slice A1 n1 c1, .bool s1]), (.agg #[.slice A2 n2 c2, .bool s2])]) (by simp [Act.eval, f0, f1]) ?_
                        rw [Array.append_empty]
                        obtain ⟨O6, O7, O8, O9, O10, O11, r0, r1, r2, r3, r4, r5, OR, O16, TT, BB⟩ := id hS
                        apply Calls.mono
                        first | exact hf.2 _ _ _ _ _ _ _ _ _ _ _ (by assumption) (by assumption) (by assumption) (by assumption) (by assumption)
                        rintro e w2 ⟨A, n, c, rfl, hc, hn, hv, hb⟩
                        exact ⟨_, rfl, hK _ w2 (fun h => by cases h) (keep_below hb hS) ⟨A, n, c, rfl, hc, hn, hv.rd⟩⟩
                      · intro a w' hS hO hF' hP K hK
                        obtain ⟨_, fg, rfl⟩ := (hF' 8 rfl).1 77 _ rfl rfl
                        have ha := hO 16 (by rfl)
                        refine if_wanted (by rfl) (yield_of (by rfl) fg) ?_
                        refine wp_val (w' := w') (q := .pointer (some ⟨wr.heap.size, 1, none⟩)) (by unfold execOp; simp only [ev ha]; simp [go_sem]) ?_
                        exact hK _ w' (fun h => by cases h) (keep_same hS) rfl
                      · intro a w' hS hO hF' hP K hK
                        obtain ⟨_, fg, rfl⟩ := (hF' 8 rfl).1 77 _ rfl rfl
                        obtain ⟨_, f0, rfl⟩ := (hF' 14 rfl).1 83 _ rfl rfl
                        have hc := hS.2.2.2.2.2.2.2.2.2.2.2.2.2.1.cell 1
                        refine if_wanted (by rfl) (yield_of (by rfl) fg) ?_
                        refine wp_val (w' := w') (q := (.func (.func (twoFn i)) #[] #[])) (by unfold execOp; simp only [ev f0]; simp [go_sem, hc]) ?_
                        exact hK _ w' (fun h => by cases h) (keep_same hS) rfl
                      · intro a w' hS hO hF' hP K hK
                        obtain ⟨_, fg, rfl⟩ := (hF' 8 rfl).1 77 _ rfl rfl
                        have ha := hO 10 (by rfl)
                        refine if_wanted (by rfl) (yield_of (by rfl) fg) ?_
                        refine wp_load_row 24 (.tmp 10) rfl (w.heap.size + 1 + 1 + 1 + 1) (ev ha) _ _ (0, 0) _ hS.2.2.2.2.1 Tryz.underlying24 rfl (by kernel_rfl) ?_
                        exact hK _ w' (fun h => by cases h) (keep_same hS) rfl
                      · intro a w' hS hO hF' hP K hK
                        obtain ⟨_, fg, rfl⟩ := (hF' 8 rfl).1 77 _ rfl rfl
                        have ha := hO 11 (by rfl)
                        refine if_wanted (by rfl) (yield_of (by rfl) fg) ?_
                        refine wp_load_row 24 (.tmp 11) rfl (w.heap.size + 1 + 1 + 1 + 1 + 1) (ev ha) _ _ (0, 0) _ hS.2.2.2.2.2.1 Tryz.underlying24 rfl (by kernel_rfl) ?_
                        exact hK _ w' (fun h => by cases h) (keep_same hS) rfl
                      · intro a w' hS hO hF' hP K hK
                        obtain ⟨_, fg, rfl⟩ := (hF' 8 rfl).1 77 _ rfl rfl
                        obtain ⟨_, f0, rfl⟩ := (hF' 16 rfl).1 85 _ rfl rfl
                        obtain ⟨_, f1, rfl⟩ := (hF' 17 rfl).1 86 _ rfl rfl
                        obtain ⟨_, fq, rfl⟩ := (hF' 15 rfl).1 84 _ rfl rfl
                        refine if_wanted (by rfl) (yield_of (by rfl) fg) ?_
                        refine wp_callv (lb := #[]) rfl (ev fq) hf.1 (args := #[(.agg #[.slice A4 n4 c4, .bool s4]), (.agg #[.slice A5 n5 c5, .bool s5])]) (by simp [Act.eval, f0, f1]) ?_
                        rw [Array.append_empty]
                        obtain ⟨O6, O7, O8, O9, O10, O11, r0, r1, r2, r3, r4, r5, OR, O16, TT, BB⟩ := id hS
                        apply Calls.mono
                        first | exact hf.2 _ _ _ _ _ _ _ _ _ _ _ (by assumption) (by assumption) (by assumption) (by assumption) (by assumption)
                        rintro e w2 ⟨A, n, c, rfl, hc, hn, hv, hb⟩
                        exact ⟨_, rfl, hK _ w2 (fun h => by cases h) (keep_below hb hS) ⟨A, n, c, rfl, hc, hn, hv.rd⟩⟩
                      · intro a w' hS hO hF' hP K hK
                        obtain ⟨_, fg, rfl⟩ := (hF' 8 rfl).1 77 _ rfl rfl
                        obtain ⟨_, f0, Ay0, ny0, cy0, rfl, hc0, hn0, hr0⟩ := (hF' 13 rfl).1 82 _ rfl rfl
                        obtain ⟨_, f1, Ay1, ny1, cy1, rfl, hc1, hn1, hr1⟩ := (hF' 18 rfl).1 87 _ rfl rfl
                        refine if_wanted (by rfl) (yield_of (by rfl) fg) ?_
                        refine wp_calls rfl (enters_of Tryz.func84 (by kernel_rfl) rfl) (args := #[(.agg #[.slice Ay0 ny0 cy0, .bool (twoV i (⟨l1, s1⟩ : V) (⟨l2, s2⟩ : V)).s]), (.agg #[.slice Ay1 ny1 cy1, .bool (twoV i (⟨l4, s4⟩ : V) (⟨l5, s5⟩ : V)).s])]) (by simp [Act.eval, f0, f1]) ?_
                        obtain ⟨O6, O7, O8, O9, O10, O11, r0, r1, r2, r3, r4, r5, OR, O16, TT, BB⟩ := id hS
                        apply Calls.mono
                        (with_reducible apply below_t); (repeat (first | assumption | (with_reducible (apply Nb.rd; assumption)) | (with_reducible (apply Rb.at_later; assumption)) | (with_reducible (apply Tabs.at_later; assumption)) | (with_reducible apply Rb.alloc) | (with_reducible apply Tabs.alloc) | (with_reducible apply Rb.drew) | (with_reducible apply Tabs.drew) | (show I64 _; unfold I64; omega) | omega)); exact twos_mo i h22 R2 R3
                        rintro e w2 ⟨rfl, hb⟩
                        exact ⟨_, rfl, hK _ w2 (fun h => by cases h) (keep_below hb hS) rfl⟩
                      · intro a w' hS hO hF' hP K hK
                        obtain ⟨_, fg, rfl⟩ := (hF' 8 rfl).1 77 _ rfl rfl
                        obtain ⟨_, f0, rfl⟩ := (hF' 19 rfl).1 88 _ rfl rfl
                        refine if_wanted (by rfl) (yield_of (by rfl) fg) ?_
                        refine wp_not _ rfl (ev f0) ?_
                        exact hK _ w' (fun h => by cases h) (keep_same hS) rfl
                      · intro a w' hS hO hF' hP K hK
                        obtain ⟨_, f0, rfl⟩ := (hF' 8 rfl).1 77 _ rfl rfl
                        obtain ⟨_, f1, rfl⟩ := (hF' 20 rfl).1 89 _ rfl rfl
                        refine if_ok (by rfl) ?_
                        refine wp_pick_and _ _ _ rfl (ev f0) (ev f1) ?_
                        exact hK _ w' (fun h => by cases h) (keep_same hS) rfl
                    · intro vs u hl hS hV
                      match vs, hl, hV with
                      | [v0, v1, v2, v3, v4, v5, v6, v7, v8, v9, v10, v11, v12, v13, v14, v15, v16, v17, v18, v19, v20, v21], _, hV =>
                        obtain rfl := hV 0 _ rfl
                        obtain rfl := hV 1 _ rfl
                        obtain rfl := hV 2 _ rfl
                        obtain rfl := hV 3 _ rfl
                        obtain rfl := hV 4 _ rfl
                        obtain rfl := hV 5 _ rfl
                        obtain rfl := hV 6 _ rfl
                        obtain rfl := hV 7 _ rfl
                        obtain rfl := hV 8 _ rfl
                        obtain rfl := hV 9 _ rfl
                        obtain rfl := hV 10 _ rfl
                        obtain rfl := hV 11 _ rfl
                        obtain rfl := hV 12 _ rfl
                        obtain rfl := hV 14 _ rfl
                        obtain rfl := hV 15 _ rfl
                        obtain rfl := hV 16 _ rfl
                        obtain rfl := hV 17 _ rfl
                        obtain rfl := hV 19 _ rfl
                        obtain rfl := hV 20 _ rfl
                        obtain rfl := hV 21 _ rfl
                        simp only [puts, Act.put, List.setIfInBounds_toArray, List.set_cons_zero, List.set_cons_succ]
                        obtain ⟨O6, O7, O8, O9, O10, O11, r0, r1, r2, r3, r4, r5, OR, O16, TT, BB⟩ := hS
                        clear hV
                        replace BB := Lib.hid BB
                        replace OR : Own u gT 39 twoRow := OR
                        clear O16
                        go_wp2
                        go_roundw
                        case rel => exact ⟨i + 1, by omega, by go_num, Lib.hid OR, Lib.hid O6, Lib.hid O7, Lib.hid O8, Lib.hid O9, Lib.hid O10, Lib.hid O11, Lib.hid r0, Lib.hid r1, Lib.hid r2, Lib.hid r3, Lib.hid r4, Lib.hid r5, Lib.hid TT, BB⟩
                        case measure => simp [intOf]; omega
                  · by_cases h23 : i = 22
                    · have hop1 : twoOp i = 29 := by rw [h23]; rfl
                      refine region_y (by kernel_rfl) (fun u => owns w.heap.size #[.slice A0 n0 c0, .bool s0] u ∧ (owns (w.heap.size + 1) #[.slice A1 n1 c1, .bool s1] u ∧ (owns (w.heap.size + 1 + 1) #[.slice A2 n2 c2, .bool s2] u ∧ (owns (w.heap.size + 1 + 1 + 1) #[.slice A3 n3 c3, .bool s3] u ∧ (owns (w.heap.size + 1 + 1 + 1 + 1) #[.slice A4 n4 c4, .bool s4] u ∧ (owns (w.heap.size + 1 + 1 + 1 + 1 + 1) #[.slice A5 n5 c5, .bool s5] u ∧ (rds A0 n0 l0 u ∧ (rds A1 n1 l1 u ∧ (rds A2 n2 l2 u ∧ (rds A3 n3 l3 u ∧ (rds A4 n4 l4 u ∧ (rds A5 n5 l5 u ∧ (ownT gT 39 twoRow u ∧ (ownT wr.heap.size 39 #[.int .u8 (twoOp i), .func (.func (twoFn i)) #[] #[]] u ∧ (tbs u ∧ blw w u))))))))))))))) [] [isV (.pointer (some ⟨wr.heap.size, 0, none⟩)), isV ((.int .u8 (twoOp i))), isV (.bool false), isV (.bool false), isV undef, isV undef, isV undef, isV (.bool false), isV (.bool false), isV undef, isV undef, isV undef, isV undef, isV undef, isV undef, isV undef, isV undef, isV undef, isV undef, isV undef, isV undef, isV (.bool false)] [some 69, some 70, some 71, some 72, some 73, some 74, some 75, some 76, some 77, some 78, some 79, some 80, some 81, some 82, some 83, some 84, some 85, some 86, some 87, some 88, some 89, some 90] [[], [0], [1], [2], [3], [4, 3], [5, 3], [3, 6], [7, 3], [8], [9, 8], [8], [8], [10, 11, 12, 8, 8], [8], [14, 8], [8], [8], [15, 16, 17, 13, 8], [13, 18, 18, 8], [19, 8], [8, 20]] (by kernel_rfl) (by kernel_rfl) rfl (by kernel_rfl) (by kernel_rfl) (by kernel_rfl) ⟨O6.drew, O7.drew, O8.drew, O9.drew, O10.drew, O11.drew, r0.drew, r1.drew, r2.drew, r3.drew, r4.drew, r5.drew, OR.drew, O16.drew, TT.drew, below_drew BB.out⟩ (fun _ h => by cases h) ?_ ?_
                      · refine ⟨?_, ?_, ?_, ?_, ?_, ?_, ?_, ?_, ?_, ?_, ?_, ?_, ?_, ?_, ?_, ?_, ?_, ?_, ?_, ?_, ?_, ?_, trivial⟩
                        · intro a w' hS hO hF' hP K hK
                          have ha := hO 16 (by rfl)
                          refine if_ok (by rfl) ?_
                          refine wp_val (w' := w') (q := .pointer (some ⟨wr.heap.size, 0, none⟩)) (by unfold execOp; simp only [ev ha]; simp [go_sem]) ?_
                          exact hK _ w' (fun h => by cases h) (keep_same hS) rfl
                        · intro a w' hS hO hF' hP K hK
                          obtain ⟨_, f0, rfl⟩ := (hF' 0 rfl).1 69 _ rfl rfl
                          have hc := hS.2.2.2.2.2.2.2.2.2.2.2.2.2.1.cell 0
                          refine if_ok (by rfl) ?_
                          refine wp_val (w' := w') (q := (.int .u8 (twoOp i))) (by unfold execOp; simp only [ev f0]; simp [go_sem, hc]) ?_
                          exact hK _ w' (fun h => by cases h) (keep_same hS) rfl
                        · intro a w' hS hO hF' hP K hK
                          obtain ⟨_, f0, rfl⟩ := (hF' 1 rfl).1 70 _ rfl rfl
                          refine if_ok (by rfl) ?_
                          refine wp_val (w' := w') (q := .bool false) (by unfold execOp; simp only [(ev f0)]; simp [go_sem, hop1]) ?_
                          exact hK _ w' (fun h => by cases h) (keep_same hS) rfl
                        · intro a w' hS hO hF' hP K hK
                          obtain ⟨_, f0, rfl⟩ := (hF' 2 rfl).1 71 _ rfl rfl
                          refine if_ok (by rfl) ?_
                          unfold Oper.wp execOp
                          simp only [Sem.run_pure, ev f0]
                          exact hK _ w' (fun h => by cases h) (keep_same hS) rfl
                        · intro a w' hS hO hF' hP K hK
                          obtain ⟨_, fg, rfl⟩ := (hF' 3 rfl).1 72 _ rfl rfl
                          refine if_unwanted (by rfl) (yield_of (by rfl) fg) ?_
                          exact hK _ w' (fun h => by cases h) (keep_same hS) rfl
                        · intro a w' hS hO hF' hP K hK
                          obtain ⟨_, fg, rfl⟩ := (hF' 3 rfl).1 72 _ rfl rfl
                          refine if_unwanted (by rfl) (yield_of (by rfl) fg) ?_
                          exact hK _ w' (fun h => by cases h) (keep_same hS) rfl
                        · intro a w' hS hO hF' hP K hK
                          obtain ⟨_, fg, rfl⟩ := (hF' 3 rfl).1 72 _ rfl rfl
                          refine if_unwanted (by rfl) (yield_of (by rfl) fg) ?_
                          exact hK _ w' (fun h => by cases h) (keep_same hS) rfl
                        · intro a w' hS hO hF' hP K hK
                          obtain ⟨_, f0, rfl⟩ := (hF' 3 rfl).1 72 _ rfl rfl
                          refine if_ok (by rfl) ?_
                          refine wp_pick_or _ _ _ rfl (ev f0) rfl ?_
                          exact hK _ w' (fun h => by cases h) (keep_same hS) rfl
                        · intro a w' hS hO hF' hP K hK
                          obtain ⟨_, f0, rfl⟩ := (hF' 7 rfl).1 76 _ rfl rfl
                          refine if_ok (by rfl) ?_
                          unfold Oper.wp execOp
                          simp only [Sem.run_pure, ev f0]
                          exact hK _ w' (fun h => by cases h) (keep_same hS) rfl
                        · intro a w' hS hO hF' hP K hK
                          obtain ⟨_, fg, rfl⟩ := (hF' 8 rfl).1 77 _ rfl rfl
                          refine if_unwanted (by rfl) (yield_of (by rfl) fg) ?_
                          exact hK _ w' (fun h => by cases h) (keep_same hS) rfl
                        · intro a w' hS hO hF' hP K hK
                          obtain ⟨_, fg, rfl⟩ := (hF' 8 rfl).1 77 _ rfl rfl
                          refine if_unwanted (by rfl) (yield_of (by rfl) fg) ?_
                          exact hK _ w' (fun h => by cases h) (keep_same hS) rfl
                        · intro a w' hS hO hF' hP K hK
                          obtain ⟨_, fg, rfl⟩ := (hF' 8 rfl).1 77 _ rfl rfl
                          refine if_unwanted (by rfl) (yield_of (by rfl) fg) ?_
                          exact hK _ w' (fun h => by cases h) (keep_same hS) rfl
                        · intro a w' hS hO hF' hP K hK
                          obtain ⟨_, fg, rfl⟩ := (hF' 8 rfl).1 77 _ rfl rfl
                          refine if_unwanted (by rfl) (yield_of (by rfl) fg) ?_
                          exact hK _ w' (fun h => by cases h) (keep_same hS) rfl
                        · intro a w' hS hO hF' hP K hK
                          obtain ⟨_, fg, rfl⟩ := (hF' 8 rfl).1 77 _ rfl rfl
                          refine if_unwanted (by rfl) (yield_of (by rfl) fg) ?_
                          exact hK _ w' (fun h => by cases h) (keep_same hS) rfl
                        · intro a w' hS hO hF' hP K hK
                          obtain ⟨_, fg, rfl⟩ := (hF' 8 rfl).1 77 _ rfl rfl
                          refine if_unwanted (by rfl) (yield_of (by rfl) fg) ?_
                          exact hK _ w' (fun h => by cases h) (keep_same hS) rfl
                        · intro a w' hS hO hF' hP K hK
                          obtain ⟨_, fg, rfl⟩ := (hF' 8 rfl).1 77 _ rfl rfl
                          refine if_unwanted (by rfl) (yield_of (by rfl) fg) ?_
                          exact hK _ w' (fun h => by cases h) (keep_same hS) rfl
                        · intro a w' hS hO hF' hP K hK
                          obtain ⟨_, fg, rfl⟩ := (hF' 8 rfl).1 77 _ rfl rfl
                          refine if_unwanted (by rfl) (yield_of (by rfl) fg) ?_
                          exact hK _ w' (fun h => by cases h) (keep_same hS) rfl
                        · intro a w' hS hO hF' hP K hK
                          obtain ⟨_, fg, rfl⟩ := (hF' 8 rfl).1 77 _ rfl rfl
                          refine if_unwanted (by rfl) (yield_of (by rfl) fg) ?_
                          exact hK _ w' (fun h => by cases h) (keep_same hS) rfl
                        · intro a w' hS hO hF' hP K hK
                          obtain ⟨_, fg, rfl⟩ := (hF' 8 rfl).1 77 _ rfl rfl
                          refine if_unwanted (by rfl) (yield_of (by rfl) fg) ?_
                          exact hK _ w' (fun h => by cases h) (keep_same hS) rfl
                        · intro a w' hS hO hF' hP K hK
                          obtain ⟨_, fg, rfl⟩ := (hF' 8 rfl).1 77 _ rfl rfl
                          refine if_unwanted (by rfl) (yield_of (by rfl) fg) ?_
                          exact hK _ w' (fun h => by cases h) (keep_same hS) rfl
                        · intro a w' hS hO hF' hP K hK
                          obtain ⟨_, fg, rfl⟩ := (hF' 8 rfl).1 77 _ rfl rfl
                          refine if_unwanted (by rfl) (yield_of (by rfl) fg) ?_
                          exact hK _ w' (fun h => by cases h) (keep_same hS) rfl
                        · intro a w' hS hO hF' hP K hK
                          obtain ⟨_, f0, rfl⟩ := (hF' 8 rfl).1 77 _ rfl rfl
                          refine if_ok (by rfl) ?_
                          refine wp_pick_or _ _ _ rfl (ev f0) rfl ?_
                          exact hK _ w' (fun h => by cases h) (keep_same hS) rfl
                      · intro vs u hl hS hV
                        match vs, hl, hV with
                        | [v0, v1, v2, v3, v4, v5, v6, v7, v8, v9, v10, v11, v12, v13, v14, v15, v16, v17, v18, v19, v20, v21], _, hV =>
                          obtain rfl := hV 0 _ rfl
                          obtain rfl := hV 1 _ rfl
                          obtain rfl := hV 2 _ rfl
                          obtain rfl := hV 3 _ rfl
                          obtain rfl := hV 4 _ rfl
                          obtain rfl := hV 5 _ rfl
                          obtain rfl := hV 6 _ rfl
                          obtain rfl := hV 7 _ rfl
                          obtain rfl := hV 8 _ rfl
                          obtain rfl := hV 9 _ rfl
                          obtain rfl := hV 10 _ rfl
                          obtain rfl := hV 11 _ rfl
                          obtain rfl := hV 12 _ rfl
                          obtain rfl := hV 13 _ rfl
                          obtain rfl := hV 14 _ rfl
                          obtain rfl := hV 15 _ rfl
                          obtain rfl := hV 16 _ rfl
                          obtain rfl := hV 17 _ rfl
                          obtain rfl := hV 18 _ rfl
                          obtain rfl := hV 19 _ rfl
                          obtain rfl := hV 20 _ rfl
                          obtain rfl := hV 21 _ rfl
                          simp only [puts, Act.put, List.setIfInBounds_toArray, List.set_cons_zero, List.set_cons_succ]
                          obtain ⟨O6, O7, O8, O9, O10, O11, r0, r1, r2, r3, r4, r5, OR, O16, TT, BB⟩ := hS
                          clear hV
                          replace BB := Lib.hid BB
                          replace OR : Own u gT 39 twoRow := OR
                          clear O16
                          go_wp2
                          go_roundw
                          case rel => exact ⟨i + 1, by omega, by go_num, Lib.hid OR, Lib.hid O6, Lib.hid O7, Lib.hid O8, Lib.hid O9, Lib.hid O10, Lib.hid O11, Lib.hid r0, Lib.hid r1, Lib.hid r2, Lib.hid r3, Lib.hid r4, Lib.hid r5, Lib.hid TT, BB⟩
                          case measure => simp [intOf]; omega
                    · have h24 : i = 23 := by omega
                      have hop1 : (twoOp i = 29) = False := by rw [h24]; simp [twoOp]
                      have hop2 : twoOp i = 30 := by rw [h24]; rfl
                      refine region_y (by kernel_rfl) (fun u => owns w.heap.size #[.slice A0 n0 c0, .bool s0] u ∧ (owns (w.heap.size + 1) #[.slice A1 n1 c1, .bool s1] u ∧ (owns (w.heap.size + 1 + 1) #[.slice A2 n2 c2, .bool s2] u ∧ (owns (w.heap.size + 1 + 1 + 1) #[.slice A3 n3 c3, .bool s3] u ∧ (owns (w.heap.size + 1 + 1 + 1 + 1) #[.slice A4 n4 c4, .bool s4] u ∧ (owns (w.heap.size + 1 + 1 + 1 + 1 + 1) #[.slice A5 n5 c5, .bool s5] u ∧ (rds A0 n0 l0 u ∧ (rds A1 n1 l1 u ∧ (rds A2 n2 l2 u ∧ (rds A3 n3 l3 u ∧ (rds A4 n4 l4 u ∧ (rds A5 n5 l5 u ∧ (ownT gT 39 twoRow u ∧ (ownT wr.heap.size 39 #[.int .u8 (twoOp i), .func (.func (twoFn i)) #[] #[]] u ∧ (tbs u ∧ blw w u))))))))))))))) [] [isV (.pointer (some ⟨wr.heap.size, 0, none⟩)), isV ((.int .u8 (twoOp i))), isV (.bool true), isV (.bool true), isV (.pointer (some ⟨wr.heap.size, 0, none⟩)), isV ((.int .u8 (twoOp i))), isV (.bool false), isV (.bool false), isV (.bool false), isV undef, isV undef, isV undef, isV undef, isV undef, isV undef, isV undef, isV undef, isV undef, isV undef, isV undef, isV undef, isV (.bool false)] [some 69, some 70, some 71, some 72, some 73, some 74, some 75, some 76, some 77, some 78, some 79, some 80, some 81, some 82, some 83, some 84, some 85, some 86, some 87, some 88, some 89, some 90] [[], [0], [1], [2], [3], [4, 3], [5, 3], [3, 6], [7, 3], [8], [9, 8], [8], [8], [10, 11, 12, 8, 8], [8], [14, 8], [8], [8], [15, 16, 17, 13, 8], [13, 18, 18, 8], [19, 8], [8, 20]] (by kernel_rfl) (by kernel_rfl) rfl (by kernel_rfl) (by kernel_rfl) (by kernel_rfl) ⟨O6.drew, O7.drew, O8.drew, O9.drew, O10.drew, O11.drew, r0.drew, r1.drew, r2.drew, r3.drew, r4.drew, r5.drew, OR.drew, O16.drew, TT.drew, below_drew BB.out⟩ (fun _ h => by cases h) ?_ ?_
                      · refine ⟨?_, ?_, ?_, ?_, ?_, ?_, ?_, ?_, ?_, ?_, ?_, ?_, ?_, ?_, ?_, ?_, ?_, ?_, ?_, ?_, ?_, ?_, trivial⟩
                        · intro a w' hS hO hF' hP K hK
                          have ha := hO 16 (by rfl)
                          refine if_ok (by rfl) ?_
                          refine wp_val (w' := w') (q := .pointer (some ⟨wr.heap.size, 0, none⟩)) (by unfold execOp; simp only [ev ha]; simp [go_sem]) ?_
                          exact hK _ w' (fun h => by cases h) (keep_same hS) rfl
                        · intro a w' hS hO hF' hP K hK
                          obtain ⟨_, f0, rfl⟩ := (hF' 0 rfl).1 69 _ rfl rfl
                          have hc := hS.2.2.2.2.2.2.2.2.2.2.2.2.2.1.cell 0
                          refine if_ok (by rfl) ?_
                          refine wp_val (w' := w') (q := (.int .u8 (twoOp i))) (by unfold execOp; simp only [ev f0]; simp [go_sem, hc]) ?_
                          exact hK _ w' (fun h => by cases h) (keep_same hS) rfl
                        · intro a w' hS hO hF' hP K hK
                          obtain ⟨_, f0, rfl⟩ := (hF' 1 rfl).1 70 _ rfl rfl
                          refine if_ok (by rfl) ?_
                          refine wp_val (w' := w') (q := .bool true) (by unfold execOp; simp only [(ev f0)]; simp [go_sem, hop1]) ?_
                          exact hK _ w' (fun h => by cases h) (keep_same hS) rfl
                        · intro a w' hS hO hF' hP K hK
                          obtain ⟨_, f0, rfl⟩ := (hF' 2 rfl).1 71 _ rfl rfl
                          refine if_ok (by rfl) ?_
                          unfold Oper.wp execOp
                          simp only [Sem.run_pure, ev f0]
                          exact hK _ w' (fun h => by cases h) (keep_same hS) rfl
                        · intro a w' hS hO hF' hP K hK
                          obtain ⟨_, fg, rfl⟩ := (hF' 3 rfl).1 72 _ rfl rfl
                          have ha := hO 16 (by rfl)
                          refine if_wanted (by rfl) (yield_of (by rfl) fg) ?_
                          refine wp_val (w' := w') (q := .pointer (some ⟨wr.heap.size, 0, none⟩)) (by unfold execOp; simp only [ev ha]; simp [go_sem]) ?_
                          exact hK _ w' (fun h => by cases h) (keep_same hS) rfl
                        · intro a w' hS hO hF' hP K hK
                          obtain ⟨_, fg, rfl⟩ := (hF' 3 rfl).1 72 _ rfl rfl
                          obtain ⟨_, f0, rfl⟩ := (hF' 4 rfl).1 73 _ rfl rfl
                          have hc := hS.2.2.2.2.2.2.2.2.2.2.2.2.2.1.cell 0
                          refine if_wanted (by rfl) (yield_of (by rfl) fg) ?_
                          refine wp_val (w' := w') (q := (.int .u8 (twoOp i))) (by unfold execOp; simp only [ev f0]; simp [go_sem, hc]) ?_
                          exact hK _ w' (fun h => by cases h) (keep_same hS) rfl
                        · intro a w' hS hO hF' hP K hK
                          obtain ⟨_, fg, rfl⟩ := (hF' 3 rfl).1 72 _ rfl rfl
                          obtain ⟨_, f0, rfl⟩ := (hF' 5 rfl).1 74 _ rfl rfl
                          refine if_wanted (by rfl) (yield_of (by rfl) fg) ?_
                          refine wp_val (w' := w') (q := .bool false) (by unfold execOp; simp only [(ev f0)]; simp [go_sem, hop2]) ?_
                          exact hK _ w' (fun h => by cases h) (keep_same hS) rfl
                        · intro a w' hS hO hF' hP K hK
                          obtain ⟨_, f0, rfl⟩ := (hF' 3 rfl).1 72 _ rfl rfl
                          obtain ⟨_, f1, rfl⟩ := (hF' 6 rfl).1 75 _ rfl rfl
                          refine if_ok (by rfl) ?_
                          refine wp_pick_and _ _ _ rfl (ev f0) (ev f1) ?_
                          exact hK _ w' (fun h => by cases h) (keep_same hS) rfl
                        · intro a w' hS hO hF' hP K hK
                          obtain ⟨_, f0, rfl⟩ := (hF' 7 rfl).1 76 _ rfl rfl
                          refine if_ok (by rfl) ?_
                          unfold Oper.wp execOp
                          simp only [Sem.run_pure, ev f0]
                          exact hK _ w' (fun h => by cases h) (keep_same hS) rfl
                        · intro a w' hS hO hF' hP K hK
                          obtain ⟨_, fg, rfl⟩ := (hF' 8 rfl).1 77 _ rfl rfl
                          refine if_unwanted (by rfl) (yield_of (by rfl) fg) ?_
                          exact hK _ w' (fun h => by cases h) (keep_same hS) rfl
                        · intro a w' hS hO hF' hP K hK
                          obtain ⟨_, fg, rfl⟩ := (hF' 8 rfl).1 77 _ rfl rfl
                          refine if_unwanted (by rfl) (yield_of (by rfl) fg) ?_
                          exact hK _ w' (fun h => by cases h) (keep_same hS) rfl
                        · intro a w' hS hO hF' hP K hK
                          obtain ⟨_, fg, rfl⟩ := (hF' 8 rfl).1 77 _ rfl rfl
                          refine if_unwanted (by rfl) (yield_of (by rfl) fg) ?_
                          exact hK _ w' (fun h => by cases h) (keep_same hS) rfl
                        · intro a w' hS hO hF' hP K hK
                          obtain ⟨_, fg, rfl⟩ := (hF' 8 rfl).1 77 _ rfl rfl
                          refine if_unwanted (by rfl) (yield_of (by rfl) fg) ?_
                          exact hK _ w' (fun h => by cases h) (keep_same hS) rfl
                        · intro a w' hS hO hF' hP K hK
                          obtain ⟨_, fg, rfl⟩ := (hF' 8 rfl).1 77 _ rfl rfl
                          refine if_unwanted (by rfl) (yield_of (by rfl) fg) ?_
                          exact hK _ w' (fun h => by cases h) (keep_same hS) rfl
                        · intro a w' hS hO hF' hP K hK
                          obtain ⟨_, fg, rfl⟩ := (hF' 8 rfl).1 77 _ rfl rfl
                          refine if_unwanted (by rfl) (yield_of (by rfl) fg) ?_
                          exact hK _ w' (fun h => by cases h) (keep_same hS) rfl
                        · intro a w' hS hO hF' hP K hK
                          obtain ⟨_, fg, rfl⟩ := (hF' 8 rfl).1 77 _ rfl rfl
                          refine if_unwanted (by rfl) (yield_of (by rfl) fg) ?_
                          exact hK _ w' (fun h => by cases h) (keep_same hS) rfl
                        · intro a w' hS hO hF' hP K hK
                          obtain ⟨_, fg, rfl⟩ := (hF' 8 rfl).1 77 _ rfl rfl
                          refine if_unwanted (by rfl) (yield_of (by rfl) fg) ?_
                          exact hK _ w' (fun h => by cases h) (keep_same hS) rfl
                        · intro a w' hS hO hF' hP K hK
                          obtain ⟨_, fg, rfl⟩ := (hF' 8 rfl).1 77 _ rfl rfl
                          refine if_unwanted (by rfl) (yield_of (by rfl) fg) ?_
                          exact hK _ w' (fun h => by cases h) (keep_same hS) rfl
                        · intro a w' hS hO hF' hP K hK
                          obtain ⟨_, fg, rfl⟩ := (hF' 8 rfl).1 77 _ rfl rfl
                          refine if_unwanted (by rfl) (yield_of (by rfl) fg) ?_
                          exact hK _ w' (fun h => by cases h) (keep_same hS) rfl
                        · intro a w' hS hO hF' hP K hK
                          obtain ⟨_, fg, rfl⟩ := (hF' 8 rfl).1 77 _ rfl rfl
                          refine if_unwanted (by rfl) (yield_of (by rfl) fg) ?_
                          exact hK _ w' (fun h => by cases h) (keep_same hS) rfl
                        · intro a w' hS hO hF' hP K hK
                          obtain ⟨_, fg, rfl⟩ := (hF' 8 rfl).1 77 _ rfl rfl
                          refine if_unwanted (by rfl) (yield_of (by rfl) fg) ?_
                          exact hK _ w' (fun h => by cases h) (keep_same hS) rfl
                        · intro a w' hS hO hF' hP K hK
                          obtain ⟨_, f0, rfl⟩ := (hF' 8 rfl).1 77 _ rfl rfl
                          refine if_ok (by rfl) ?_
                          refine wp_pick_or _ _ _ rfl (ev f0) rfl ?_
                          exact hK _ w' (fun h => by cases h) (keep_same hS) rfl
                      · intro vs u hl hS hV
                        match vs, hl, hV with
                        | [v0, v1, v2, v3, v4, v5, v6, v7, v8, v9, v10, v11, v12, v13, v14, v15, v16, v17, v18, v19, v20, v21], _, hV =>
                          obtain rfl := hV 0 _ rfl
                          obtain rfl := hV 1 _ rfl
                          obtain rfl := hV 2 _ rfl
                          obtain rfl := hV 3 _ rfl
                          obtain rfl := hV 4 _ rfl
                          obtain rfl := hV 5 _ rfl
                          obtain rfl := hV 6 _ rfl
                          obtain rfl := hV 7 _ rfl
                          obtain rfl := hV 8 _ rfl
                          obtain rfl := hV 9 _ rfl
                          obtain rfl := hV 10 _ rfl
                          obtain rfl := hV 11 _ rfl
                          obtain rfl := hV 12 _ rfl
                          obtain rfl := hV 13 _ rfl
                          obtain rfl := hV 14 _ rfl
                          obtain rfl := hV 15 _ rfl
                          obtain rfl := hV 16 _ rfl
                          obtain rfl := hV 17 _ rfl
                          obtain rfl := hV 18 _ rfl
                          obtain rfl := hV 19 _ rfl
                          obtain rfl := hV 20 _ rfl
                          obtain rfl := hV 21 _ rfl
                          simp only [puts, Act.put, List.setIfInBounds_toArray, List.set_cons_zero, List.set_cons_succ]
                          obtain ⟨O6, O7, O8, O9, O10, O11, r0, r1, r2, r3, r4, r5, OR, O16, TT, BB⟩ := hS
                          clear hV
                          replace BB := Lib.hid BB
                          replace OR : Own u gT 39 twoRow := OR
                          clear O16
                          go_wp2
                          go_roundw
                          case rel => exact ⟨i + 1, by omega, by go_num, Lib.hid OR, Lib.hid O6, Lib.hid O7, Lib.hid O8, Lib.hid O9, Lib.hid O10, Lib.hid O11, Lib.hid r0, Lib.hid r1, Lib.hid r2, Lib.hid r3, Lib.hid r4, Lib.hid r5, Lib.hid TT, BB⟩
                          case measure => simp [intOf]; omega
                · obtain rfl : i = 24 := by omega
                  clear OR
                  go_wp2
                  replace R1 := R1.out
                  replace R2 := R2.out
                  replace R3 := R3.out
                  refine region_z (by kernel_rfl) (fun u => owns w.heap.size #[.slice A0 n0 c0, .bool s0] u ∧ (owns (w.heap.size + 1) #[.slice A1 n1 c1, .bool s1] u ∧ (owns (w.heap.size + 1 + 1) #[.slice A2 n2 c2, .bool s2] u ∧ (owns (w.heap.size + 1 + 1 + 1) #[.slice A3 n3 c3, .bool s3] u ∧ (owns (w.heap.size + 1 + 1 + 1 + 1) #[.slice A4 n4 c4, .bool s4] u ∧ (owns (w.heap.size + 1 + 1 + 1 + 1 + 1) #[.slice A5 n5 c5, .bool s5] u ∧ (rds A0 n0 l0 u ∧ (rds A1 n1 l1 u ∧ (rds A2 n2 l2 u ∧ (rds A3 n3 l3 u ∧ (rds A4 n4 l4 u ∧ (rds A5 n5 l5 u ∧ (tbs u ∧ blw w u))))))))))))) [] (mnVs A0 n0 c0 s0 l0 A1 n1 c1 s1 l1 A2 n2 c2 s2 l2 A3 n3 c3 s3 l3 A4 n4 c4 s4 l4 A5 n5 c5 s5 l5) mnDs mnDp (by kernel_rfl) (by kernel_rfl) rfl (by kernel_rfl) (by kernel_rfl) (by kernel_rfl) ⟨O6.drew, O7.drew, O8.drew, O9.drew, O10.drew, O11.drew, r0.drew, r1.drew, r2.drew, r3.drew, r4.drew, r5.drew, TT.drew, below_drew BB.out⟩ (fun _ h => by cases h) ?_ ?_
                  · refine ⟨?_, ?_, ?_, ?_, ?_, ?_, ?_, ?_, ?_, ?_, ?_, ?_, ?_, ?_, ?_, ?_, ?_, trivial⟩
                    · intro a w' hS hO hF' hP K hK
                      have ha := hO 7 (by rfl)
                      refine if_ok (by rfl) ?_
                      refine wp_load_row 24 (.tmp 7) rfl (w.heap.size + 1) (ev ha) _ _ (0, 0) _ hS.2.1 Tryz.underlying24 rfl (by kernel_rfl) ?_
                      exact hK _ w' (fun h => by cases h) (keep_same hS) rfl
                    · intro a w' hS hO hF' hP K hK
                      obtain ⟨_, f0, rfl⟩ := (hF' 0 rfl).1 92 _ rfl rfl
                      refine if_ok (by rfl) ?_
                      refine wp_calls rfl (enters_of Tryz.func35 (by kernel_rfl) rfl) (args := #[(.agg #[.slice A1 n1 c1, .bool s1])]) (by simp [Act.eval, f0]) ?_
                      obtain ⟨O6, O7, O8, O9, O10, O11, r0, r1, r2, r3, r4, r5, TT, BB⟩ := id hS
                      apply Calls.mono
                      (with_reducible apply truth_any); (repeat (first | assumption | (with_reducible (apply Nb.rd; assumption)) | (with_reducible (apply Rb.at_later; assumption)) | (with_reducible (apply Tabs.at_later; assumption)) | (with_reducible apply Rb.alloc) | (with_reducible apply Tabs.alloc) | (with_reducible apply Rb.drew) | (with_reducible apply Tabs.drew) | (show I64 _; unfold I64; omega) | omega))
                      rintro e w2 ⟨rfl, hb⟩
                      exact ⟨_, rfl, hK _ w2 (fun h => by cases h) (keep_below hb hS) rfl⟩
                    · intro a w' hS hO hF' hP K hK
                      have ha := hO 10 (by rfl)
                      refine if_ok (by rfl) ?_
                      refine wp_load_row 24 (.tmp 10) rfl (w.heap.size + 1 + 1 + 1 + 1) (ev ha) _ _ (0, 0) _ hS.2.2.2.2.1 Tryz.underlying24 rfl (by kernel_rfl) ?_
                      exact hK _ w' (fun h => by cases h) (keep_same hS) rfl
                    · intro a w' hS hO hF' hP K hK
                      obtain ⟨_, f0, rfl⟩ := (hF' 2 rfl).1 94 _ rfl rfl
                      refine if_ok (by rfl) ?_
                      refine wp_calls rfl (enters_of Tryz.func35 (by kernel_rfl) rfl) (args := #[(.agg #[.slice A4 n4 c4, .bool s4])]) (by simp [Act.eval, f0]) ?_
                      obtain ⟨O6, O7, O8, O9, O10, O11, r0, r1, r2, r3, r4, r5, TT, BB⟩ := id hS
                      apply Calls.mono
                      (with_reducible apply truth_any); (repeat (first | assumption | (with_reducible (apply Nb.rd; assumption)) | (with_reducible (apply Rb.at_later; assumption)) | (with_reducible (apply Tabs.at_later; assumption)) | (with_reducible apply Rb.alloc) | (with_reducible apply Tabs.alloc) | (with_reducible apply Rb.drew) | (with_reducible apply Tabs.drew) | (show I64 _; unfold I64; omega) | omega))
                      rintro e w2 ⟨rfl, hb⟩
                      exact ⟨_, rfl, hK _ w2 (fun h => by cases h) (keep_below hb hS) rfl⟩
                    · intro a w' hS hO hF' hP K hK
                      obtain ⟨_, f0, rfl⟩ := (hF' 1 rfl).1 93 _ rfl rfl
                      obtain ⟨_, f1, rfl⟩ := (hF' 3 rfl).1 95 _ rfl rfl
                      refine if_ok (by rfl) ?_
                      refine wp_calls rfl (enters_of Tryz.func85 (by kernel_rfl) rfl) (args := #[(.int .u8 (truth (⟨l1, s1⟩ : V))), (.int .u8 (truth (⟨l4, s4⟩ : V)))]) (by simp [Act.eval, f0, f1]) ?_
                      obtain ⟨O6, O7, O8, O9, O10, O11, r0, r1, r2, r3, r4, r5, TT, BB⟩ := id hS
                      apply Calls.mono
                      with_reducible exact leq_t _ (truth_mo R2)
                      rintro e w2 ⟨rfl, hb⟩
                      exact ⟨_, rfl, hK _ w2 (fun h => by cases h) (keep_below hb hS) rfl⟩
                    · intro a w' hS hO hF' hP K hK
                      obtain ⟨_, f0, rfl⟩ := (hF' 4 rfl).1 96 _ rfl rfl
                      refine if_ok (by rfl) ?_
                      unfold Oper.wp execOp
                      simp only [Sem.run_pure, ev f0]
                      exact hK _ w' (fun h => by cases h) (keep_same hS) rfl
                    · intro a w' hS hO hF' hP K hK
                      obtain ⟨_, fg, rfl⟩ := (hF' 5 rfl).1 97 _ rfl rfl
                      have ha := hO 6 (by rfl)
                      refine if_wanted (by rfl) (yield_of (by rfl) fg) ?_
                      refine wp_load_row 24 (.tmp 6) rfl w.heap.size (ev ha) _ _ (0, 0) _ hS.1 Tryz.underlying24 rfl (by kernel_rfl) ?_
                      exact hK _ w' (fun h => by cases h) (keep_same hS) rfl
                    · intro a w' hS hO hF' hP K hK
                      obtain ⟨_, fg, rfl⟩ := (hF' 5 rfl).1 97 _ rfl rfl
                      have ha := hO 7 (by rfl)
                      refine if_wanted (by rfl) (yield_of (by rfl) fg) ?_
                      refine wp_load_row 24 (.tmp 7) rfl (w.heap.size + 1) (ev ha) _ _ (0, 0) _ hS.2.1 Tryz.underlying24 rfl (by kernel_rfl) ?_
                      exact hK _ w' (fun h => by cases h) (keep_same hS) rfl
                    · intro a w' hS hO hF' hP K hK
                      obtain ⟨_, fg, rfl⟩ := (hF' 5 rfl).1 97 _ rfl rfl
                      have ha := hO 8 (by rfl)
                      refine if_wanted (by rfl) (yield_of (by rfl) fg) ?_
                      refine wp_load_row 24 (.tmp 8) rfl (w.heap.size + 1 + 1) (ev ha) _ _ (0, 0) _ hS.2.2.1 Tryz.underlying24 rfl (by kernel_rfl) ?_
                      exact hK _ w' (fun h => by cases h) (keep_same hS) rfl
                    · intro a w' hS hO hF' hP K hK
                      obtain ⟨_, fg, rfl⟩ := (hF' 5 rfl).1 97 _ rfl rfl
                      obtain ⟨_, f0, rfl⟩ := (hF' 6 rfl).1 98 _ rfl rfl
                      obtain ⟨_, f1, rfl⟩ := (hF' 7 rfl).1 99 _ rfl rfl
                      obtain ⟨_, f2, rfl⟩ := (hF' 8 rfl).1 100 _ rfl rfl
                      refine if_wanted (by rfl) (yield_of (by rfl) fg) ?_
                      refine wp_calls rfl (enters_of Tryz.func51 (by kernel_rfl) rfl) (args := #[(.agg #[.slice A0 n0 c0, .bool s0]), (.agg #[.slice A1 n1 c1, .bool s1]), (.agg #[.slice A2 n2 c2, .bool s2])]) (by simp [Act.eval, f0, f1, f2]) ?_
                      obtain ⟨O6, O7, O8, O9, O10, O11, r0, r1, r2, r3, r4, r5, TT, BB⟩ := id hS
                      apply Calls.mono
                      (with_reducible apply cond_any_w); (repeat (first | assumption | (with_reducible (apply Nb.rd; assumption)) | (with_reducible (apply Rb.at_later; assumption)) | (with_reducible (apply Tabs.at_later; assumption)) | (with_reducible apply Rb.alloc) | (with_reducible apply Tabs.alloc) | (with_reducible apply Rb.drew) | (with_reducible apply Tabs.drew) | (show I64 _; unfold I64; omega) | omega))
                      rintro e w2 ⟨A, n, c, rfl, hc, hn, hv, hb⟩
                      exact ⟨_, rfl, hK _ w2 (fun h => by cases h) (keep_below hb hS) ⟨A, n, c, rfl, hc, hn, hv.rd⟩⟩
                    · intro a w' hS hO hF' hP K hK
                      obtain ⟨_, fg, rfl⟩ := (hF' 5 rfl).1 97 _ rfl rfl
                      have ha := hO 9 (by rfl)
                      refine if_wanted (by rfl) (yield_of (by rfl) fg) ?_
                      refine wp_load_row 24 (.tmp 9) rfl (w.heap.size + 1 + 1 + 1) (ev ha) _ _ (0, 0) _ hS.2.2.2.1 Tryz.underlying24 rfl (by kernel_rfl) ?_
                      exact hK _ w' (fun h => by cases h) (keep_same hS) rfl
                    · intro a w' hS hO hF' hP K hK
                      obtain ⟨_, fg, rfl⟩ := (hF' 5 rfl).1 97 _ rfl rfl
                      have ha := hO 10 (by rfl)
                      refine if_wanted (by rfl) (yield_of (by rfl) fg) ?_
                      refine wp_load_row 24 (.tmp 10) rfl (w.heap.size + 1 + 1 + 1 + 1) (ev ha) _ _ (0, 0) _ hS.2.2.2.2.1 Tryz.underlying24 rfl (by kernel_rfl) ?_
                      exact hK _ w' (fun h => by cases h) (keep_same hS) rfl
                    · intro a w' hS hO hF' hP K hK
                      obtain ⟨_, fg, rfl⟩ := (hF' 5 rfl).1 97 _ rfl rfl
                      have ha := hO 11 (by rfl)
                      refine if_wanted (by rfl) (yield_of (by rfl) fg) ?_
                      refine wp_load_row 24 (.tmp 11) rfl (w.heap.size + 1 + 1 + 1 + 1 + 1) (ev ha) _ _ (0, 0) _ hS.2.2.2.2.2.1 Tryz.underlying24 rfl (by kernel_rfl) ?_
                      exact hK _ w' (fun h => by cases h) (keep_same hS) rfl
                    · intro a w' hS hO hF' hP K hK
                      obtain ⟨_, fg, rfl⟩ := (hF' 5 rfl).1 97 _ rfl rfl
                      obtain ⟨_, f0, rfl⟩ := (hF' 10 rfl).1 102 _ rfl rfl
                      obtain ⟨_, f1, rfl⟩ := (hF' 11 rfl).1 103 _ rfl rfl
                      obtain ⟨_, f2, rfl⟩ := (hF' 12 rfl).1 104 _ rfl rfl
                      refine if_wanted (by rfl) (yield_of (by rfl) fg) ?_
                      refine wp_calls rfl (enters_of Tryz.func51 (by kernel_rfl) rfl) (args := #[(.agg #[.slice A3 n3 c3, .bool s3]), (.agg #[.slice A4 n4 c4, .bool s4]), (.agg #[.slice A5 n5 c5, .bool s5])]) (by simp [Act.eval, f0, f1, f2]) ?_
                      obtain ⟨O6, O7, O8, O9, O10, O11, r0, r1, r2, r3, r4, r5, TT, BB⟩ := id hS
                      apply Calls.mono
                      (with_reducible apply cond_any_w); (repeat (first | assumption | (with_reducible (apply Nb.rd; assumption)) | (with_reducible (apply Rb.at_later; assumption)) | (with_reducible (apply Tabs.at_later; assumption)) | (with_reducible apply Rb.alloc) | (with_reducible apply Tabs.alloc) | (with_reducible apply Rb.drew) | (with_reducible apply Tabs.drew) | (show I64 _; unfold I64; omega) | omega))
                      rintro e w2 ⟨A, n, c, rfl, hc, hn, hv, hb⟩
                      exact ⟨_, rfl, hK _ w2 (fun h => by cases h) (keep_below hb hS) ⟨A, n, c, rfl, hc, hn, hv.rd⟩⟩
                    · intro a w' hS hO hF' hP K hK
                      obtain ⟨_, fg, rfl⟩ := (hF' 5 rfl).1 97 _ rfl rfl
                      obtain ⟨_, f0, Ay0, ny0, cy0, rfl, hc0, hn0, hr0⟩ := (hF' 9 rfl).1 101 _ rfl rfl
                      obtain ⟨_, f1, Ay1, ny1, cy1, rfl, hc1, hn1, hr1⟩ := (hF' 13 rfl).1 105 _ rfl rfl
                      refine if_wanted (by rfl) (yield_of (by rfl) fg) ?_
                      refine wp_calls rfl (enters_of Tryz.func84 (by kernel_rfl) rfl) (args := #[(.agg #[.slice Ay0 ny0 cy0, .bool (condV (⟨l0, s0⟩ : V) (⟨l1, s1⟩ : V) (⟨l2, s2⟩ : V)).s]), (.agg #[.slice Ay1 ny1 cy1, .bool (condV (⟨l3, s3⟩ : V) (⟨l4, s4⟩ : V) (⟨l5, s5⟩ : V)).s])]) (by simp [Act.eval, f0, f1]) ?_
                      obtain ⟨O6, O7, O8, O9, O10, O11, r0, r1, r2, r3, r4, r5, TT, BB⟩ := id hS
                      apply Calls.mono
                      (with_reducible apply below_t); (repeat (first | assumption | (with_reducible (apply Nb.rd; assumption)) | (with_reducible (apply Rb.at_later; assumption)) | (with_reducible (apply Tabs.at_later; assumption)) | (with_reducible apply Rb.alloc) | (with_reducible apply Tabs.alloc) | (with_reducible apply Rb.drew) | (with_reducible apply Tabs.drew) | (show I64 _; unfold I64; omega) | omega)); exact mo_cond R1 R2 R3
                      rintro e w2 ⟨rfl, hb⟩
                      exact ⟨_, rfl, hK _ w2 (fun h => by cases h) (keep_below hb hS) rfl⟩
                    · intro a w' hS hO hF' hP K hK
                      obtain ⟨_, f0, rfl⟩ := (hF' 5 rfl).1 97 _ rfl rfl
                      obtain ⟨_, f1, rfl⟩ := (hF' 14 rfl).1 106 _ rfl rfl
                      refine if_ok (by rfl) ?_
                      refine wp_pick_and _ _ _ rfl (ev f0) (ev f1) ?_
                      exact hK _ w' (fun h => by cases h) (keep_same hS) rfl
                    · intro a w' hS hO hF' hP K hK
                      obtain ⟨_, f0, rfl⟩ := (hF' 15 rfl).1 107 _ rfl rfl
                      refine if_ok (by rfl) ?_
                      unfold Oper.wp execOp
                      simp only [Sem.run_pure, ev f0]
                      exact hK _ w' (fun h => by cases h) (keep_same hS) rfl
                  · intro a u hd hz hS hV
                    obtain ⟨O6, O7, O8, O9, O10, O11, r0, r1, r2, r3, r4, r5, TT, BB⟩ := hS
                    obtain ⟨v0, f0, hv0⟩ := hV 16 12 _ rfl rfl
                    obtain rfl : v0 = .bool true := hv0
                    clear hV
                    go_wp2
                    refine bodyPost_ret (results_tmp rfl _ _ _) (hd.trans rfl) ?_
                    exact ⟨by rw [Array.getD_eq_getD_getElem?, f0]; rfl, BB⟩
  · skip
    have HL := Lib.hid (long6_b _ A0 A1 A2 A3 A4 A5 n0 c0 n1 c1 n2 c2 n3 c3 n4 c4 n5 c5 s0 s1 s2 s3 s4 s5 hl)
    clear hl
    have q60 := O6.cell 0
    have q61 := O6.cell 1
    have q70 := O7.cell 0
    have q71 := O7.cell 1
    have q80 := O8.cell 0
    have q81 := O8.cell 1
    have q90 := O9.cell 0
    have q91 := O9.cell 1
    have q100 := O10.cell 0
    have q101 := O10.cell 1
    have q110 := O11.cell 0
    have q111 := O11.cell 1
    go_enter Tryz.func8, Tryz.ntmps8
    go_wp2_with (first | (go_at_call 12; refine (HL.out _ _ (by simp)).mono ?_; rintro e wn ⟨rfl, rfl⟩; replace O6 := O6.alloc (.cells #[.slice A0 n0 c0, .bool s0, .slice A1 n1 c1, .bool s1, .slice A2 n2 c2, .bool s2, .slice A3 n3 c3, .bool s3, .slice A4 n4 c4, .bool s4, .slice A5 n5 c5, .bool s5] 24); replace O7 := O7.alloc (.cells #[.slice A0 n0 c0, .bool s0, .slice A1 n1 c1, .bool s1, .slice A2 n2 c2, .bool s2, .slice A3 n3 c3, .bool s3, .slice A4 n4 c4, .bool s4, .slice A5 n5 c5, .bool s5] 24); replace O8 := O8.alloc (.cells #[.slice A0 n0 c0, .bool s0, .slice A1 n1 c1, .bool s1, .slice A2 n2 c2, .bool s2, .slice A3 n3 c3, .bool s3, .slice A4 n4 c4, .bool s4, .slice A5 n5 c5, .bool s5] 24); replace O9 := O9.alloc (.cells #[.slice A0 n0 c0, .bool s0, .slice A1 n1 c1, .bool s1, .slice A2 n2 c2, .bool s2, .slice A3 n3 c3, .bool s3, .slice A4 n4 c4, .bool s4, .slice A5 n5 c5, .bool s5] 24); replace O10 := O10.alloc (.cells #[.slice A0 n0 c0, .bool s0, .slice A1 n1 c1, .bool s1, .slice A2 n2 c2, .bool s2, .slice A3 n3 c3, .bool s3, .slice A4 n4 c4, .bool s4, .slice A5 n5 c5, .bool s5] 24); replace O11 := O11.alloc (.cells #[.slice A0 n0 c0, .bool s0, .slice A1 n1 c1, .bool s1, .slice A2 n2 c2, .bool s2, .slice A3 n3 c3, .bool s3, .slice A4 n4 c4, .bool s4, .slice A5 n5 c5, .bool s5] 24); replace r0 := r0.alloc (.cells #[.slice A0 n0 c0, .bool s0, .slice A1 n1 c1, .bool s1, .slice A2 n2 c2, .bool s2, .slice A3 n3 c3, .bool s3, .slice A4 n4 c4, .bool s4, .slice A5 n5 c5, .bool s5] 24); replace r1 := r1.alloc (.cells #[.slice A0 n0 c0, .bool s0, .slice A1 n1 c1, .bool s1, .slice A2 n2 c2, .bool s2, .slice A3 n3 c3, .bool s3, .slice A4 n4 c4, .bool s4, .slice A5 n5 c5, .bool s5] 24); replace r2 := r2.alloc (.cells #[.slice A0 n0 c0, .bool s0, .slice A1 n1 c1, .bool s1, .slice A2 n2 c2, .bool s2, .slice A3 n3 c3, .bool s3, .slice A4 n4 c4, .bool s4, .slice A5 n5 c5, .bool s5] 24); replace r3 := r3.alloc (.cells #[.slice A0 n0 c0, .bool s0, .slice A1 n1 c1, .bool s1, .slice A2 n2 c2, .bool s2, .slice A3 n3 c3, .bool s3, .slice A4 n4 c4, .bool s4, .slice A5 n5 c5, .bool s5] 24); replace r4 := r4.alloc (.cells #[.slice A0 n0 c0, .bool s0, .slice A1 n1 c1, .bool s1, .slice A2 n2 c2, .bool s2, .slice A3 n3 c3, .bool s3, .slice A4 n4 c4, .bool s4, .slice A5 n5 c5, .bool s5] 24); replace r5 := r5.alloc (.cells #[.slice A0 n0 c0, .bool s0, .slice A1 n1 c1, .bool s1, .slice A2 n2 c2, .bool s2, .slice A3 n3 c3, .bool s3, .slice A4 n4 c4, .bool s4, .slice A5 n5 c5, .bool s5] 24); replace TT := TT.alloc (.cells #[.slice A0 n0 c0, .bool s0, .slice A1 n1 c1, .bool s1, .slice A2 n2 c2, .bool s2, .slice A3 n3 c3, .bool s3, .slice A4 n4 c4, .bool s4, .slice A5 n5 c5, .bool s5] 24); replace BB := Lib.hid (below_new BB.out (.cells #[.slice A0 n0 c0, .bool s0, .slice A1 n1 c1, .bool s1, .slice A2 n2 c2, .bool s2, .slice A3 n3 c3, .bool s3, .slice A4 n4 c4, .bool s4, .slice A5 n5 c5, .bool s5] 24))) | (go_at_call 13; refine (awake_any _ TT).mono ?_; rintro e wn ⟨rfl, hb⟩; replace BB := Lib.hid (below_step BB.out hb)))
    go_ret
    exact ⟨rfl, BB.out⟩
end Go.Proofs.YtognpmggfplekaaGreatDoor
