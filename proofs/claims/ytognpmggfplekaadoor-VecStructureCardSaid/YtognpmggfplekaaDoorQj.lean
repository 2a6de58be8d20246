/-
  Contracts of the program's arithmetic. No conditions.
  Contracts of the program's sums, products, quotients. No conditions.
  Contracts of the program's conditional operator. No conditions.
-/
import Derived.Test.YtognpmggfplekaaDoorQi
import Derived.Test.YtognpmggfplekaaDoorQf
import Derived.WalkSpells
import Derived.Laws.EntriesVeiled

namespace Go.Proofs.YtognpmggfplekaaDoor
open Go Go.RowKit

/-- What a function on numbers leaves that may have no result. -/
def ArP (W : World) (N : Nat) (r : Option Nat) (e : Ending) (w' : World) : Prop := match r with
  | some z => B.RetN W N z e w'
  | none => e = .returned (.slice none 0 0) ∧ Below W.heap.size W w'
def Fa (w : World) (g : Nat) (lb : Array Value) (F : Nat → Nat → Nat → Option Nat) : Prop := ∀ (W : World) (N : Nat) (X Y : Option Addr) (cx cy x y : Nat), Below w.heap.size w W → 0 < N → N ≤ 128 → B.Rd W X N x → B.Rd W Y N y →
  Calls Tryd.prog g (#[.slice X N cx, .slice Y N cy] ++ lb) W (ArP W N (F N x y))
set_option maxRecDepth 100000 in
theorem Fa.step {w u : World} {g : Nat} {lb : Array Value} {F : Nat → Nat → Nat → Option Nat} (h : Fa w g lb F) (hb : Below w.heap.size w u) : Fa u g lb F := fun W N X Y cx cy x y hW => h W N X Y cx cy x y (below_step hb hW)
set_option maxRecDepth 100000 in
theorem neq_nil (W : World) (a : Option Addr) (n c : Nat) : (binOp .neq 60 (.slice a n c) (.slice none 0 0)).run Tryd.prog W = .ok (.bool (!a.isNone)) W := run_neq_slice_nil_any W 60 4 a n c 0 0 Tryd.underlying60
set_option maxRecDepth 100000 in
set_option maxHeartbeats 8000000 in
theorem arithmetic_v (g : Nat) (lb : Array Value) (F : Nat → Nat → Nat → Option Nat) (A Y : Option Addr) (n m c d : Nat) (s t : Bool) (l k : List Int) (w : World) (h : Rb w A n l) (h' : Rb w Y m k) (eg : Ent g) (hf : Fa w g lb F) :
    Calls Tryd.prog 62 #[.agg #[.slice A n c, .bool s], .agg #[.slice Y m d, .bool t], .func (.func g) #[] lb] w (RetV w (arV F ⟨l, s⟩ ⟨k, t⟩)) := by
  unfold Ent at eg
  have O0 := (((Own.at1 w 24 #[.slice A n c, .bool s] (g := w.heap.size) (by simp)).alloc (.cells #[.slice Y m d, .bool t] 24)).alloc (.cells #[.slice none 0 0, .bool false] 24))
  have O1 := ((Own.at1 (w.alloc (.cells #[.slice A n c, .bool s] 24)) 24 #[.slice Y m d, .bool t] (g := w.heap.size + 1) (by simp)).alloc (.cells #[.slice none 0 0, .bool false] 24))
  have O2 := (Own.at1 ((w.alloc (.cells #[.slice A n c, .bool s] 24)).alloc (.cells #[.slice Y m d, .bool t] 24)) 24 #[.slice none 0 0, .bool false] (g := w.heap.size + 1 + 1) (by simp))
  have BB := (below_new (below_new (below_new (Below.refl w.heap.size w) (.cells #[.slice A n c, .bool s] 24)) (.cells #[.slice Y m d, .bool t] 24)) (.cells #[.slice none 0 0, .bool false] 24))
  have HB := Lib.hid (balance_q A Y n m c d s t l k _ (h.step BB) (h'.step BB))
  have hbd := balN_bd ⟨l, s⟩ ⟨k, t⟩
  have okx := balL_ok ⟨l, s⟩ ⟨k, t⟩
  have oky := balR_ok ⟨l, s⟩ ⟨k, t⟩
  unfold arV
  generalize (balL ⟨l, s⟩ ⟨k, t⟩).l = lx at *
  generalize (balR ⟨l, s⟩ ⟨k, t⟩).l = ly at *
  generalize balN ⟨l, s⟩ ⟨k, t⟩ = N at *
  generalize balS ⟨l, s⟩ ⟨k, t⟩ = sy at *
  clear h h'
  have HF := Lib.hid hf
  clear hf
  have kx := kn_ok (s := sy) okx
  have ky := kn_ok (s := sy) oky
  have HX := Lib.hid (fun (u : World) (A1 : Option Addr) (c1 : Nat) (r : Rb u A1 N lx) => kx ▸ known_v A1 N c1 sy lx u r)
  have HY := Lib.hid (fun (u : World) (A1 : Option Addr) (c1 : Nat) (r : Rb u A1 N ly) => ky ▸ known_v A1 N c1 sy ly u r)
  clear kx ky okx oky
  cases hx : knL lx
  · rw [hx] at HX
    simp only [Bool.false_and, Bool.false_eq_true, if_false]
    clear hx HY
    go_enter Tryd.func62, Tryd.ntmps62
    go_wp2_with (first
      | (go_at_call 79; refine HB.out.mono ?_; rintro e w1 ⟨A1, c1, A2, c2, rfl, n1, n2, hb1⟩; replace BB := below_step BB hb1; replace O0 := O0.step hb1; replace O1 := O1.step hb1; have qO00 := O0.cell 0; have qO01 := O0.cell 1; have fO00 := O0.free 0; have fO01 := O0.free 1; have qO10 := O1.cell 0; have qO11 := O1.cell 1; have fO10 := O1.free 0; have fO11 := O1.free 1; have C1 := below_set2 (below_set2 BB (Nat.le_refl _) (.slice A1 N c1) (.bool sy)) (Nat.le_succ _) (.slice A2 N c2) (.bool sy); have U0 := (O0.put2 (.slice A1 N c1) (.bool sy)).far2 (Nat.ne_of_lt (Nat.lt_succ_self _)) (.slice A2 N c2) (.bool sy); have U1 := (O1.far2 (Nat.succ_ne_self _) (.slice A1 N c1) (.bool sy)).put2 (.slice A2 N c2) (.bool sy); have r1 := (n1.rd.set2 O0 (.slice A1 N c1) (.bool sy)).set2 (O1.far2 (Nat.succ_ne_self _) (.slice A1 N c1) (.bool sy)) (.slice A2 N c2) (.bool sy); have r2 := (n2.rd.set2 O0 (.slice A1 N c1) (.bool sy)).set2 (O1.far2 (Nat.succ_ne_self _) (.slice A1 N c1) (.bool sy)) (.slice A2 N c2) (.bool sy); have qU00 := U0.cell 0; have qU01 := U0.cell 1; have qU10 := U1.cell 0; have qU11 := U1.cell 1; replace O2 := O2.step hb1; have U2 := (O2.far2 (g := w.heap.size) (by omega) (.slice A1 N c1) (.bool sy)).far2 (g := w.heap.size + 1) (by omega) (.slice A2 N c2) (.bool sy))
      | (go_at_call 21; refine (HX.out _ A1 c1 r1).mono ?_; rintro e w2 ⟨rfl, hb2⟩; replace C1 := below_step C1 hb2; replace U2 := U2.step hb2; replace U0 := U0.step hb2; have v0 := U0.cell 0; have v1 := U0.cell 1)
      | (go_at_call 64; refine (unknown_any N sy _ (by omega)).mono ?_; rintro e w9 ⟨A9, c9, rfl, n9, hb9⟩; simp only [allV, tab_len] at n9 ⊢; have L1 := U2.lt; have W2 := U2.step hb9; have qW20 := W2.cell 0; have qW21 := W2.cell 1; have fW20 := W2.free 0; have fW21 := W2.free 1))
    exact ret_vec Tryd.results62 rfl rfl (W2.put2 _ _) (RetV.mk' (v := allV 2 N sy) ((n9.far2 L1 _ _).mono C1.size) (below_set2 (below_step C1 hb9) (by omega) _ _))
  · rw [hx] at HX
    cases hy : knL ly
    · rw [hy] at HY
      simp only [Bool.and_false, Bool.false_eq_true, if_false]
      clear hx hy
      go_enter Tryd.func62, Tryd.ntmps62
      go_wp2_with (first
        | (go_at_call 79; refine HB.out.mono ?_; rintro e w1 ⟨A1, c1, A2, c2, rfl, n1, n2, hb1⟩; replace BB := below_step BB hb1; replace O0 := O0.step hb1; replace O1 := O1.step hb1; have qO00 := O0.cell 0; have qO01 := O0.cell 1; have fO00 := O0.free 0; have fO01 := O0.free 1; have qO10 := O1.cell 0; have qO11 := O1.cell 1; have fO10 := O1.free 0; have fO11 := O1.free 1; have C1 := below_set2 (below_set2 BB (Nat.le_refl _) (.slice A1 N c1) (.bool sy)) (Nat.le_succ _) (.slice A2 N c2) (.bool sy); have U0 := (O0.put2 (.slice A1 N c1) (.bool sy)).far2 (Nat.ne_of_lt (Nat.lt_succ_self _)) (.slice A2 N c2) (.bool sy); have U1 := (O1.far2 (Nat.succ_ne_self _) (.slice A1 N c1) (.bool sy)).put2 (.slice A2 N c2) (.bool sy); have r1 := (n1.rd.set2 O0 (.slice A1 N c1) (.bool sy)).set2 (O1.far2 (Nat.succ_ne_self _) (.slice A1 N c1) (.bool sy)) (.slice A2 N c2) (.bool sy); have r2 := (n2.rd.set2 O0 (.slice A1 N c1) (.bool sy)).set2 (O1.far2 (Nat.succ_ne_self _) (.slice A1 N c1) (.bool sy)) (.slice A2 N c2) (.bool sy); have qU00 := U0.cell 0; have qU01 := U0.cell 1; have qU10 := U1.cell 0; have qU11 := U1.cell 1; replace O2 := O2.step hb1; have U2 := (O2.far2 (g := w.heap.size) (by omega) (.slice A1 N c1) (.bool sy)).far2 (g := w.heap.size + 1) (by omega) (.slice A2 N c2) (.bool sy))
        | (go_at_call 21; refine (HX.out _ A1 c1 r1).mono ?_; rintro e w2 ⟨rfl, hb2⟩; clear HX; replace C1 := below_step C1 hb2; replace U2 := U2.step hb2; replace U1 := U1.step hb2; replace U0 := U0.step hb2; replace r2 := r2.step hb2; have v0 := U1.cell 0; have v1 := U1.cell 1)
        | (go_at_call 21; refine (HY.out _ A2 c2 r2).mono ?_; rintro e w22 ⟨rfl, hb22⟩; replace C1 := below_step C1 hb22; replace U2 := U2.step hb22; replace U0 := U0.step hb22; have v2 := U0.cell 0; have v3 := U0.cell 1)
        | (go_at_call 64; refine (unknown_any N sy _ (by omega)).mono ?_; rintro e w9 ⟨A9, c9, rfl, n9, hb9⟩; simp only [allV, tab_len] at n9 ⊢; have L1 := U2.lt; have W2 := U2.step hb9; have qW20 := W2.cell 0; have qW21 := W2.cell 1; have fW20 := W2.free 0; have fW21 := W2.free 1))
      exact ret_vec Tryd.results62 rfl rfl (W2.put2 _ _) (RetV.mk' (v := allV 2 N sy) ((n9.far2 L1 _ _).mono C1.size) (below_set2 (below_step C1 hb9) (by omega) _ _))
    · rw [hy] at HY
      simp only [Bool.and_true, if_true]
      clear hx hy
      have hnz := neq_nil
      cases hr : F N (num lx) (num ly)
      case none =>
        simp only
        go_enter Tryd.func62, Tryd.ntmps62
        go_wp2_with (first
          | (go_at_call 79; refine HB.out.mono ?_; rintro e w1 ⟨A1, c1, A2, c2, rfl, n1, n2, hb1⟩; replace BB := below_step BB hb1; replace O0 := O0.step hb1; replace O1 := O1.step hb1; have qO00 := O0.cell 0; have qO01 := O0.cell 1; have fO00 := O0.free 0; have fO01 := O0.free 1; have qO10 := O1.cell 0; have qO11 := O1.cell 1; have fO10 := O1.free 0; have fO11 := O1.free 1; have C1 := below_set2 (below_set2 BB (Nat.le_refl _) (.slice A1 N c1) (.bool sy)) (Nat.le_succ _) (.slice A2 N c2) (.bool sy); have U0 := (O0.put2 (.slice A1 N c1) (.bool sy)).far2 (Nat.ne_of_lt (Nat.lt_succ_self _)) (.slice A2 N c2) (.bool sy); have U1 := (O1.far2 (Nat.succ_ne_self _) (.slice A1 N c1) (.bool sy)).put2 (.slice A2 N c2) (.bool sy); have r1 := (n1.rd.set2 O0 (.slice A1 N c1) (.bool sy)).set2 (O1.far2 (Nat.succ_ne_self _) (.slice A1 N c1) (.bool sy)) (.slice A2 N c2) (.bool sy); have r2 := (n2.rd.set2 O0 (.slice A1 N c1) (.bool sy)).set2 (O1.far2 (Nat.succ_ne_self _) (.slice A1 N c1) (.bool sy)) (.slice A2 N c2) (.bool sy); have qU00 := U0.cell 0; have qU01 := U0.cell 1; have qU10 := U1.cell 0; have qU11 := U1.cell 1; replace O2 := O2.step hb1; have U2 := (O2.far2 (g := w.heap.size) (by omega) (.slice A1 N c1) (.bool sy)).far2 (g := w.heap.size + 1) (by omega) (.slice A2 N c2) (.bool sy))
          | (go_at_call 21; refine (HX.out _ A1 c1 r1).mono ?_; rintro e w2 ⟨rfl, hb2⟩; clear HX; have v0 := (U1.step hb2).cell 0; have v1 := (U1.step hb2).cell 1; have y2 := r2.step hb2)
          | (go_at_call 21; refine (HY.out _ A2 c2 y2).mono ?_; rintro e w3 ⟨rfl, hb3⟩))
        have E0 := (U0.step hb2).step hb3
        have E1 := (U1.step hb2).step hb3
        have E2 := (U2.step hb2).step hb3
        have z1 := (r1.step hb2).step hb3
        have z2 := (r2.step hb2).step hb3
        have C3 := below_step (below_step C1 hb2) hb3
        clear HB BB O0 O1 O2
        refine region_w (by kernel_rfl) (fun u => blw w u ∧ (owns w.heap.size #[.slice A1 N c1, .bool sy] u ∧ (owns (w.heap.size + 1) #[.slice A2 N c2, .bool sy] u ∧ (rds A1 N lx u ∧ (rds A2 N ly u ∧ owns (w.heap.size + 1 + 1) #[.slice none 0 0, .bool false] u))))) [tru, tru, tru, tru, tru, tru, tru] [isV (.func (.func g) #[] lb), isV (.agg #[.slice A1 N c1, .bool sy]), isNum N (num lx), isV (.agg #[.slice A2 N c2, .bool sy]), isNum N (num ly), isV (.slice none 0 0), isV (.slice none 0 0)] [some 20, some 21, some 22, some 23, some 24, some 25, some 7] [[], [], [1], [], [3, 2], [0, 2, 4, 4], [5, 5, 0, 1, 2, 3, 4, 5]] (by kernel_rfl) (by kernel_rfl) rfl (by kernel_rfl) (by kernel_rfl) (by kernel_rfl) ⟨below_drew C3, E0.drew, E1.drew, z1.drew, z2.drew, E2.drew⟩ (by
          intro U hU
          simp only [List.mem_cons, List.not_mem_nil, or_false] at hU
          rcases hU with rfl | rfl | rfl | rfl | rfl | rfl | rfl
          all_goals first | trivial | trivial) ?_ ?_
        · refine ⟨?_, ?_, ?_, ?_, ?_, ?_, ?_, trivial⟩
          · intro a w' hS hO hF' hP K hK
            have ha := hO 2 (by rfl)
            refine if_ok (by rfl) ?_
            unfold Oper.wp execOp
            simp only [Sem.run_pure, ev ha]
            exact hK _ w' (fun h => by cases h) (keep_same hS) rfl
          · intro a w' hS hO hF' hP K hK
            have ha := hO 3 (by rfl)
            refine if_ok (by rfl) ?_
            refine wp_load_row 24 (.tmp 3) rfl w.heap.size (ev ha) _ _ (0, 0) _ hS.2.1 Tryd.underlying24 rfl (by kernel_rfl) ?_
            exact hK _ w' (fun h => by cases h) (keep_same hS) rfl
          · intro a w' hS hO hF' hP K hK
            obtain ⟨_, f0, rfl⟩ := (hF' 1 rfl).1 21 _ rfl rfl
            refine if_ok (by rfl) ?_
            refine wp_calls rfl (enters_of Tryd.func43 (by kernel_rfl) rfl) (args := #[.agg #[.slice A1 N c1, .bool sy]]) (by simp [Act.eval, f0]) ?_
            refine (number_any A1 N c1 sy lx _ hS.2.2.2.1 (by omega)).mono ?_
            rintro e w2 ⟨X1, x1, rfl, nn1, hb⟩
            exact ⟨_, rfl, hK _ w2 (fun h => by cases h) (keep_below hb hS) ⟨X1, x1, rfl, B.Nw.mono nn1 (Nat.zero_le _)⟩⟩
          · intro a w' hS hO hF' hP K hK
            have ha := hO 4 (by rfl)
            refine if_ok (by rfl) ?_
            refine wp_load_row 24 (.tmp 4) rfl (w.heap.size + 1) (ev ha) _ _ (0, 0) _ hS.2.2.1 Tryd.underlying24 rfl (by kernel_rfl) ?_
            exact hK _ w' (fun h => by cases h) (keep_same hS) rfl
          · intro a w' hS hO hF' hP K hK
            obtain ⟨_, f0, rfl⟩ := (hF' 3 rfl).1 23 _ rfl rfl
            refine if_ok (by rfl) ?_
            refine wp_calls rfl (enters_of Tryd.func43 (by kernel_rfl) rfl) (args := #[.agg #[.slice A2 N c2, .bool sy]]) (by simp [Act.eval, f0]) ?_
            refine (number_any A2 N c2 sy ly _ hS.2.2.2.2.1 (by omega)).mono ?_
            rintro e w2 ⟨X1, x1, rfl, nn1, hb⟩
            exact ⟨_, rfl, hK _ w2 (fun h => by cases h) (keep_below hb hS) ⟨X1, x1, rfl, B.Nw.mono nn1 (Nat.zero_le _)⟩⟩
          · intro a w' hS hO hF' hP K hK
            obtain ⟨_, f0, rfl⟩ := (hF' 0 rfl).1 20 _ rfl rfl
            obtain ⟨_, f1, X1, x1, rfl, nn1⟩ := (hF' 2 rfl).1 22 _ rfl rfl
            obtain ⟨_, f2, X2, x2, rfl, nn2⟩ := (hF' 4 rfl).1 24 _ rfl rfl
            refine if_ok (by rfl) ?_
            refine wp_callv (lb := lb) rfl (ev f0) eg (args := #[.slice X1 N x1, .slice X2 N x2]) (by simp [Act.eval, f1, f2]) ?_
            refine (HF.out _ N X1 X2 x1 x2 (num lx) (num ly) hS.1 (by omega) (by omega) nn1.rd nn2.rd).mono ?_
            rw [hr]
            rintro e w2 ⟨rfl, hb⟩
            exact ⟨_, rfl, hK _ w2 (fun h => by cases h) (keep_below hb hS) rfl⟩
          · intro a w' hS hO hF' hP K hK
            obtain ⟨_, f0, rfl⟩ := (hF' 5 rfl).1 25 _ rfl rfl
            refine if_ok (by rfl) ?_
            unfold Oper.wp execOp
            simp only [Sem.run_pure, ev f0]
            exact hK _ w' (fun h => by cases h) (keep_same hS) rfl
        · intro vs u hl hS hV
          match vs, hl, hV with
          | [v0, v1, v2, v3, v4, v5, v6], _, hV =>
            simp only [puts, Act.put, List.setIfInBounds_toArray, List.set_cons_zero, List.set_cons_succ]
            have h6 := hV 6 _ rfl
            simp only [isV, List.getD_cons_succ, List.getD_cons_zero] at h6
            subst h6
            obtain ⟨C4, D0, D1, z1, z2, D2⟩ := hS
            replace C4 : Below w.heap.size w u := C4
            replace D2 : Own u (w.heap.size + 1 + 1) 24 #[.slice none 0 0, .bool false] := D2
            have q00 := Own.cell D0 0
            have q01 := Own.cell D0 1
            clear hV
            go_wp2_with (go_at_call 64; refine (unknown_any N sy _ (by omega)).mono ?_; rintro e w9 ⟨A9, c9, rfl, n9, hb9⟩; simp only [allV, tab_len] at n9 ⊢; have L1 := D2.lt; have W2 := D2.step hb9; have qW20 := W2.cell 0; have qW21 := W2.cell 1; have fW20 := W2.free 0; have fW21 := W2.free 1)
            exact ret_vec Tryd.results62 rfl rfl (W2.put2 _ _) (RetV.mk' (v := allV 2 N sy) ((n9.far2 L1 _ _).mono C4.size) (below_set2 (below_step C4 hb9) (by omega) _ _))
      case some z =>
        simp only
        go_enter Tryd.func62, Tryd.ntmps62
        go_wp2_with (first
          | (go_at_call 79; refine HB.out.mono ?_; rintro e w1 ⟨A1, c1, A2, c2, rfl, n1, n2, hb1⟩; replace BB := below_step BB hb1; replace O0 := O0.step hb1; replace O1 := O1.step hb1; have qO00 := O0.cell 0; have qO01 := O0.cell 1; have fO00 := O0.free 0; have fO01 := O0.free 1; have qO10 := O1.cell 0; have qO11 := O1.cell 1; have fO10 := O1.free 0; have fO11 := O1.free 1; have C1 := below_set2 (below_set2 BB (Nat.le_refl _) (.slice A1 N c1) (.bool sy)) (Nat.le_succ _) (.slice A2 N c2) (.bool sy); have U0 := (O0.put2 (.slice A1 N c1) (.bool sy)).far2 (Nat.ne_of_lt (Nat.lt_succ_self _)) (.slice A2 N c2) (.bool sy); have U1 := (O1.far2 (Nat.succ_ne_self _) (.slice A1 N c1) (.bool sy)).put2 (.slice A2 N c2) (.bool sy); have r1 := (n1.rd.set2 O0 (.slice A1 N c1) (.bool sy)).set2 (O1.far2 (Nat.succ_ne_self _) (.slice A1 N c1) (.bool sy)) (.slice A2 N c2) (.bool sy); have r2 := (n2.rd.set2 O0 (.slice A1 N c1) (.bool sy)).set2 (O1.far2 (Nat.succ_ne_self _) (.slice A1 N c1) (.bool sy)) (.slice A2 N c2) (.bool sy); have qU00 := U0.cell 0; have qU01 := U0.cell 1; have qU10 := U1.cell 0; have qU11 := U1.cell 1; replace O2 := O2.step hb1; have U2 := (O2.far2 (g := w.heap.size) (by omega) (.slice A1 N c1) (.bool sy)).far2 (g := w.heap.size + 1) (by omega) (.slice A2 N c2) (.bool sy))
          | (go_at_call 21; refine (HX.out _ A1 c1 r1).mono ?_; rintro e w2 ⟨rfl, hb2⟩; clear HX; have v0 := (U1.step hb2).cell 0; have v1 := (U1.step hb2).cell 1; have y2 := r2.step hb2)
          | (go_at_call 21; refine (HY.out _ A2 c2 y2).mono ?_; rintro e w3 ⟨rfl, hb3⟩))
        have E0 := (U0.step hb2).step hb3
        have E1 := (U1.step hb2).step hb3
        have E2 := (U2.step hb2).step hb3
        have z1 := (r1.step hb2).step hb3
        have z2 := (r2.step hb2).step hb3
        have C3 := below_step (below_step C1 hb2) hb3
        clear HB BB O0 O1 O2
        refine region_w (by kernel_rfl) (fun u => blw w u ∧ (owns w.heap.size #[.slice A1 N c1, .bool sy] u ∧ (owns (w.heap.size + 1) #[.slice A2 N c2, .bool sy] u ∧ (rds A1 N lx u ∧ (rds A2 N ly u ∧ owns (w.heap.size + 1 + 1) #[.slice none 0 0, .bool false] u))))) [tru, tru, tru, tru, tru, tru, tru] [isV (.func (.func g) #[] lb), isV (.agg #[.slice A1 N c1, .bool sy]), isNum N (num lx), isV (.agg #[.slice A2 N c2, .bool sy]), isNum N (num ly), isNum N z, isNum N z] [some 20, some 21, some 22, some 23, some 24, some 25, some 7] [[], [], [1], [], [3, 2], [0, 2, 4, 4], [5, 5, 0, 1, 2, 3, 4, 5]] (by kernel_rfl) (by kernel_rfl) rfl (by kernel_rfl) (by kernel_rfl) (by kernel_rfl) ⟨below_drew C3, E0.drew, E1.drew, z1.drew, z2.drew, E2.drew⟩ (by
          intro U hU
          simp only [List.mem_cons, List.not_mem_nil, or_false] at hU
          rcases hU with rfl | rfl | rfl | rfl | rfl | rfl | rfl
          all_goals first | trivial | trivial) ?_ ?_
        · refine ⟨?_, ?_, ?_, ?_, ?_, ?_, ?_, trivial⟩
          · intro a w' hS hO hF' hP K hK
            have ha := hO 2 (by rfl)
            refine if_ok (by rfl) ?_
            unfold Oper.wp execOp
            simp only [Sem.run_pure, ev ha]
            exact hK _ w' (fun h => by cases h) (keep_same hS) rfl
          · intro a w' hS hO hF' hP K hK
            have ha := hO 3 (by rfl)
            refine if_ok (by rfl) ?_
            refine wp_load_row 24 (.tmp 3) rfl w.heap.size (ev ha) _ _ (0, 0) _ hS.2.1 Tryd.underlying24 rfl (by kernel_rfl) ?_
            exact hK _ w' (fun h => by cases h) (keep_same hS) rfl
          · intro a w' hS hO hF' hP K hK
            obtain ⟨_, f0, rfl⟩ := (hF' 1 rfl).1 21 _ rfl rfl
            refine if_ok (by rfl) ?_
            refine wp_calls rfl (enters_of Tryd.func43 (by kernel_rfl) rfl) (args := #[.agg #[.slice A1 N c1, .bool sy]]) (by simp [Act.eval, f0]) ?_
            refine (number_any A1 N c1 sy lx _ hS.2.2.2.1 (by omega)).mono ?_
            rintro e w2 ⟨X1, x1, rfl, nn1, hb⟩
            exact ⟨_, rfl, hK _ w2 (fun h => by cases h) (keep_below hb hS) ⟨X1, x1, rfl, B.Nw.mono nn1 (Nat.zero_le _)⟩⟩
          · intro a w' hS hO hF' hP K hK
            have ha := hO 4 (by rfl)
            refine if_ok (by rfl) ?_
            refine wp_load_row 24 (.tmp 4) rfl (w.heap.size + 1) (ev ha) _ _ (0, 0) _ hS.2.2.1 Tryd.underlying24 rfl (by kernel_rfl) ?_
            exact hK _ w' (fun h => by cases h) (keep_same hS) rfl
          · intro a w' hS hO hF' hP K hK
            obtain ⟨_, f0, rfl⟩ := (hF' 3 rfl).1 23 _ rfl rfl
            refine if_ok (by rfl) ?_
            refine wp_calls rfl (enters_of Tryd.func43 (by kernel_rfl) rfl) (args := #[.agg #[.slice A2 N c2, .bool sy]]) (by simp [Act.eval, f0]) ?_
            refine (number_any A2 N c2 sy ly _ hS.2.2.2.2.1 (by omega)).mono ?_
            rintro e w2 ⟨X1, x1, rfl, nn1, hb⟩
            exact ⟨_, rfl, hK _ w2 (fun h => by cases h) (keep_below hb hS) ⟨X1, x1, rfl, B.Nw.mono nn1 (Nat.zero_le _)⟩⟩
          · intro a w' hS hO hF' hP K hK
            obtain ⟨_, f0, rfl⟩ := (hF' 0 rfl).1 20 _ rfl rfl
            obtain ⟨_, f1, X1, x1, rfl, nn1⟩ := (hF' 2 rfl).1 22 _ rfl rfl
            obtain ⟨_, f2, X2, x2, rfl, nn2⟩ := (hF' 4 rfl).1 24 _ rfl rfl
            refine if_ok (by rfl) ?_
            refine wp_callv (lb := lb) rfl (ev f0) eg (args := #[.slice X1 N x1, .slice X2 N x2]) (by simp [Act.eval, f1, f2]) ?_
            refine (HF.out _ N X1 X2 x1 x2 (num lx) (num ly) hS.1 (by omega) (by omega) nn1.rd nn2.rd).mono ?_
            rw [hr]
            rintro e w2 ⟨X3, x3, rfl, nn3, hb⟩
            exact ⟨_, rfl, hK _ w2 (fun h => by cases h) (keep_below hb hS) ⟨X3, x3, rfl, B.Nw.mono nn3 (Nat.zero_le _)⟩⟩
          · intro a w' hS hO hF' hP K hK
            obtain ⟨_, f0, X1, x1, rfl, nn1⟩ := (hF' 5 rfl).1 25 _ rfl rfl
            refine if_ok (by rfl) ?_
            unfold Oper.wp execOp
            simp only [Sem.run_pure, ev f0]
            exact hK _ w' (fun h => by cases h) (keep_same hS) ⟨X1, x1, rfl, nn1⟩
        · intro vs u hl hS hV
          match vs, hl, hV with
          | [v0, v1, v2, v3, v4, v5, v6], _, hV =>
            simp only [puts, Act.put, List.setIfInBounds_toArray, List.set_cons_zero, List.set_cons_succ]
            have h6 := hV 6 _ rfl
            simp only [isNum, List.getD_cons_succ, List.getD_cons_zero] at h6
            obtain ⟨X, cX, rfl, nX⟩ := h6
            obtain ⟨bX, oX, rfl, _, _⟩ := nX.rd.at_ hbd.1
            obtain ⟨C4, D0, D1, z1, z2, D2⟩ := hS
            replace C4 : Below w.heap.size w u := C4
            replace D2 : Own u (w.heap.size + 1 + 1) 24 #[.slice none 0 0, .bool false] := D2
            have q00 := Own.cell D0 0
            have q01 := Own.cell D0 1
            clear hV
            go_wp2_with (go_at_call 61; refine (fromNumber_any _ N cX z sy _ nX.rd (by omega)).mono ?_; rintro e w9 ⟨A9, c9, rfl, n9, hb9⟩; simp only [frN_len] at n9 ⊢; have L1 := D2.lt; have W2 := D2.step hb9; have qW20 := W2.cell 0; have qW21 := W2.cell 1; have fW20 := W2.free 0; have fW21 := W2.free 1)
            exact ret_vec Tryd.results62 rfl rfl (W2.put2 _ _) (RetV.mk' (v := ⟨frN N z, sy⟩) ((n9.far2 L1 _ _).mono C4.size) (below_set2 (below_step C4 hb9) (by omega) _ _))
end Go.Proofs.YtognpmggfplekaaDoor

namespace Go.Proofs.YtognpmggfplekaaDoor
open Go Go.RowKit

def fAdd (n x y : Nat) : Option Nat := some ((x + y) % 2 ^ n)
set_option maxRecDepth 100000 in
theorem fa_Add (w : World) : Fa w 63 #[] fAdd := fun W N X Y cx cy x y _ _ hN rx ry => B.add_any X Y N cx x N cy y W rx ry (by omega) (by omega)
set_option maxRecDepth 100000 in
set_option maxHeartbeats 1000000 in
theorem vAdd_any (A Y : Option Addr) (n m c d : Nat) (s t : Bool) (l k : List Int) (w : World) (h : Rb w A n l) (h' : Rb w Y m k) :
    Calls Tryd.prog 24 #[.agg #[.slice A n c, .bool s], .agg #[.slice Y m d, .bool t]] w (RetV w (arV fAdd ⟨l, s⟩ ⟨k, t⟩)) := by
  have O0 := (((Own.at1 w 24 #[.slice A n c, .bool s] (g := w.heap.size) (by simp)).alloc (.cells #[.slice Y m d, .bool t] 24)).alloc (.cells #[.slice none 0 0, .bool false] 24))
  have O1 := ((Own.at1 (w.alloc (.cells #[.slice A n c, .bool s] 24)) 24 #[.slice Y m d, .bool t] (g := w.heap.size + 1) (by simp)).alloc (.cells #[.slice none 0 0, .bool false] 24))
  have O2 := (Own.at1 ((w.alloc (.cells #[.slice A n c, .bool s] 24)).alloc (.cells #[.slice Y m d, .bool t] 24)) 24 #[.slice none 0 0, .bool false] (g := w.heap.size + 1 + 1) (by simp))
  have BB := (below_new (below_new (below_new (Below.refl w.heap.size w) (.cells #[.slice A n c, .bool s] 24)) (.cells #[.slice Y m d, .bool t] 24)) (.cells #[.slice none 0 0, .bool false] 24))
  have HR := Lib.hid (arithmetic_v 63 #[] fAdd A Y n m c d s t l k _ (h.step BB) (h'.step BB) (enters_of Tryd.func63 (by kernel_rfl) rfl) (fa_Add _))
  generalize arV fAdd ⟨l, s⟩ ⟨k, t⟩ = z at *
  clear h h'
  go_enter Tryd.func24, Tryd.ntmps24
  go_wp2_with (go_at_call 62; refine HR.out.mono ?_; rintro e w1 ⟨A1, c1, rfl, n1, hb1⟩; have L1 := O2.lt; have U2 := O2.step hb1; have qU20 := U2.cell 0; have qU21 := U2.cell 1; have fU20 := U2.free 0; have fU21 := U2.free 1)
  exact ret_vec Tryd.results24 rfl rfl (U2.put2 _ _) (RetV.mk' (v := z) ((n1.far2 L1 _ _).mono BB.size) (below_set2 (below_step BB hb1) (by omega) _ _))
def fSub (n x y : Nat) : Option Nat := some (B.subv n x y)
set_option maxRecDepth 100000 in
theorem fa_Sub (w : World) : Fa w 104 #[] fSub := fun W N X Y cx cy x y _ _ hN rx ry => B.sub_any X Y N cx x N cy y W rx ry (by omega) (by omega)
def fMul (n x y : Nat) : Option Nat := some ((x * y) % 2 ^ n)
set_option maxRecDepth 100000 in
theorem fa_Mul (w : World) : Fa w 92 #[] fMul := fun W N X Y cx cy x y _ _ hN rx ry => B.mul_any X Y N cx x N cy y W rx ry (by omega) (by omega)
/-- What a function that divides leaves. -/
def Gd (G : Nat) (q r : Nat → Nat → Nat → Nat) : Prop := ∀ (W : World) (N : Nat) (X Y : Option Addr) (cx cy x y : Nat), 0 < N → N ≤ 128 → B.Rd W X N x → B.Rd W Y N y →
  Calls Tryd.prog G (#[.slice X N cx, .slice Y N cy] ++ #[]) W fun e w' => if y = 0 then e = .returned (.tuple #[.slice none 0 0, .slice none 0 0, .int .i64 7]) ∧ Below W.heap.size W w' else B.RetD W N (q N x y) (r N x y) e w'
set_option maxRecDepth 100000 in
theorem gd_u : Gd 93 (fun _ x y => x / y) (fun _ x y => x % y) := by
  intro W N X Y cx cy x y h0 hN rx ry
  by_cases hy : y = 0
  · subst hy
    simp only [if_true]
    exact (B.divmod_zero X Y N cx N cy W ry (by omega)).mono fun _ _ ⟨h1, h2⟩ => ⟨h1, h2 ▸ Below.refl _ _⟩
  · simp only [if_neg hy]
    exact B.divmod_any X Y N cx x N cy y W rx ry (by omega) (by omega) hy
set_option maxRecDepth 100000 in
theorem gd_s : Gd 94 (fun n x y => B.sq n x n y) (fun n x y => B.sr n x n y) := by
  intro W N X Y cx cy x y h0 hN rx ry
  by_cases hy : y = 0
  · subst hy
    simp only [if_true]
    exact B.sdivmod_zero X Y N cx x N cy W rx ry (by omega) (by omega)
  · simp only [if_neg hy]
    exact B.sdivmod_any X Y N cx x N cy y W rx ry (by omega) (by omega) hy
/-- What a function that takes one of two leaves. -/
def Pk (p : Nat) (first : Bool) : Prop := ∀ (W : World) (u v : Value), Calls Tryd.prog p (#[u, v] ++ #[]) W fun e w' => e = .returned (if first then u else v) ∧ w' = W
set_option maxRecDepth 100000 in
theorem pk_div : Pk 70 true := by
  intro W u v
  show Calls _ _ #[u, v] W _
  go_enter Tryd.func70, Tryd.ntmps70
  go_wp2
  go_ret
  exact ⟨rfl, rfl⟩
def dvF (first : Bool) (q r : Nat → Nat → Nat → Nat) (n x y : Nat) : Option Nat := if y = 0 then none else some (if first then q n x y else r n x y)
set_option maxRecDepth 100000 in
set_option maxHeartbeats 2000000 in
theorem dv1_any (G p : Nat) (first : Bool) (q r : Nat → Nat → Nat → Nat) (gd gp : Nat) (X Y : Option Addr) (N cx cy x y : Nat) (w : World) (eG : Ent G) (ep : Ent p) (hG : Gd G q r) (hp : Pk p first) (h0 : 0 < N) (hN : N ≤ 128) (rx : B.Rd w X N x) (ry : B.Rd w Y N y)
    (OD : Own w gd 92 #[.func (.func G) #[] #[]]) (OP : Own w gp 75 #[.func (.func p) #[] #[]]) :
    Calls Tryd.prog 95 #[.slice X N cx, .slice Y N cy, .pointer (some ⟨gd, 0, none⟩), .pointer (some ⟨gp, 0, none⟩)] w (ArP w N (dvF first q r N x y)) := by
  unfold Ent at eG ep
  have HG := Lib.hid (hG w N X Y cx cy x y h0 hN rx ry)
  have HP := Lib.hid hp
  have q0 := OD.cell 0
  have HO := Lib.hid OP
  clear hG hp OD OP rx ry
  unfold dvF
  by_cases hy : y = 0
  · simp only [if_pos hy] at HG ⊢
    unfold ArP
    clear hy
    go_enter Tryd.func95, Tryd.ntmps95
    go_wp2_with (go_at_fn G; refine HG.out.mono ?_; rintro e w1 ⟨rfl, hb1⟩)
    go_ret
    exact ⟨rfl, hb1⟩
  · simp only [if_neg hy] at HG ⊢
    unfold ArP
    clear hy
    simp only
    go_enter Tryd.func95, Tryd.ntmps95
    go_wp2_with (first
      | (go_at_fn G; refine HG.out.mono ?_; rintro e w1 ⟨A1, c1, A2, c2, rfl, n1, n2, hb1⟩; have p0 := (HO.out.step hb1).cell 0)
      | (go_at_fn p; refine (HP.out _ _ _).mono ?_; rintro e w2 ⟨rfl, rfl⟩))
    all_goals
      go_ret
      first | exact ⟨_, _, rfl, n1, hb1⟩ | exact ⟨_, _, rfl, n2, hb1⟩
set_option maxRecDepth 100000 in
theorem field1 (A : Option Addr) (n c : Nat) (b : Bool) (W : World) : (Instr.field 24 (.agg #[.slice A n c, .bool b]) 1).run Tryd.prog W = .ok (.bool b) W := by kernel_rfl
def divU (first : Bool) (n x y : Nat) : Option Nat := dvF first (fun _ x y => x / y) (fun _ x y => x % y) n x y
def divS (first : Bool) (n x y : Nat) : Option Nat := dvF first (fun n x y => B.sq n x n y) (fun n x y => B.sr n x n y) n x y
def divV (first : Bool) (a b : V) : V := arV (if balS a b then divS first else divU first) a b
set_option maxRecDepth 100000 in
theorem ent_dm : Ent 93 := enters_of Tryd.func93 (by kernel_rfl) rfl
set_option maxRecDepth 100000 in
theorem ent_sdm : Ent 94 := enters_of Tryd.func94 (by kernel_rfl) rfl
set_option maxRecDepth 100000 in
theorem ent_dv1 : Ent 95 := enters_of Tryd.func95 (by kernel_rfl) rfl
set_option maxRecDepth 100000 in
set_option maxHeartbeats 4000000 in
theorem divide_v (p : Nat) (first : Bool) (A Y : Option Addr) (n m c d : Nat) (s t : Bool) (l k : List Int) (w : World) (h : Rb w A n l) (h' : Rb w Y m k) (ep : Ent p) (hp : Pk p first) :
    Calls Tryd.prog 69 #[.agg #[.slice A n c, .bool s], .agg #[.slice Y m d, .bool t], .func (.func p) #[] #[]] w (RetV w (divV first ⟨l, s⟩ ⟨k, t⟩)) := by
  have O0 := (((((Own.at1 w 24 #[.slice A n c, .bool s] (g := w.heap.size) (by simp)).alloc (.cells #[.slice Y m d, .bool t] 24)).alloc (.cells #[.func (.func p) #[] #[]] 75)).alloc (.cells #[.slice none 0 0, .bool false] 24)).alloc (.cells #[.func (.func 93) #[] #[]] 92))
  have O1 := ((((Own.at1 (w.alloc (.cells #[.slice A n c, .bool s] 24)) 24 #[.slice Y m d, .bool t] (g := w.heap.size + 1) (by simp)).alloc (.cells #[.func (.func p) #[] #[]] 75)).alloc (.cells #[.slice none 0 0, .bool false] 24)).alloc (.cells #[.func (.func 93) #[] #[]] 92))
  have O2 := (((Own.at1 ((w.alloc (.cells #[.slice A n c, .bool s] 24)).alloc (.cells #[.slice Y m d, .bool t] 24)) 75 #[.func (.func p) #[] #[]] (g := w.heap.size + 1 + 1) (by simp)).alloc (.cells #[.slice none 0 0, .bool false] 24)).alloc (.cells #[.func (.func 93) #[] #[]] 92))
  have O3 := ((Own.at1 (((w.alloc (.cells #[.slice A n c, .bool s] 24)).alloc (.cells #[.slice Y m d, .bool t] 24)).alloc (.cells #[.func (.func p) #[] #[]] 75)) 24 #[.slice none 0 0, .bool false] (g := w.heap.size + 1 + 1 + 1) (by simp)).alloc (.cells #[.func (.func 93) #[] #[]] 92))
  have O4 := (Own.at1 ((((w.alloc (.cells #[.slice A n c, .bool s] 24)).alloc (.cells #[.slice Y m d, .bool t] 24)).alloc (.cells #[.func (.func p) #[] #[]] 75)).alloc (.cells #[.slice none 0 0, .bool false] 24)) 92 #[.func (.func 93) #[] #[]] (g := w.heap.size + 1 + 1 + 1 + 1) (by simp))
  have BB := (below_new (below_new (below_new (below_new (below_new (Below.refl w.heap.size w) (.cells #[.slice A n c, .bool s] 24)) (.cells #[.slice Y m d, .bool t] 24)) (.cells #[.func (.func p) #[] #[]] 75)) (.cells #[.slice none 0 0, .bool false] 24)) (.cells #[.func (.func 93) #[] #[]] 92))
  have HA := Lib.hid (fun (u : World) (hb : Below w.heap.size w u) => operand_any A n c s l u (h.step hb))
  have HB := Lib.hid (fun (u : World) (hb : Below w.heap.size w u) => operand_any Y m d t k u (h'.step hb))
  have HR := Lib.hid (fun (u : World) (F : Nat → Nat → Nat → Option Nat) (hb : Below w.heap.size w u) (hF : Fa u 95 #[.pointer (some ⟨w.heap.size + 1 + 1 + 1 + 1, 0, none⟩), .pointer (some ⟨w.heap.size + 1 + 1, 0, none⟩)] F) =>
    arithmetic_v 95 #[.pointer (some ⟨w.heap.size + 1 + 1 + 1 + 1, 0, none⟩), .pointer (some ⟨w.heap.size + 1 + 1, 0, none⟩)] F A Y n m c d s t l k u (h.step hb) (h'.step hb) ent_dv1 hF)
  have HD := Lib.hid (fun (u : World) (G : Nat) (q r : Nat → Nat → Nat → Nat) (eG : Ent G) (hG : Gd G q r) (OD : Own u (w.heap.size + 1 + 1 + 1 + 1) 92 #[.func (.func G) #[] #[]]) (OP : Own u (w.heap.size + 1 + 1) 75 #[.func (.func p) #[] #[]]) =>
    (show Fa u 95 #[.pointer (some ⟨w.heap.size + 1 + 1 + 1 + 1, 0, none⟩), .pointer (some ⟨w.heap.size + 1 + 1, 0, none⟩)] (dvF first q r) from fun W N X Z cx cy x y hW h0 hN rx ry => dv1_any G p first q r _ _ X Z N cx cy x y W eG ep hG hp h0 hN rx ry (OD.step hW) (OP.step hW)))
  unfold divV balS
  generalize nrm ⟨l, s⟩ = x at *
  generalize nrm ⟨k, t⟩ = y at *
  obtain ⟨lx, sx⟩ := x
  obtain ⟨ly, sy⟩ := y
  simp only
  have hfl := field1
  clear h h'
  rcases hsg : sx with _ | _
  · subst hsg
    simp only [Bool.false_and, Bool.false_eq_true, if_false]
    go_enter Tryd.func69, Tryd.ntmps69
    go_wp2_with (first
      | (go_at_call 33; refine (HA.out _ BB).mono ?_; rintro e w1 ⟨A1, c1, rfl, r1, hb1⟩; clear HA; replace BB := below_step BB hb1; replace O0 := O0.step hb1; replace O1 := O1.step hb1; replace O2 := O2.step hb1; replace O3 := O3.step hb1; replace O4 := O4.step hb1; have qa0 := O0.cell 0; have qa1 := O0.cell 1; have qb0 := O1.cell 0; have qb1 := O1.cell 1; have qc0 := O4.cell 0; have fc0 := O4.free 0)
      | (go_at_call 62; refine (HR.out _ _ BB (HD.out _ _ _ _ ent_dm gd_u O4 O2)).mono ?_; rintro e w9 ⟨A9, c9, rfl, n9, hb9⟩; have L1 := O3.lt; have W2 := O3.step hb9; have qW20 := W2.cell 0; have qW21 := W2.cell 1; have fW20 := W2.free 0; have fW21 := W2.free 1))
    exact ret_vec Tryd.results69 rfl rfl (W2.put2 _ _) (RetV.mk' (v := arV (divU first) ⟨l, s⟩ ⟨k, t⟩) ((n9.far2 L1 _ _).mono BB.size) (below_set2 (below_step BB hb9) (by omega) _ _))
  · subst hsg
    rcases hsh : sy with _ | _
    · subst hsh
      simp only [Bool.and_false, Bool.false_eq_true, if_false]
      go_enter Tryd.func69, Tryd.ntmps69
      go_wp2_with (first
        | (go_at_call 33; refine (HA.out _ BB).mono ?_; rintro e w1 ⟨A1, c1, rfl, r1, hb1⟩; clear HA; replace BB := below_step BB hb1; replace O0 := O0.step hb1; replace O1 := O1.step hb1; replace O2 := O2.step hb1; replace O3 := O3.step hb1; replace O4 := O4.step hb1; have qa0 := O0.cell 0; have qa1 := O0.cell 1; have qb0 := O1.cell 0; have qb1 := O1.cell 1; have qc0 := O4.cell 0; have fc0 := O4.free 0)
        | (go_at_call 33; refine (HB.out _ BB).mono ?_; rintro e w2 ⟨A2, c2, rfl, r2, hb2⟩; clear qa0 qa1 qb0 qb1 qc0 fc0; replace BB := below_step BB hb2; replace O0 := O0.step hb2; replace O1 := O1.step hb2; replace O2 := O2.step hb2; replace O3 := O3.step hb2; replace O4 := O4.step hb2; have qa0 := O0.cell 0; have qa1 := O0.cell 1; have qb0 := O1.cell 0; have qb1 := O1.cell 1; have qc0 := O4.cell 0; have fc0 := O4.free 0)
        | (go_at_call 62; refine (HR.out _ _ BB (HD.out _ _ _ _ ent_dm gd_u O4 O2)).mono ?_; rintro e w9 ⟨A9, c9, rfl, n9, hb9⟩; have L1 := O3.lt; have W2 := O3.step hb9; have qW20 := W2.cell 0; have qW21 := W2.cell 1; have fW20 := W2.free 0; have fW21 := W2.free 1))
      exact ret_vec Tryd.results69 rfl rfl (W2.put2 _ _) (RetV.mk' (v := arV (divU first) ⟨l, s⟩ ⟨k, t⟩) ((n9.far2 L1 _ _).mono BB.size) (below_set2 (below_step BB hb9) (by omega) _ _))
    · subst hsh
      simp only [Bool.and_true, if_true]
      go_enter Tryd.func69, Tryd.ntmps69
      go_wp2_with (first
        | (go_at_call 33; refine (HA.out _ BB).mono ?_; rintro e w1 ⟨A1, c1, rfl, r1, hb1⟩; clear HA; replace BB := below_step BB hb1; replace O0 := O0.step hb1; replace O1 := O1.step hb1; replace O2 := O2.step hb1; replace O3 := O3.step hb1; replace O4 := O4.step hb1; have qa0 := O0.cell 0; have qa1 := O0.cell 1; have qb0 := O1.cell 0; have qb1 := O1.cell 1; have qc0 := O4.cell 0; have fc0 := O4.free 0)
        | (go_at_call 33; refine (HB.out _ BB).mono ?_; rintro e w2 ⟨A2, c2, rfl, r2, hb2⟩; clear qa0 qa1 qb0 qb1 qc0 fc0; replace BB := below_step BB hb2; replace O0 := O0.step hb2; replace O1 := O1.step hb2; replace O2 := O2.step hb2; replace O3 := O3.step hb2; replace O4 := O4.step hb2; have qa0 := O0.cell 0; have qa1 := O0.cell 1; have qb0 := O1.cell 0; have qb1 := O1.cell 1; have qc0 := O4.cell 0; have fc0 := O4.free 0)
        | (go_at_call 62; have ne2 : w.heap.size + 1 + 1 ≠ w.heap.size + 1 + 1 + 1 + 1 := (by omega); have ne3 : w.heap.size + 1 + 1 + 1 ≠ w.heap.size + 1 + 1 + 1 + 1 := (by omega); have le4 : w.heap.size ≤ w.heap.size + 1 + 1 + 1 + 1 := (by omega); have B3 := below_set (p := ⟨w.heap.size + 1 + 1 + 1 + 1, 0, none⟩) BB le4 (.func (.func 94) #[] #[]); have U3 := O3.far (p := ⟨w.heap.size + 1 + 1 + 1 + 1, 0, none⟩) ne3 (.func (.func 94) #[] #[]); have U2 := O2.far (p := ⟨w.heap.size + 1 + 1 + 1 + 1, 0, none⟩) ne2 (.func (.func 94) #[] #[]); have U4 := O4.put 0 (.func (.func 94) #[] #[]); simp only [List.setIfInBounds_toArray, List.set_cons_zero] at U4; refine (HR.out _ _ B3 (HD.out _ _ _ _ ent_sdm gd_s U4 U2)).mono ?_; rintro e w9 ⟨A9, c9, rfl, n9, hb9⟩; have L1 := U3.lt; have W2 := U3.step hb9; have qW20 := W2.cell 0; have qW21 := W2.cell 1; have fW20 := W2.free 0; have fW21 := W2.free 1))
      exact ret_vec Tryd.results69 rfl rfl (W2.put2 _ _) (RetV.mk' (v := arV (divS first) ⟨l, s⟩ ⟨k, t⟩) ((n9.far2 L1 _ _).mono B3.size) (below_set2 (below_step B3 hb9) (by omega) _ _))
set_option maxRecDepth 100000 in
set_option maxHeartbeats 1000000 in
theorem vDiv_any (A Y : Option Addr) (n m c d : Nat) (s t : Bool) (l k : List Int) (w : World) (h : Rb w A n l) (h' : Rb w Y m k) :
    Calls Tryd.prog 28 #[.agg #[.slice A n c, .bool s], .agg #[.slice Y m d, .bool t]] w (RetV w (divV true ⟨l, s⟩ ⟨k, t⟩)) := by
  have O0 := (((Own.at1 w 24 #[.slice A n c, .bool s] (g := w.heap.size) (by simp)).alloc (.cells #[.slice Y m d, .bool t] 24)).alloc (.cells #[.slice none 0 0, .bool false] 24))
  have O1 := ((Own.at1 (w.alloc (.cells #[.slice A n c, .bool s] 24)) 24 #[.slice Y m d, .bool t] (g := w.heap.size + 1) (by simp)).alloc (.cells #[.slice none 0 0, .bool false] 24))
  have O2 := (Own.at1 ((w.alloc (.cells #[.slice A n c, .bool s] 24)).alloc (.cells #[.slice Y m d, .bool t] 24)) 24 #[.slice none 0 0, .bool false] (g := w.heap.size + 1 + 1) (by simp))
  have BB := (below_new (below_new (below_new (Below.refl w.heap.size w) (.cells #[.slice A n c, .bool s] 24)) (.cells #[.slice Y m d, .bool t] 24)) (.cells #[.slice none 0 0, .bool false] 24))
  have HR := Lib.hid (divide_v 70 true A Y n m c d s t l k _ (h.step BB) (h'.step BB) (enters_of Tryd.func70 (by kernel_rfl) rfl) pk_div)
  generalize divV true ⟨l, s⟩ ⟨k, t⟩ = z at *
  clear h h'
  go_enter Tryd.func28, Tryd.ntmps28
  go_wp2_with (go_at_call 69; refine HR.out.mono ?_; rintro e w1 ⟨A1, c1, rfl, n1, hb1⟩; have L1 := O2.lt; have U2 := O2.step hb1; have qU20 := U2.cell 0; have qU21 := U2.cell 1; have fU20 := U2.free 0; have fU21 := U2.free 1)
  exact ret_vec Tryd.results28 rfl rfl (U2.put2 _ _) (RetV.mk' (v := z) ((n1.far2 L1 _ _).mono BB.size) (below_set2 (below_step BB hb1) (by omega) _ _))
end Go.Proofs.YtognpmggfplekaaDoor

namespace Go.Proofs.YtognpmggfplekaaDoor
open Go Go.RowKit

def cdF (z x y : Int) : Int := if z = 1 then x else if z = 0 then y else muxI 2 x y
set_option maxRecDepth 100000 in
theorem cd1_any (gc : Nat) (z x y : Int) (w : World) (OC : Own w gc 47 #[.int .u8 z]) (h0 : 0 ≤ x) (h1 : 0 ≤ y) (TT : Tabs w) :
    Calls Tryd.prog 46 #[.int .u8 x, .int .u8 y, .pointer (some ⟨gc, 0, none⟩)] w fun e w' => e = .returned (.int .u8 (cdF z x y)) ∧ Below w.heap.size w w' := by
  have q0 := OC.cell 0
  have HM := Lib.hid (b_mux w 2 h0 h1 TT)
  clear OC h0 h1 TT
  unfold cdF
  by_cases e1 : z = 1
  · subst e1
    rw [if_pos rfl]
    go_enter Tryd.func46, Tryd.ntmps46
    go_wp2
    go_ret
    exact ⟨rfl, Below.refl _ _⟩
  · rw [if_neg e1]
    have d1 : (z == 1) = false := by simpa using e1
    by_cases e0 : z = 0
    · subst e0
      rw [if_pos rfl]
      go_enter Tryd.func46, Tryd.ntmps46
      go_wp2
      go_ret
      exact ⟨rfl, Below.refl _ _⟩
    · rw [if_neg e0]
      have d0 : (z == 0) = false := by simpa using e0
      clear e0 e1
      go_enter Tryd.func46, Tryd.ntmps46
      go_wp2_with (go_at_call 47; refine HM.out.mono ?_; rintro e w1 ⟨rfl, hb1⟩)
      go_ret
      exact ⟨rfl, hb1⟩
set_option maxRecDepth 100000 in
theorem cdF_nn (z a b : Int) (h0 : 0 ≤ a) (h1 : 0 ≤ b) : 0 ≤ cdF z a b := by
  unfold cdF; split; exact h0; (split; exact h1; exact (muxI_bd _ _ _).1)
set_option maxRecDepth 100000 in
theorem ent_cd1 : Ent 46 := enters_of Tryd.func46 (by kernel_rfl) rfl
def condV (sel a b : V) : V := bwV (cdF (truth sel)) a b
set_option maxRecDepth 100000 in
set_option maxHeartbeats 4000000 in
theorem cond_any (Z : Option Addr) (q e : Nat) (r : Bool) (j : List Int) (A Y : Option Addr) (n m c d : Nat) (s t : Bool) (l k : List Int) (w : World) (h : Rb w A n l) (h' : Rb w Y m k) (h2 : Rb w Z q j) (hcap : q ≤ e) (TT : Tabs w) :
    Calls Tryd.prog 16 #[.agg #[.slice Z q e, .bool r], .agg #[.slice A n c, .bool s], .agg #[.slice Y m d, .bool t]] w (RetV w (condV ⟨j, r⟩ ⟨l, s⟩ ⟨k, t⟩)) := by
  have O0 := ((((Own.at1 w 24 #[.slice Z q e, .bool r] (g := w.heap.size) (by simp)).alloc (.cells #[.slice A n c, .bool s] 24)).alloc (.cells #[.slice Y m d, .bool t] 24)).alloc (.cells #[.slice none 0 0, .bool false] 24))
  have O1 := (((Own.at1 (w.alloc (.cells #[.slice Z q e, .bool r] 24)) 24 #[.slice A n c, .bool s] (g := w.heap.size + 1) (by simp)).alloc (.cells #[.slice Y m d, .bool t] 24)).alloc (.cells #[.slice none 0 0, .bool false] 24))
  have O2 := ((Own.at1 ((w.alloc (.cells #[.slice Z q e, .bool r] 24)).alloc (.cells #[.slice A n c, .bool s] 24)) 24 #[.slice Y m d, .bool t] (g := w.heap.size + 1 + 1) (by simp)).alloc (.cells #[.slice none 0 0, .bool false] 24))
  have O3 := (Own.at1 (((w.alloc (.cells #[.slice Z q e, .bool r] 24)).alloc (.cells #[.slice A n c, .bool s] 24)).alloc (.cells #[.slice Y m d, .bool t] 24)) 24 #[.slice none 0 0, .bool false] (g := w.heap.size + 1 + 1 + 1) (by simp))
  have BB := (below_new (below_new (below_new (below_new (Below.refl w.heap.size w) (.cells #[.slice Z q e, .bool r] 24)) (.cells #[.slice A n c, .bool s] 24)) (.cells #[.slice Y m d, .bool t] 24)) (.cells #[.slice none 0 0, .bool false] 24))
  have HT := Lib.hid (truth_any Z q e r j _ (h2.step BB) hcap (TT.step BB))
  unfold condV
  generalize truth ⟨j, r⟩ = z at *
  have HR := Lib.hid (fun (u : World) (g : Nat) (hb : Below w.heap.size w u) (O : Own u g 47 #[.int .u8 z]) => bitwise_any 46 #[.pointer (some ⟨g, 0, none⟩)] (cdF z) A Y n m c d s t l k u ent_cd1 (fun W a b hW ha hb' => cd1_any g z a b W (O.step hW) ha hb' (TT.step (below_step hb hW))) (cdF_nn z) (h.step hb) (h'.step hb))
  generalize bwV (cdF z) ⟨l, s⟩ ⟨k, t⟩ = x at *
  clear h h' h2 TT
  go_enter Tryd.func16, Tryd.ntmps16
  go_wp2_with (first
    | (go_at_call 44; refine HT.out.mono ?_; rintro e w1 ⟨rfl, hb1⟩; replace BB := below_step BB hb1; replace O1 := O1.step hb1; replace O2 := O2.step hb1; replace O3 := O3.step hb1; have qO10 := O1.cell 0; have qO11 := O1.cell 1; have fO10 := O1.free 0; have fO11 := O1.free 1; have qO20 := O2.cell 0; have qO21 := O2.cell 1; have fO20 := O2.free 0; have fO21 := O2.free 1; have l1 := O1.lt; have l2 := O2.lt)
    | (go_at_call 45; refine (HR.out _ _ (below_new BB _) (Own.new _ _ _)).mono ?_; rintro e w9 ⟨A9, c9, rfl, n9, hb9⟩; have U3 := O3.alloc (.cells #[.int .u8 z] 47); have L1 := U3.lt; have W2 := U3.step hb9; have qW20 := W2.cell 0; have qW21 := W2.cell 1; have fW20 := W2.free 0; have fW21 := W2.free 1))
  exact ret_vec Tryd.results16 rfl rfl (W2.put2 _ _) (RetV.mk' (v := x) ((n9.far2 L1 _ _).mono (below_new BB (.cells #[.int .u8 z] 47)).size) (below_set2 (below_step (below_new BB (.cells #[.int .u8 z] 47)) hb9) (by omega) _ _))
end Go.Proofs.YtognpmggfplekaaDoor
