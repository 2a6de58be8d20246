/-
  Contracts of the program's arithmetic. No conditions.
  Contracts of the program's sums, products, quotients. No conditions.
  Contracts of the program's conditional operator. No conditions.
-/
import Derived.Test.YtognpmggfplekaaGreatDoorPcQi
import Derived.Test.YtognpmggfplekaaGreatDoorPcQf
import Derived.WalkSpells
import Derived.Laws.EntriesVeiled

set_option maxRecDepth 100000
namespace Go.Proofs.YtognpmggfplekaaGreatDoor
open Go Go.RowKit

def ArP (W : World) (N : Nat) (r : Option Nat) (e : Ending) (w' : World) : Prop := match r with
  | some z => B.RetN W N z e w'
  | none => e = .returned (.slice none 0 0) ∧ Below W.heap.size W w'
def Fa (w : World) (g : Nat) (lb : Array Value) (F : Nat → Nat → Nat → Option Nat) : Prop := ∀ (W : World) (N : Nat) (X Y : Option Addr) (cx cy x y : Nat), Below w.heap.size w W → 0 < N → N ≤ 128 → B.Rd W X N x → B.Rd W Y N y →
  Calls Tryz.prog g (#[.slice X N cx, .slice Y N cy] ++ lb) W (ArP W N (F N x y))
theorem neq_nil (W : World) (a : Option Addr) (n c : Nat) : (binOp .neq 90 (.slice a n c) (.slice none 0 0)).run Tryz.prog W = .ok (.bool (!a.isNone)) W := run_neq_slice_nil_any W 90 4 a n c 0 0 Tryz.underlying90
set_option maxHeartbeats 8000000 in
theorem arithmetic_v (g : Nat) (lb : Array Value) (F : Nat → Nat → Nat → Option Nat) (A Y : Option Addr) (n m c d : Nat) (s t : Bool) (l k : List Int) (w : World) (h : Rb w A n l) (h' : Rb w Y m k) (eg : Ent g) (hf : Fa w g lb F) :
    Calls Tryz.prog 149 #[.agg #[.slice A n c, .bool s], .agg #[.slice Y m d, .bool t], .func (.func g) #[] lb] w (RetV w (arV F ⟨l, s⟩ ⟨k, t⟩)) := by
  unfold Ent at eg
  have O0 := (((Own.at1 w 24 #[.slice A n c, .bool s] (g := w.heap.size) (by simp)).alloc (.cells #[.slice Y m d, .bool t] 24)).alloc (.cells #[.slice none 0 0, .bool false] 24))
  have O1 := ((Own.at1 (w.alloc (.cells #[.slice A n c, .bool s] 24)) 24 #[.slice Y m d, .bool t] (g := w.heap.size + 1) (by simp)).alloc (.cells #[.slice none 0 0, .bool false] 24))
  have O2 := (Own.at1 ((w.alloc (.cells #[.slice A n c, .bool s] 24)).alloc (.cells #[.slice Y m d, .bool t] 24)) 24 #[.slice none 0 0, .bool false] (g := w.heap.size + 1 + 1) (by simp))
  have BB := (below_new (below_new (below_new (Below.refl w.heap.size w) (.cells #[.slice A n c, .bool s] 24)) (.cells #[.slice Y m d, .bool t] 24)) (.cells #[.slice none 0 0, .bool false] 24))
  have HB := Lib.hid (balance_q A Y n m c d s t l k _ (h.step BB) (h'.step BB))
  have hbd := balN_bd ⟨l, s⟩ ⟨k, t⟩
  have okx := balL_ok ⟨l, s⟩ ⟨k, t⟩
  have oky := balR_ok ⟨l, s⟩ ⟨k, t⟩
  unfold arV
  generalize (balL ⟨l, s⟩ ⟨k, t⟩).l = lx at *
  generalize (balR ⟨l, s⟩ ⟨k, t⟩).l = ly at *
  generalize balN ⟨l, s⟩ ⟨k, t⟩ = N at *
  generalize balS ⟨l, s⟩ ⟨k, t⟩ = sy at *
  clear h h'
  have HF := Lib.hid hf
  clear hf
  have kx := kn_ok (s := sy) okx
  have ky := kn_ok (s := sy) oky
  have HX := Lib.hid (fun (u : World) (A1 : Option Addr) (c1 : Nat) (r : Rb u A1 N lx) => kx ▸ known_v A1 N c1 sy lx u r)
  have HY := Lib.hid (fun (u : World) (A1 : Option Addr) (c1 : Nat) (r : Rb u A1 N ly) => ky ▸ known_v A1 N c1 sy ly u r)
  clear kx ky okx oky
  cases hx : knL lx
  · rw [hx] at HX
    simp only [Bool.false_and, Bool.false_eq_true, if_false]
    clear hx HY
    go_enter Tryz.func149, Tryz.ntmps149
    go_wp2_with (first
      | (go_at_call 190; refine HB.out.mono ?_; rintro e w1 ⟨A1, c1, A2, c2, rfl, n1, n2, hb1⟩; replace BB := below_step BB hb1; replace O0 := O0.step hb1; replace O1 := O1.step hb1; have qO00 := O0.cell 0; have qO01 := O0.cell 1; have fO00 := O0.free 0; have fO01 := O0.free 1; have qO10 := O1.cell 0; have qO11 := O1.cell 1; have fO10 := O1.free 0; have fO11 := O1.free 1; have C1 := below_set2 (below_set2 BB (Nat.le_refl _) (.slice A1 N c1) (.bool sy)) (Nat.le_succ _) (.slice A2 N c2) (.bool sy); have U0 := (O0.put2 (.slice A1 N c1) (.bool sy)).far2 (Nat.ne_of_lt (Nat.lt_succ_self _)) (.slice A2 N c2) (.bool sy); have U1 := (O1.far2 (Nat.succ_ne_self _) (.slice A1 N c1) (.bool sy)).put2 (.slice A2 N c2) (.bool sy); have r1 := (n1.rd.set2 O0 (.slice A1 N c1) (.bool sy)).set2 (O1.far2 (Nat.succ_ne_self _) (.slice A1 N c1) (.bool sy)) (.slice A2 N c2) (.bool sy); have r2 := (n2.rd.set2 O0 (.slice A1 N c1) (.bool sy)).set2 (O1.far2 (Nat.succ_ne_self _) (.slice A1 N c1) (.bool sy)) (.slice A2 N c2) (.bool sy); have qU00 := U0.cell 0; have qU01 := U0.cell 1; have qU10 := U1.cell 0; have qU11 := U1.cell 1; replace O2 := O2.step hb1; have U2 := (O2.far2 (g := w.heap.size) (by omega) (.slice A1 N c1) (.bool sy)).far2 (g := w.heap.size + 1) (by omega) (.slice A2 N c2) (.bool sy))
      | (go_at_call 31; refine (HX.out _ A1 c1 r1).mono ?_; rintro e w2 ⟨rfl, hb2⟩; replace C1 := below_step C1 hb2; replace U2 := U2.step hb2; replace U0 := U0.step hb2; have v0 := U0.cell 0; have v1 := U0.cell 1)
      | (go_at_call 133; refine (unknown_any N sy _ (by omega)).mono ?_; rintro e w9 ⟨A9, c9, rfl, n9, hb9⟩; simp only [allV, tab_len] at n9 ⊢; have L1 := U2.lt; have W2 := U2.step hb9; have qW20 := W2.cell 0; have qW21 := W2.cell 1; have fW20 := W2.free 0; have fW21 := W2.free 1))
    exact ret_vec Tryz.results149 rfl rfl (W2.put2 _ _) (RetV.mk' (v := allV 2 N sy) ((n9.far2 L1 _ _).mono C1.size) (below_set2 (below_step C1 hb9) (by omega) _ _))
  · rw [hx] at HX
    cases hy : knL ly
    · rw [hy] at HY
      simp only [Bool.and_false, Bool.false_eq_true, if_false]
      clear hx hy
      go_enter Tryz.func149, Tryz.ntmps149
      go_wp2_with (first
        | (go_at_call 190; refine HB.out.mono ?_; rintro e w1 ⟨A1, c1, A2, c2, rfl, n1, n2, hb1⟩; replace BB := below_step BB hb1; replace O0 := O0.step hb1; replace O1 := O1.step hb1; have qO00 := O0.cell 0; have qO01 := O0.cell 1; have fO00 := O0.free 0; have fO01 := O0.free 1; have qO10 := O1.cell 0; have qO11 := O1.cell 1; have fO10 := O1.free 0; have fO11 := O1.free 1; have C1 := below_set2 (below_set2 BB (Nat.le_refl _) (.slice A1 N c1) (.bool sy)) (Nat.le_succ _) (.slice A2 N c2) (.bool sy); have U0 := (O0.put2 (.slice A1 N c1) (.bool sy)).far2 (Nat.ne_of_lt (Nat.lt_succ_self _)) (.slice A2 N c2) (.bool sy); have U1 := (O1.far2 (Nat.succ_ne_self _) (.slice A1 N c1) (.bool sy)).put2 (.slice A2 N c2) (.bool sy); have r1 := (n1.rd.set2 O0 (.slice A1 N c1) (.bool sy)).set2 (O1.far2 (Nat.succ_ne_self _) (.slice A1 N c1) (.bool sy)) (.slice A2 N c2) (.bool sy); have r2 := (n2.rd.set2 O0 (.slice A1 N c1) (.bool sy)).set2 (O1.far2 (Nat.succ_ne_self _) (.slice A1 N c1) (.bool sy)) (.slice A2 N c2) (.bool sy); have qU00 := U0.cell 0; have qU01 := U0.cell 1; have qU10 := U1.cell 0; have qU11 := U1.cell 1; replace O2 := O2.step hb1; have U2 := (O2.far2 (g := w.heap.size) (by omega) (.slice A1 N c1) (.bool sy)).far2 (g := w.heap.size + 1) (by omega) (.slice A2 N c2) (.bool sy))
        | (go_at_call 31; refine (HX.out _ A1 c1 r1).mono ?_; rintro e w2 ⟨rfl, hb2⟩; clear HX; replace C1 := below_step C1 hb2; replace U2 := U2.step hb2; replace U1 := U1.step hb2; replace U0 := U0.step hb2; replace r2 := r2.step hb2; have v0 := U1.cell 0; have v1 := U1.cell 1)
        | (go_at_call 31; refine (HY.out _ A2 c2 r2).mono ?_; rintro e w22 ⟨rfl, hb22⟩; replace C1 := below_step C1 hb22; replace U2 := U2.step hb22; replace U0 := U0.step hb22; have v2 := U0.cell 0; have v3 := U0.cell 1)
        | (go_at_call 133; refine (unknown_any N sy _ (by omega)).mono ?_; rintro e w9 ⟨A9, c9, rfl, n9, hb9⟩; simp only [allV, tab_len] at n9 ⊢; have L1 := U2.lt; have W2 := U2.step hb9; have qW20 := W2.cell 0; have qW21 := W2.cell 1; have fW20 := W2.free 0; have fW21 := W2.free 1))
      exact ret_vec Tryz.results149 rfl rfl (W2.put2 _ _) (RetV.mk' (v := allV 2 N sy) ((n9.far2 L1 _ _).mono C1.size) (below_set2 (below_step C1 hb9) (by omega) _ _))
    · rw [hy] at HY
      simp only [Bool.and_true, if_true]
      clear hx hy
      have hnz := neq_nil
      cases hr : F N (num lx) (num ly)
      case none =>
        simp only
        go_enter Tryz.func149, Tryz.ntmps149
        go_wp2_with (first
          | (go_at_call 190; refine HB.out.mono ?_; rintro e w1 ⟨A1, c1, A2, c2, rfl, n1, n2, hb1⟩; replace BB := below_step BB hb1; replace O0 := O0.step hb1; replace O1 := O1.step hb1; have qO00 := O0.cell 0; have qO01 := O0.cell 1; have fO00 := O0.free 0; have fO01 := O0.free 1; have qO10 := O1.cell 0; have qO11 := O1.cell 1; have fO10 := O1.free 0; have fO11 := O1.free 1; have C1 := below_set2 (below_set2 BB (Nat.le_refl _) (.slice A1 N c1) (.bool sy)) (Nat.le_succ _) (.slice A2 N c2) (.bool sy); have U0 := (O0.put2 (.slice A1 N c1) (.bool sy)).far2 (Nat.ne_of_lt (Nat.lt_succ_self _)) (.slice A2 N c2) (.bool sy); have U1 := (O1.far2 (Nat.succ_ne_self _) (.slice A1 N c1) (.bool sy)).put2 (.slice A2 N c2) (.bool sy); have r1 := (n1.rd.set2 O0 (.slice A1 N c1) (.bool sy)).set2 (O1.far2 (Nat.succ_ne_self _) (.slice A1 N c1) (.bool sy)) (.slice A2 N c2) (.bool sy); have r2 := (n2.rd.set2 O0 (.slice A1 N c1) (.bool sy)).set2 (O1.far2 (Nat.succ_ne_self _) (.slice A1 N c1) (.bool sy)) (.slice A2 N c2) (.bool sy); have qU00 := U0.cell 0; have qU01 := U0.cell 1; have qU10 := U1.cell 0; have qU11 := U1.cell 1; replace O2 := O2.step hb1; have U2 := (O2.far2 (g := w.heap.size) (by omega) (.slice A1 N c1) (.bool sy)).far2 (g := w.heap.size + 1) (by omega) (.slice A2 N c2) (.bool sy))
          | (go_at_call 31; refine (HX.out _ A1 c1 r1).mono ?_; rintro e w2 ⟨rfl, hb2⟩; clear HX; have v0 := (U1.step hb2).cell 0; have v1 := (U1.step hb2).cell 1; have y2 := r2.step hb2)
          | (go_at_call 31; refine (HY.out _ A2 c2 y2).mono ?_; rintro e w3 ⟨rfl, hb3⟩))
        have E0 := (U0.step hb2).step hb3
        have E1 := (U1.step hb2).step hb3
        have E2 := (U2.step hb2).step hb3
        have z1 := (r1.step hb2).step hb3
        have z2 := (r2.step hb2).step hb3
        have C3 := below_step (below_step C1 hb2) hb3
        clear HB BB O0 O1 O2
        refine region_w (by kernel_rfl) (fun u => blw w u ∧ (owns w.heap.size #[.slice A1 N c1, .bool sy] u ∧ (owns (w.heap.size + 1) #[.slice A2 N c2, .bool sy] u ∧ (rds A1 N lx u ∧ (rds A2 N ly u ∧ owns (w.heap.size + 1 + 1) #[.slice none 0 0, .bool false] u))))) [tru, tru, tru, tru, tru, tru, tru] [isV (.func (.func g) #[] lb), isV (.agg #[.slice A1 N c1, .bool sy]), isNum N (num lx), isV (.agg #[.slice A2 N c2, .bool sy]), isNum N (num ly), isV (.slice none 0 0), isV (.slice none 0 0)] [some 20, some 21, some 22, some 23, some 24, some 25, some 7] [[], [], [1], [], [3, 2], [0, 2, 4, 4], [5, 5, 0, 1, 2, 3, 4, 5]] (by kernel_rfl) (by kernel_rfl) rfl (by kernel_rfl) (by kernel_rfl) (by kernel_rfl) ⟨below_drew C3, E0.drew, E1.drew, z1.drew, z2.drew, E2.drew⟩ (by
          intro U hU
          simp only [List.mem_cons, List.not_mem_nil, or_false] at hU
          rcases hU with rfl | rfl | rfl | rfl | rfl | rfl | rfl
          all_goals first | trivial | trivial) ?_ ?_
        · refine ⟨?_, ?_, ?_, ?_, ?_, ?_, ?_, trivial⟩
          · intro a w' hS hO hF' hP K hK; have ha := hO 2 (by rfl); refine if_ok (by rfl) ?_; unfold Oper.wp execOp; simp only [Sem.run_pure, ev ha]; exact hK _ w' nofun (keep_same hS) rfl
          · intro a w' hS hO hF' hP K hK; have ha := hO 3 (by rfl); refine if_ok (by rfl) ?_; refine wp_load_row 24 (.tmp 3) rfl w.heap.size (ev ha) _ _ (0, 0) _ hS.2.1 Tryz.underlying24 rfl (by kernel_rfl) ?_; exact hK _ w' nofun (keep_same hS) rfl
          · intro a w' hS hO hF' hP K hK; obtain ⟨_, f0, rfl⟩ := (hF' 1 rfl).1 21 _ rfl rfl; refine if_ok (by rfl) ?_; refine wp_calls rfl (enters_of Tryz.func112 (by kernel_rfl) rfl) (args := #[.agg #[.slice A1 N c1, .bool sy]]) (by simp [Act.eval, f0]) ?_; refine (number_any A1 N c1 sy lx _ hS.2.2.2.1 (by omega)).mono ?_; rintro e w2 ⟨X1, x1, rfl, nn1, hb⟩; exact ⟨_, rfl, hK _ w2 nofun (keep_below hb hS) ⟨X1, x1, rfl, B.Nw.mono nn1 (Nat.zero_le _)⟩⟩
          · intro a w' hS hO hF' hP K hK; have ha := hO 4 (by rfl); refine if_ok (by rfl) ?_; refine wp_load_row 24 (.tmp 4) rfl (w.heap.size + 1) (ev ha) _ _ (0, 0) _ hS.2.2.1 Tryz.underlying24 rfl (by kernel_rfl) ?_; exact hK _ w' nofun (keep_same hS) rfl
          · intro a w' hS hO hF' hP K hK; obtain ⟨_, f0, rfl⟩ := (hF' 3 rfl).1 23 _ rfl rfl; refine if_ok (by rfl) ?_; refine wp_calls rfl (enters_of Tryz.func112 (by kernel_rfl) rfl) (args := #[.agg #[.slice A2 N c2, .bool sy]]) (by simp [Act.eval, f0]) ?_; refine (number_any A2 N c2 sy ly _ hS.2.2.2.2.1 (by omega)).mono ?_; rintro e w2 ⟨X1, x1, rfl, nn1, hb⟩; exact ⟨_, rfl, hK _ w2 nofun (keep_below hb hS) ⟨X1, x1, rfl, B.Nw.mono nn1 (Nat.zero_le _)⟩⟩
          · intro a w' hS hO hF' hP K hK; obtain ⟨_, f0, rfl⟩ := (hF' 0 rfl).1 20 _ rfl rfl; obtain ⟨_, f1, X1, x1, rfl, nn1⟩ := (hF' 2 rfl).1 22 _ rfl rfl; obtain ⟨_, f2, X2, x2, rfl, nn2⟩ := (hF' 4 rfl).1 24 _ rfl rfl; refine if_ok (by rfl) ?_; refine wp_callv (lb := lb) rfl (ev f0) eg (args := #[.slice X1 N x1, .slice X2 N x2]) (by simp [Act.eval, f1, f2]) ?_; refine (HF.out _ N X1 X2 x1 x2 (num lx) (num ly) hS.1 (by omega) (by omega) nn1.rd nn2.rd).mono ?_; rw [hr]; rintro e w2 ⟨rfl, hb⟩; exact ⟨_, rfl, hK _ w2 nofun (keep_below hb hS) rfl⟩
          · intro a w' hS hO hF' hP K hK; obtain ⟨_, f0, rfl⟩ := (hF' 5 rfl).1 25 _ rfl rfl; refine if_ok (by rfl) ?_; unfold Oper.wp execOp; simp only [Sem.run_pure, ev f0]; exact hK _ w' nofun (keep_same hS) rfl
        · intro vs u hl hS hV
          match vs, hl, hV with
          | [v0, v1, v2, v3, v4, v5, v6], _, hV =>
            simp only [puts, Act.put, List.setIfInBounds_toArray, List.set_cons_zero, List.set_cons_succ]
            have h6 := hV 6 _ rfl
            simp only [isV, List.getD_cons_succ, List.getD_cons_zero] at h6
            subst h6
            obtain ⟨C4, D0, D1, z1, z2, D2⟩ := hS
            replace C4 : Below w.heap.size w u := C4
            replace D2 : Own u (w.heap.size + 1 + 1) 24 #[.slice none 0 0, .bool false] := D2
            have q00 := Own.cell D0 0
            have q01 := Own.cell D0 1
            clear hV
            go_wp2_with (go_at_call 133; refine (unknown_any N sy _ (by omega)).mono ?_; rintro e w9 ⟨A9, c9, rfl, n9, hb9⟩; simp only [allV, tab_len] at n9 ⊢; have L1 := D2.lt; have W2 := D2.step hb9; have qW20 := W2.cell 0; have qW21 := W2.cell 1; have fW20 := W2.free 0; have fW21 := W2.free 1)
            exact ret_vec Tryz.results149 rfl rfl (W2.put2 _ _) (RetV.mk' (v := allV 2 N sy) ((n9.far2 L1 _ _).mono C4.size) (below_set2 (below_step C4 hb9) (by omega) _ _))
      case some z =>
        simp only
        go_enter Tryz.func149, Tryz.ntmps149
        go_wp2_with (first
          | (go_at_call 190; refine HB.out.mono ?_; rintro e w1 ⟨A1, c1, A2, c2, rfl, n1, n2, hb1⟩; replace BB := below_step BB hb1; replace O0 := O0.step hb1; replace O1 := O1.step hb1; have qO00 := O0.cell 0; have qO01 := O0.cell 1; have fO00 := O0.free 0; have fO01 := O0.free 1; have qO10 := O1.cell 0; have qO11 := O1.cell 1; have fO10 := O1.free 0; have fO11 := O1.free 1; have C1 := below_set2 (below_set2 BB (Nat.le_refl _) (.slice A1 N c1) (.bool sy)) (Nat.le_succ _) (.slice A2 N c2) (.bool sy); have U0 := (O0.put2 (.slice A1 N c1) (.bool sy)).far2 (Nat.ne_of_lt (Nat.lt_succ_self _)) (.slice A2 N c2) (.bool sy); have U1 := (O1.far2 (Nat.succ_ne_self _) (.slice A1 N c1) (.bool sy)).put2 (.slice A2 N c2) (.bool sy); have r1 := (n1.rd.set2 O0 (.slice A1 N c1) (.bool sy)).set2 (O1.far2 (Nat.succ_ne_self _) (.slice A1 N c1) (.bool sy)) (.slice A2 N c2) (.bool sy); have r2 := (n2.rd.set2 O0 (.slice A1 N c1) (.bool sy)).set2 (O1.far2 (Nat.succ_ne_self _) (.slice A1 N c1) (.bool sy)) (.slice A2 N c2) (.bool sy); have qU00 := U0.cell 0; have qU01 := U0.cell 1; have qU10 := U1.cell 0; have qU11 := U1.cell 1; replace O2 := O2.step hb1; have U2 := (O2.far2 (g := w.heap.size) (by omega) (.slice A1 N c1) (.bool sy)).far2 (g := w.heap.size + 1) (by omega) (.slice A2 N c2) (.bool sy))
          | (go_at_call 31; refine (HX.out _ A1 c1 r1).mono ?_; rintro e w2 ⟨rfl, hb2⟩; clear HX; have v0 := (U1.step hb2).cell 0; have v1 := (U1.step hb2).cell 1; have y2 := r2.step hb2)
          | (go_at_call 31; refine (HY.out _ A2 c2 y2).mono ?_; rintro e w3 ⟨rfl, hb3⟩))
        have E0 := (U0.step hb2).step hb3
        have E1 := (U1.step hb2).step hb3
        have E2 := (U2.step hb2).step hb3
        have z1 := (r1.step hb2).step hb3
        have z2 := (r2.step hb2).step hb3
        have C3 := below_step (below_step C1 hb2) hb3
        clear HB BB O0 O1 O2
        refine region_w (by kernel_rfl) (fun u => blw w u ∧ (owns w.heap.size #[.slice A1 N c1, .bool sy] u ∧ (owns (w.heap.size + 1) #[.slice A2 N c2, .bool sy] u ∧ (rds A1 N lx u ∧ (rds A2 N ly u ∧ owns (w.heap.size + 1 + 1) #[.slice none 0 0, .bool false] u))))) [tru, tru, tru, tru, tru, tru, tru] [isV (.func (.func g) #[] lb), isV (.agg #[.slice A1 N c1, .bool sy]), isNum N (num lx), isV (.agg #[.slice A2 N c2, .bool sy]), isNum N (num ly), isNum N z, isNum N z] [some 20, some 21, some 22, some 23, some 24, some 25, some 7] [[], [], [1], [], [3, 2], [0, 2, 4, 4], [5, 5, 0, 1, 2, 3, 4, 5]] (by kernel_rfl) (by kernel_rfl) rfl (by kernel_rfl) (by kernel_rfl) (by kernel_rfl) ⟨below_drew C3, E0.drew, E1.drew, z1.drew, z2.drew, E2.drew⟩ (by
          intro U hU
          simp only [List.mem_cons, List.not_mem_nil, or_false] at hU
          rcases hU with rfl | rfl | rfl | rfl | rfl | rfl | rfl
          all_goals first | trivial | trivial) ?_ ?_
        · refine ⟨?_, ?_, ?_, ?_, ?_, ?_, ?_, trivial⟩
          · intro a w' hS hO hF' hP K hK; have ha := hO 2 (by rfl); refine if_ok (by rfl) ?_; unfold Oper.wp execOp; simp only [Sem.run_pure, ev ha]; exact hK _ w' nofun (keep_same hS) rfl
          · intro a w' hS hO hF' hP K hK; have ha := hO 3 (by rfl); refine if_ok (by rfl) ?_; refine wp_load_row 24 (.tmp 3) rfl w.heap.size (ev ha) _ _ (0, 0) _ hS.2.1 Tryz.underlying24 rfl (by kernel_rfl) ?_; exact hK _ w' nofun (keep_same hS) rfl
          · intro a w' hS hO hF' hP K hK; obtain ⟨_, f0, rfl⟩ := (hF' 1 rfl).1 21 _ rfl rfl; refine if_ok (by rfl) ?_; refine wp_calls rfl (enters_of Tryz.func112 (by kernel_rfl) rfl) (args := #[.agg #[.slice A1 N c1, .bool sy]]) (by simp [Act.eval, f0]) ?_; refine (number_any A1 N c1 sy lx _ hS.2.2.2.1 (by omega)).mono ?_; rintro e w2 ⟨X1, x1, rfl, nn1, hb⟩; exact ⟨_, rfl, hK _ w2 nofun (keep_below hb hS) ⟨X1, x1, rfl, B.Nw.mono nn1 (Nat.zero_le _)⟩⟩
          · intro a w' hS hO hF' hP K hK; have ha := hO 4 (by rfl); refine if_ok (by rfl) ?_; refine wp_load_row 24 (.tmp 4) rfl (w.heap.size + 1) (ev ha) _ _ (0, 0) _ hS.2.2.1 Tryz.underlying24 rfl (by kernel_rfl) ?_; exact hK _ w' nofun (keep_same hS) rfl
          · intro a w' hS hO hF' hP K hK; obtain ⟨_, f0, rfl⟩ := (hF' 3 rfl).1 23 _ rfl rfl; refine if_ok (by rfl) ?_; refine wp_calls rfl (enters_of Tryz.func112 (by kernel_rfl) rfl) (args := #[.agg #[.slice A2 N c2, .bool sy]]) (by simp [Act.eval, f0]) ?_; refine (number_any A2 N c2 sy ly _ hS.2.2.2.2.1 (by omega)).mono ?_; rintro e w2 ⟨X1, x1, rfl, nn1, hb⟩; exact ⟨_, rfl, hK _ w2 nofun (keep_below hb hS) ⟨X1, x1, rfl, B.Nw.mono nn1 (Nat.zero_le _)⟩⟩
          · intro a w' hS hO hF' hP K hK; obtain ⟨_, f0, rfl⟩ := (hF' 0 rfl).1 20 _ rfl rfl; obtain ⟨_, f1, X1, x1, rfl, nn1⟩ := (hF' 2 rfl).1 22 _ rfl rfl; obtain ⟨_, f2, X2, x2, rfl, nn2⟩ := (hF' 4 rfl).1 24 _ rfl rfl; refine if_ok (by rfl) ?_; refine wp_callv (lb := lb) rfl (ev f0) eg (args := #[.slice X1 N x1, .slice X2 N x2]) (by simp [Act.eval, f1, f2]) ?_; refine (HF.out _ N X1 X2 x1 x2 (num lx) (num ly) hS.1 (by omega) (by omega) nn1.rd nn2.rd).mono ?_; rw [hr]; rintro e w2 ⟨X3, x3, rfl, nn3, hb⟩; exact ⟨_, rfl, hK _ w2 nofun (keep_below hb hS) ⟨X3, x3, rfl, B.Nw.mono nn3 (Nat.zero_le _)⟩⟩
          · intro a w' hS hO hF' hP K hK; obtain ⟨_, f0, X1, x1, rfl, nn1⟩ := (hF' 5 rfl).1 25 _ rfl rfl; refine if_ok (by rfl) ?_; unfold Oper.wp execOp; simp only [Sem.run_pure, ev f0]; exact hK _ w' nofun (keep_same hS) ⟨X1, x1, rfl, nn1⟩
        · intro vs u hl hS hV
          match vs, hl, hV with
          | [v0, v1, v2, v3, v4, v5, v6], _, hV =>
            simp only [puts, Act.put, List.setIfInBounds_toArray, List.set_cons_zero, List.set_cons_succ]
            have h6 := hV 6 _ rfl
            simp only [isNum, List.getD_cons_succ, List.getD_cons_zero] at h6
            obtain ⟨X, cX, rfl, nX⟩ := h6
            obtain ⟨bX, oX, rfl, _, _⟩ := nX.rd.at_ hbd.1
            obtain ⟨C4, D0, D1, z1, z2, D2⟩ := hS
            replace C4 : Below w.heap.size w u := C4
            replace D2 : Own u (w.heap.size + 1 + 1) 24 #[.slice none 0 0, .bool false] := D2
            have q00 := Own.cell D0 0
            have q01 := Own.cell D0 1
            clear hV
            go_wp2_with (go_at_call 130; refine (fromNumber_any _ N cX z sy _ nX.rd (by omega)).mono ?_; rintro e w9 ⟨A9, c9, rfl, n9, hb9⟩; simp only [frN_len] at n9 ⊢; have L1 := D2.lt; have W2 := D2.step hb9; have qW20 := W2.cell 0; have qW21 := W2.cell 1; have fW20 := W2.free 0; have fW21 := W2.free 1)
            exact ret_vec Tryz.results149 rfl rfl (W2.put2 _ _) (RetV.mk' (v := ⟨frN N z, sy⟩) ((n9.far2 L1 _ _).mono C4.size) (below_set2 (below_step C4 hb9) (by omega) _ _))
end Go.Proofs.YtognpmggfplekaaGreatDoor

namespace Go.Proofs.YtognpmggfplekaaGreatDoor
open Go Go.RowKit

def fAdd (n x y : Nat) : Option Nat := some ((x + y) % 2 ^ n)
theorem fa_Add (w : World) : Fa w 150 #[] fAdd := fun W N X Y cx cy x y _ _ hN rx ry => B.add_any X Y N cx x N cy y W rx ry (by omega) (by omega)
set_option maxHeartbeats 1000000 in
theorem vAdd_any (A Y : Option Addr) (n m c d : Nat) (s t : Bool) (l k : List Int) (w : World) (h : Rb w A n l) (h' : Rb w Y m k) :
    Calls Tryz.prog 56 #[.agg #[.slice A n c, .bool s], .agg #[.slice Y m d, .bool t]] w (RetV w (arV fAdd ⟨l, s⟩ ⟨k, t⟩)) := by
  have O0 := (((Own.at1 w 24 #[.slice A n c, .bool s] (g := w.heap.size) (by simp)).alloc (.cells #[.slice Y m d, .bool t] 24)).alloc (.cells #[.slice none 0 0, .bool false] 24))
  have O1 := ((Own.at1 (w.alloc (.cells #[.slice A n c, .bool s] 24)) 24 #[.slice Y m d, .bool t] (g := w.heap.size + 1) (by simp)).alloc (.cells #[.slice none 0 0, .bool false] 24))
  have O2 := (Own.at1 ((w.alloc (.cells #[.slice A n c, .bool s] 24)).alloc (.cells #[.slice Y m d, .bool t] 24)) 24 #[.slice none 0 0, .bool false] (g := w.heap.size + 1 + 1) (by simp))
  have BB := (below_new (below_new (below_new (Below.refl w.heap.size w) (.cells #[.slice A n c, .bool s] 24)) (.cells #[.slice Y m d, .bool t] 24)) (.cells #[.slice none 0 0, .bool false] 24))
  have HR := Lib.hid (arithmetic_v 150 #[] fAdd A Y n m c d s t l k _ (h.step BB) (h'.step BB) (enters_of Tryz.func150 (by kernel_rfl) rfl) (fa_Add _))
  generalize arV fAdd ⟨l, s⟩ ⟨k, t⟩ = z at *
  clear h h'
  go_enter Tryz.func56, Tryz.ntmps56
  go_wp2_with (go_at_call 149; refine HR.out.mono ?_; rintro e w1 ⟨A1, c1, rfl, n1, hb1⟩; have L1 := O2.lt; have U2 := O2.step hb1; have qU20 := U2.cell 0; have qU21 := U2.cell 1; have fU20 := U2.free 0; have fU21 := U2.free 1)
  exact ret_vec Tryz.results56 rfl rfl (U2.put2 _ _) (RetV.mk' (v := z) ((n1.far2 L1 _ _).mono BB.size) (below_set2 (below_step BB hb1) (by omega) _ _))
def fSub (n x y : Nat) : Option Nat := some (B.subv n x y)
theorem fa_Sub (w : World) : Fa w 173 #[] fSub := fun W N X Y cx cy x y _ _ hN rx ry => B.sub_any X Y N cx x N cy y W rx ry (by omega) (by omega)
set_option maxHeartbeats 1000000 in
theorem vSub_any (A Y : Option Addr) (n m c d : Nat) (s t : Bool) (l k : List Int) (w : World) (h : Rb w A n l) (h' : Rb w Y m k) :
    Calls Tryz.prog 86 #[.agg #[.slice A n c, .bool s], .agg #[.slice Y m d, .bool t]] w (RetV w (arV fSub ⟨l, s⟩ ⟨k, t⟩)) := by
  have O0 := (((Own.at1 w 24 #[.slice A n c, .bool s] (g := w.heap.size) (by simp)).alloc (.cells #[.slice Y m d, .bool t] 24)).alloc (.cells #[.slice none 0 0, .bool false] 24))
  have O1 := ((Own.at1 (w.alloc (.cells #[.slice A n c, .bool s] 24)) 24 #[.slice Y m d, .bool t] (g := w.heap.size + 1) (by simp)).alloc (.cells #[.slice none 0 0, .bool false] 24))
  have O2 := (Own.at1 ((w.alloc (.cells #[.slice A n c, .bool s] 24)).alloc (.cells #[.slice Y m d, .bool t] 24)) 24 #[.slice none 0 0, .bool false] (g := w.heap.size + 1 + 1) (by simp))
  have BB := (below_new (below_new (below_new (Below.refl w.heap.size w) (.cells #[.slice A n c, .bool s] 24)) (.cells #[.slice Y m d, .bool t] 24)) (.cells #[.slice none 0 0, .bool false] 24))
  have HR := Lib.hid (arithmetic_v 173 #[] fSub A Y n m c d s t l k _ (h.step BB) (h'.step BB) (enters_of Tryz.func173 (by kernel_rfl) rfl) (fa_Sub _))
  generalize arV fSub ⟨l, s⟩ ⟨k, t⟩ = z at *
  clear h h'
  go_enter Tryz.func86, Tryz.ntmps86
  go_wp2_with (go_at_call 149; refine HR.out.mono ?_; rintro e w1 ⟨A1, c1, rfl, n1, hb1⟩; have L1 := O2.lt; have U2 := O2.step hb1; have qU20 := U2.cell 0; have qU21 := U2.cell 1; have fU20 := U2.free 0; have fU21 := U2.free 1)
  exact ret_vec Tryz.results86 rfl rfl (U2.put2 _ _) (RetV.mk' (v := z) ((n1.far2 L1 _ _).mono BB.size) (below_set2 (below_step BB hb1) (by omega) _ _))

def Gd (G : Nat) (q r : Nat → Nat → Nat → Nat) : Prop := ∀ (W : World) (N : Nat) (X Y : Option Addr) (cx cy x y : Nat), 0 < N → N ≤ 128 → B.Rd W X N x → B.Rd W Y N y →
  Calls Tryz.prog G (#[.slice X N cx, .slice Y N cy] ++ #[]) W fun e w' => if y = 0 then e = .returned (.tuple #[.slice none 0 0, .slice none 0 0, .int .i64 7]) ∧ Below W.heap.size W w' else B.RetD W N (q N x y) (r N x y) e w'
theorem gd_u : Gd 202 (fun _ x y => x / y) (fun _ x y => x % y) := by
  intro W N X Y cx cy x y h0 hN rx ry
  by_cases hy : y = 0
  · subst hy
    simp only [if_true]
    exact (B.divmod_zero X Y N cx N cy W ry (by omega)).mono fun _ _ ⟨h1, h2⟩ => ⟨h1, h2 ▸ Below.refl _ _⟩
  · simp only [if_neg hy]
    exact B.divmod_any X Y N cx x N cy y W rx ry (by omega) (by omega) hy
theorem gd_s : Gd 203 (fun n x y => B.sq n x n y) (fun n x y => B.sr n x n y) := by
  intro W N X Y cx cy x y h0 hN rx ry
  by_cases hy : y = 0
  · subst hy
    simp only [if_true]
    exact B.sdivmod_zero X Y N cx x N cy W rx ry (by omega) (by omega)
  · simp only [if_neg hy]
    exact B.sdivmod_any X Y N cx x N cy y W rx ry (by omega) (by omega) hy
def Pk (p : Nat) (first : Bool) : Prop := ∀ (W : World) (u v : Value), Calls Tryz.prog p (#[u, v] ++ #[]) W fun e w' => e = .returned (if first then u else v) ∧ w' = W
theorem pk_div : Pk 152 true := by
  intro W u v
  show Calls _ _ #[u, v] W _
  go_enter Tryz.func152, Tryz.ntmps152
  go_wp2
  go_ret
  exact ⟨rfl, rfl⟩
theorem pk_mod : Pk 153 false := by
  intro W u v
  show Calls _ _ #[u, v] W _
  go_enter Tryz.func153, Tryz.ntmps153
  go_wp2
  go_ret
  exact ⟨rfl, rfl⟩
def dvF (first : Bool) (q r : Nat → Nat → Nat → Nat) (n x y : Nat) : Option Nat := if y = 0 then none else some (if first then q n x y else r n x y)
set_option maxHeartbeats 2000000 in
theorem dv1_any (G p : Nat) (first : Bool) (q r : Nat → Nat → Nat → Nat) (gd gp : Nat) (X Y : Option Addr) (N cx cy x y : Nat) (w : World) (eG : Ent G) (ep : Ent p) (hG : Gd G q r) (hp : Pk p first) (h0 : 0 < N) (hN : N ≤ 128) (rx : B.Rd w X N x) (ry : B.Rd w Y N y)
    (OD : Own w gd 127 #[.func (.func G) #[] #[]]) (OP : Own w gp 116 #[.func (.func p) #[] #[]]) :
    Calls Tryz.prog 204 #[.slice X N cx, .slice Y N cy, .pointer (some ⟨gd, 0, none⟩), .pointer (some ⟨gp, 0, none⟩)] w (ArP w N (dvF first q r N x y)) := by
  unfold Ent at eG ep
  have HG := Lib.hid (hG w N X Y cx cy x y h0 hN rx ry)
  have HP := Lib.hid hp
  have q0 := OD.cell 0
  have HO := Lib.hid OP
  clear hG hp OD OP rx ry
  unfold dvF
  by_cases hy : y = 0
  · simp only [if_pos hy] at HG ⊢
    unfold ArP
    clear hy
    go_enter Tryz.func204, Tryz.ntmps204
    go_wp2_with (go_at_fn G; refine HG.out.mono ?_; rintro e w1 ⟨rfl, hb1⟩)
    go_ret
    exact ⟨rfl, hb1⟩
  · simp only [if_neg hy] at HG ⊢
    unfold ArP
    clear hy
    simp only
    go_enter Tryz.func204, Tryz.ntmps204
    go_wp2_with (first
      | (go_at_fn G; refine HG.out.mono ?_; rintro e w1 ⟨A1, c1, A2, c2, rfl, n1, n2, hb1⟩; have p0 := (HO.out.step hb1).cell 0)
      | (go_at_fn p; refine (HP.out _ _ _).mono ?_; rintro e w2 ⟨rfl, rfl⟩))
    all_goals
      go_ret
      first | exact ⟨_, _, rfl, n1, hb1⟩ | exact ⟨_, _, rfl, n2, hb1⟩
theorem field1 (A : Option Addr) (n c : Nat) (b : Bool) (W : World) : (Instr.field 24 (.agg #[.slice A n c, .bool b]) 1).run Tryz.prog W = .ok (.bool b) W := by kernel_rfl
def divU (first : Bool) (n x y : Nat) : Option Nat := dvF first (fun _ x y => x / y) (fun _ x y => x % y) n x y
def divS (first : Bool) (n x y : Nat) : Option Nat := dvF first (fun n x y => B.sq n x n y) (fun n x y => B.sr n x n y) n x y
def divV (first : Bool) (a b : V) : V := arV (if balS a b then divS first else divU first) a b
theorem ent_dm : Ent 202 := enters_of Tryz.func202 (by kernel_rfl) rfl
theorem ent_sdm : Ent 203 := enters_of Tryz.func203 (by kernel_rfl) rfl
theorem ent_dv1 : Ent 204 := enters_of Tryz.func204 (by kernel_rfl) rfl
set_option maxHeartbeats 4000000 in
theorem divide_v (p : Nat) (first : Bool) (A Y : Option Addr) (n m c d : Nat) (s t : Bool) (l k : List Int) (w : World) (h : Rb w A n l) (h' : Rb w Y m k) (ep : Ent p) (hp : Pk p first) :
    Calls Tryz.prog 151 #[.agg #[.slice A n c, .bool s], .agg #[.slice Y m d, .bool t], .func (.func p) #[] #[]] w (RetV w (divV first ⟨l, s⟩ ⟨k, t⟩)) := by
  have O0 := (((((Own.at1 w 24 #[.slice A n c, .bool s] (g := w.heap.size) (by simp)).alloc (.cells #[.slice Y m d, .bool t] 24)).alloc (.cells #[.func (.func p) #[] #[]] 116)).alloc (.cells #[.slice none 0 0, .bool false] 24)).alloc (.cells #[.func (.func 202) #[] #[]] 127))
  have O1 := ((((Own.at1 (w.alloc (.cells #[.slice A n c, .bool s] 24)) 24 #[.slice Y m d, .bool t] (g := w.heap.size + 1) (by simp)).alloc (.cells #[.func (.func p) #[] #[]] 116)).alloc (.cells #[.slice none 0 0, .bool false] 24)).alloc (.cells #[.func (.func 202) #[] #[]] 127))
  have O2 := (((Own.at1 ((w.alloc (.cells #[.slice A n c, .bool s] 24)).alloc (.cells #[.slice Y m d, .bool t] 24)) 116 #[.func (.func p) #[] #[]] (g := w.heap.size + 1 + 1) (by simp)).alloc (.cells #[.slice none 0 0, .bool false] 24)).alloc (.cells #[.func (.func 202) #[] #[]] 127))
  have O3 := ((Own.at1 (((w.alloc (.cells #[.slice A n c, .bool s] 24)).alloc (.cells #[.slice Y m d, .bool t] 24)).alloc (.cells #[.func (.func p) #[] #[]] 116)) 24 #[.slice none 0 0, .bool false] (g := w.heap.size + 1 + 1 + 1) (by simp)).alloc (.cells #[.func (.func 202) #[] #[]] 127))
  have O4 := (Own.at1 ((((w.alloc (.cells #[.slice A n c, .bool s] 24)).alloc (.cells #[.slice Y m d, .bool t] 24)).alloc (.cells #[.func (.func p) #[] #[]] 116)).alloc (.cells #[.slice none 0 0, .bool false] 24)) 127 #[.func (.func 202) #[] #[]] (g := w.heap.size + 1 + 1 + 1 + 1) (by simp))
  have BB := (below_new (below_new (below_new (below_new (below_new (Below.refl w.heap.size w) (.cells #[.slice A n c, .bool s] 24)) (.cells #[.slice Y m d, .bool t] 24)) (.cells #[.func (.func p) #[] #[]] 116)) (.cells #[.slice none 0 0, .bool false] 24)) (.cells #[.func (.func 202) #[] #[]] 127))
  have HA := Lib.hid (fun (u : World) (hb : Below w.heap.size w u) => operand_any A n c s l u (h.step hb))
  have HB := Lib.hid (fun (u : World) (hb : Below w.heap.size w u) => operand_any Y m d t k u (h'.step hb))
  have HR := Lib.hid (fun (u : World) (F : Nat → Nat → Nat → Option Nat) (hb : Below w.heap.size w u) (hF : Fa u 204 #[.pointer (some ⟨w.heap.size + 1 + 1 + 1 + 1, 0, none⟩), .pointer (some ⟨w.heap.size + 1 + 1, 0, none⟩)] F) =>
    arithmetic_v 204 #[.pointer (some ⟨w.heap.size + 1 + 1 + 1 + 1, 0, none⟩), .pointer (some ⟨w.heap.size + 1 + 1, 0, none⟩)] F A Y n m c d s t l k u (h.step hb) (h'.step hb) ent_dv1 hF)
  have HD := Lib.hid (fun (u : World) (G : Nat) (q r : Nat → Nat → Nat → Nat) (eG : Ent G) (hG : Gd G q r) (OD : Own u (w.heap.size + 1 + 1 + 1 + 1) 127 #[.func (.func G) #[] #[]]) (OP : Own u (w.heap.size + 1 + 1) 116 #[.func (.func p) #[] #[]]) =>
    (show Fa u 204 #[.pointer (some ⟨w.heap.size + 1 + 1 + 1 + 1, 0, none⟩), .pointer (some ⟨w.heap.size + 1 + 1, 0, none⟩)] (dvF first q r) from fun W N X Z cx cy x y hW h0 hN rx ry => dv1_any G p first q r _ _ X Z N cx cy x y W eG ep hG hp h0 hN rx ry (OD.step hW) (OP.step hW)))
  unfold divV balS
  generalize nrm ⟨l, s⟩ = x at *
  generalize nrm ⟨k, t⟩ = y at *
  obtain ⟨lx, sx⟩ := x
  obtain ⟨ly, sy⟩ := y
  simp only
  have hfl := field1
  clear h h'
  rcases hsg : sx with _ | _
  · subst hsg
    simp only [Bool.false_and, Bool.false_eq_true, if_false]
    go_enter Tryz.func151, Tryz.ntmps151
    go_wp2_with (first
      | (go_at_call 117; refine (HA.out _ BB).mono ?_; rintro e w1 ⟨A1, c1, rfl, r1, hb1⟩; clear HA; replace BB := below_step BB hb1; replace O0 := O0.step hb1; replace O1 := O1.step hb1; replace O2 := O2.step hb1; replace O3 := O3.step hb1; replace O4 := O4.step hb1; have qa0 := O0.cell 0; have qa1 := O0.cell 1; have qb0 := O1.cell 0; have qb1 := O1.cell 1; have qc0 := O4.cell 0; have fc0 := O4.free 0)
      | (go_at_call 149; refine (HR.out _ _ BB (HD.out _ _ _ _ ent_dm gd_u O4 O2)).mono ?_; rintro e w9 ⟨A9, c9, rfl, n9, hb9⟩; have L1 := O3.lt; have W2 := O3.step hb9; have qW20 := W2.cell 0; have qW21 := W2.cell 1; have fW20 := W2.free 0; have fW21 := W2.free 1))
    exact ret_vec Tryz.results151 rfl rfl (W2.put2 _ _) (RetV.mk' (v := arV (divU first) ⟨l, s⟩ ⟨k, t⟩) ((n9.far2 L1 _ _).mono BB.size) (below_set2 (below_step BB hb9) (by omega) _ _))
  · subst hsg
    rcases hsh : sy with _ | _
    · subst hsh
      simp only [Bool.and_false, Bool.false_eq_true, if_false]
      go_enter Tryz.func151, Tryz.ntmps151
      go_wp2_with (first
        | (go_at_call 117; refine (HA.out _ BB).mono ?_; rintro e w1 ⟨A1, c1, rfl, r1, hb1⟩; clear HA; replace BB := below_step BB hb1; replace O0 := O0.step hb1; replace O1 := O1.step hb1; replace O2 := O2.step hb1; replace O3 := O3.step hb1; replace O4 := O4.step hb1; have qa0 := O0.cell 0; have qa1 := O0.cell 1; have qb0 := O1.cell 0; have qb1 := O1.cell 1; have qc0 := O4.cell 0; have fc0 := O4.free 0)
        | (go_at_call 117; refine (HB.out _ BB).mono ?_; rintro e w2 ⟨A2, c2, rfl, r2, hb2⟩; clear qa0 qa1 qb0 qb1 qc0 fc0; replace BB := below_step BB hb2; replace O0 := O0.step hb2; replace O1 := O1.step hb2; replace O2 := O2.step hb2; replace O3 := O3.step hb2; replace O4 := O4.step hb2; have qa0 := O0.cell 0; have qa1 := O0.cell 1; have qb0 := O1.cell 0; have qb1 := O1.cell 1; have qc0 := O4.cell 0; have fc0 := O4.free 0)
        | (go_at_call 149; refine (HR.out _ _ BB (HD.out _ _ _ _ ent_dm gd_u O4 O2)).mono ?_; rintro e w9 ⟨A9, c9, rfl, n9, hb9⟩; have L1 := O3.lt; have W2 := O3.step hb9; have qW20 := W2.cell 0; have qW21 := W2.cell 1; have fW20 := W2.free 0; have fW21 := W2.free 1))
      exact ret_vec Tryz.results151 rfl rfl (W2.put2 _ _) (RetV.mk' (v := arV (divU first) ⟨l, s⟩ ⟨k, t⟩) ((n9.far2 L1 _ _).mono BB.size) (below_set2 (below_step BB hb9) (by omega) _ _))
    · subst hsh
      simp only [Bool.and_true, if_true]
      go_enter Tryz.func151, Tryz.ntmps151
      go_wp2_with (first
        | (go_at_call 117; refine (HA.out _ BB).mono ?_; rintro e w1 ⟨A1, c1, rfl, r1, hb1⟩; clear HA; replace BB := below_step BB hb1; replace O0 := O0.step hb1; replace O1 := O1.step hb1; replace O2 := O2.step hb1; replace O3 := O3.step hb1; replace O4 := O4.step hb1; have qa0 := O0.cell 0; have qa1 := O0.cell 1; have qb0 := O1.cell 0; have qb1 := O1.cell 1; have qc0 := O4.cell 0; have fc0 := O4.free 0)
        | (go_at_call 117; refine (HB.out _ BB).mono ?_; rintro e w2 ⟨A2, c2, rfl, r2, hb2⟩; clear qa0 qa1 qb0 qb1 qc0 fc0; replace BB := below_step BB hb2; replace O0 := O0.step hb2; replace O1 := O1.step hb2; replace O2 := O2.step hb2; replace O3 := O3.step hb2; replace O4 := O4.step hb2; have qa0 := O0.cell 0; have qa1 := O0.cell 1; have qb0 := O1.cell 0; have qb1 := O1.cell 1; have qc0 := O4.cell 0; have fc0 := O4.free 0)
        | (go_at_call 149; have ne2 : w.heap.size + 1 + 1 ≠ w.heap.size + 1 + 1 + 1 + 1 := (by omega); have ne3 : w.heap.size + 1 + 1 + 1 ≠ w.heap.size + 1 + 1 + 1 + 1 := (by omega); have le4 : w.heap.size ≤ w.heap.size + 1 + 1 + 1 + 1 := (by omega); have B3 := below_set (p := ⟨w.heap.size + 1 + 1 + 1 + 1, 0, none⟩) BB le4 (.func (.func 203) #[] #[]); have U3 := O3.far (p := ⟨w.heap.size + 1 + 1 + 1 + 1, 0, none⟩) ne3 (.func (.func 203) #[] #[]); have U2 := O2.far (p := ⟨w.heap.size + 1 + 1 + 1 + 1, 0, none⟩) ne2 (.func (.func 203) #[] #[]); have U4 := O4.put 0 (.func (.func 203) #[] #[]); simp only [List.setIfInBounds_toArray, List.set_cons_zero] at U4; refine (HR.out _ _ B3 (HD.out _ _ _ _ ent_sdm gd_s U4 U2)).mono ?_; rintro e w9 ⟨A9, c9, rfl, n9, hb9⟩; have L1 := U3.lt; have W2 := U3.step hb9; have qW20 := W2.cell 0; have qW21 := W2.cell 1; have fW20 := W2.free 0; have fW21 := W2.free 1))
      exact ret_vec Tryz.results151 rfl rfl (W2.put2 _ _) (RetV.mk' (v := arV (divS first) ⟨l, s⟩ ⟨k, t⟩) ((n9.far2 L1 _ _).mono B3.size) (below_set2 (below_step B3 hb9) (by omega) _ _))
set_option maxHeartbeats 1000000 in
theorem vDiv_any (A Y : Option Addr) (n m c d : Nat) (s t : Bool) (l k : List Int) (w : World) (h : Rb w A n l) (h' : Rb w Y m k) :
    Calls Tryz.prog 58 #[.agg #[.slice A n c, .bool s], .agg #[.slice Y m d, .bool t]] w (RetV w (divV true ⟨l, s⟩ ⟨k, t⟩)) := by
  have O0 := (((Own.at1 w 24 #[.slice A n c, .bool s] (g := w.heap.size) (by simp)).alloc (.cells #[.slice Y m d, .bool t] 24)).alloc (.cells #[.slice none 0 0, .bool false] 24))
  have O1 := ((Own.at1 (w.alloc (.cells #[.slice A n c, .bool s] 24)) 24 #[.slice Y m d, .bool t] (g := w.heap.size + 1) (by simp)).alloc (.cells #[.slice none 0 0, .bool false] 24))
  have O2 := (Own.at1 ((w.alloc (.cells #[.slice A n c, .bool s] 24)).alloc (.cells #[.slice Y m d, .bool t] 24)) 24 #[.slice none 0 0, .bool false] (g := w.heap.size + 1 + 1) (by simp))
  have BB := (below_new (below_new (below_new (Below.refl w.heap.size w) (.cells #[.slice A n c, .bool s] 24)) (.cells #[.slice Y m d, .bool t] 24)) (.cells #[.slice none 0 0, .bool false] 24))
  have HR := Lib.hid (divide_v 152 true A Y n m c d s t l k _ (h.step BB) (h'.step BB) (enters_of Tryz.func152 (by kernel_rfl) rfl) pk_div)
  generalize divV true ⟨l, s⟩ ⟨k, t⟩ = z at *
  clear h h'
  go_enter Tryz.func58, Tryz.ntmps58
  go_wp2_with (go_at_call 151; refine HR.out.mono ?_; rintro e w1 ⟨A1, c1, rfl, n1, hb1⟩; have L1 := O2.lt; have U2 := O2.step hb1; have qU20 := U2.cell 0; have qU21 := U2.cell 1; have fU20 := U2.free 0; have fU21 := U2.free 1)
  exact ret_vec Tryz.results58 rfl rfl (U2.put2 _ _) (RetV.mk' (v := z) ((n1.far2 L1 _ _).mono BB.size) (below_set2 (below_step BB hb1) (by omega) _ _))
set_option maxHeartbeats 1000000 in
theorem vMod_any (A Y : Option Addr) (n m c d : Nat) (s t : Bool) (l k : List Int) (w : World) (h : Rb w A n l) (h' : Rb w Y m k) :
    Calls Tryz.prog 60 #[.agg #[.slice A n c, .bool s], .agg #[.slice Y m d, .bool t]] w (RetV w (divV false ⟨l, s⟩ ⟨k, t⟩)) := by
  have O0 := (((Own.at1 w 24 #[.slice A n c, .bool s] (g := w.heap.size) (by simp)).alloc (.cells #[.slice Y m d, .bool t] 24)).alloc (.cells #[.slice none 0 0, .bool false] 24))
  have O1 := ((Own.at1 (w.alloc (.cells #[.slice A n c, .bool s] 24)) 24 #[.slice Y m d, .bool t] (g := w.heap.size + 1) (by simp)).alloc (.cells #[.slice none 0 0, .bool false] 24))
  have O2 := (Own.at1 ((w.alloc (.cells #[.slice A n c, .bool s] 24)).alloc (.cells #[.slice Y m d, .bool t] 24)) 24 #[.slice none 0 0, .bool false] (g := w.heap.size + 1 + 1) (by simp))
  have BB := (below_new (below_new (below_new (Below.refl w.heap.size w) (.cells #[.slice A n c, .bool s] 24)) (.cells #[.slice Y m d, .bool t] 24)) (.cells #[.slice none 0 0, .bool false] 24))
  have HR := Lib.hid (divide_v 153 false A Y n m c d s t l k _ (h.step BB) (h'.step BB) (enters_of Tryz.func153 (by kernel_rfl) rfl) pk_mod)
  generalize divV false ⟨l, s⟩ ⟨k, t⟩ = z at *
  clear h h'
  go_enter Tryz.func60, Tryz.ntmps60
  go_wp2_with (go_at_call 151; refine HR.out.mono ?_; rintro e w1 ⟨A1, c1, rfl, n1, hb1⟩; have L1 := O2.lt; have U2 := O2.step hb1; have qU20 := U2.cell 0; have qU21 := U2.cell 1; have fU20 := U2.free 0; have fU21 := U2.free 1)
  exact ret_vec Tryz.results60 rfl rfl (U2.put2 _ _) (RetV.mk' (v := z) ((n1.far2 L1 _ _).mono BB.size) (below_set2 (below_step BB hb1) (by omega) _ _))
end Go.Proofs.YtognpmggfplekaaGreatDoor

namespace Go.Proofs.YtognpmggfplekaaGreatDoor
open Go Go.RowKit

def cdF (z x y : Int) : Int := if z = 1 then x else if z = 0 then y else muxI 2 x y
theorem cd1_any (gc : Nat) (z x y : Int) (w : World) (OC : Own w gc 48 #[.int .u8 z]) (h0 : 0 ≤ x) (h1 : 0 ≤ y) (TT : Tabs w) :
    Calls Tryz.prog 144 #[.int .u8 x, .int .u8 y, .pointer (some ⟨gc, 0, none⟩)] w fun e w' => e = .returned (.int .u8 (cdF z x y)) ∧ Below w.heap.size w w' := by
  have q0 := OC.cell 0
  have HM := Lib.hid (b_mux w 2 h0 h1 TT)
  clear OC h0 h1 TT
  unfold cdF
  by_cases e1 : z = 1
  · subst e1
    rw [if_pos rfl]
    go_enter Tryz.func144, Tryz.ntmps144
    go_wp2
    go_ret
    exact ⟨rfl, Below.refl _ _⟩
  · rw [if_neg e1]
    have d1 : (z == 1) = false := by simpa using e1
    by_cases e0 : z = 0
    · subst e0
      rw [if_pos rfl]
      go_enter Tryz.func144, Tryz.ntmps144
      go_wp2
      go_ret
      exact ⟨rfl, Below.refl _ _⟩
    · rw [if_neg e0]
      have d0 : (z == 0) = false := by simpa using e0
      clear e0 e1
      go_enter Tryz.func144, Tryz.ntmps144
      go_wp2_with (go_at_call 145; refine HM.out.mono ?_; rintro e w1 ⟨rfl, hb1⟩)
      go_ret
      exact ⟨rfl, hb1⟩
theorem cdF_nn (z a b : Int) (h0 : 0 ≤ a) (h1 : 0 ≤ b) : 0 ≤ cdF z a b := by
  unfold cdF; split; exact h0; (split; exact h1; exact (muxI_bd _ _ _).1)
theorem ent_cd1 : Ent 144 := enters_of Tryz.func144 (by kernel_rfl) rfl
def condV (sel a b : V) : V := bwV (cdF (truth sel)) a b
set_option maxHeartbeats 4000000 in
theorem cond_any (Z : Option Addr) (q e : Nat) (r : Bool) (j : List Int) (A Y : Option Addr) (n m c d : Nat) (s t : Bool) (l k : List Int) (w : World) (h : Rb w A n l) (h' : Rb w Y m k) (h2 : Rb w Z q j) (hcap : q ≤ e) (TT : Tabs w) :
    Calls Tryz.prog 51 #[.agg #[.slice Z q e, .bool r], .agg #[.slice A n c, .bool s], .agg #[.slice Y m d, .bool t]] w (RetV w (condV ⟨j, r⟩ ⟨l, s⟩ ⟨k, t⟩)) := by
  have O0 := ((((Own.at1 w 24 #[.slice Z q e, .bool r] (g := w.heap.size) (by simp)).alloc (.cells #[.slice A n c, .bool s] 24)).alloc (.cells #[.slice Y m d, .bool t] 24)).alloc (.cells #[.slice none 0 0, .bool false] 24))
  have O1 := (((Own.at1 (w.alloc (.cells #[.slice Z q e, .bool r] 24)) 24 #[.slice A n c, .bool s] (g := w.heap.size + 1) (by simp)).alloc (.cells #[.slice Y m d, .bool t] 24)).alloc (.cells #[.slice none 0 0, .bool false] 24))
  have O2 := ((Own.at1 ((w.alloc (.cells #[.slice Z q e, .bool r] 24)).alloc (.cells #[.slice A n c, .bool s] 24)) 24 #[.slice Y m d, .bool t] (g := w.heap.size + 1 + 1) (by simp)).alloc (.cells #[.slice none 0 0, .bool false] 24))
  have O3 := (Own.at1 (((w.alloc (.cells #[.slice Z q e, .bool r] 24)).alloc (.cells #[.slice A n c, .bool s] 24)).alloc (.cells #[.slice Y m d, .bool t] 24)) 24 #[.slice none 0 0, .bool false] (g := w.heap.size + 1 + 1 + 1) (by simp))
  have BB := (below_new (below_new (below_new (below_new (Below.refl w.heap.size w) (.cells #[.slice Z q e, .bool r] 24)) (.cells #[.slice A n c, .bool s] 24)) (.cells #[.slice Y m d, .bool t] 24)) (.cells #[.slice none 0 0, .bool false] 24))
  have HT := Lib.hid (truth_any Z q e r j _ (h2.step BB) hcap (TT.step BB))
  unfold condV
  generalize truth ⟨j, r⟩ = z at *
  have HR := Lib.hid (fun (u : World) (g : Nat) (hb : Below w.heap.size w u) (O : Own u g 48 #[.int .u8 z]) => bitwise_any 144 #[.pointer (some ⟨g, 0, none⟩)] (cdF z) A Y n m c d s t l k u ent_cd1 (fun W a b hW ha hb' => cd1_any g z a b W (O.step hW) ha hb' (TT.step (below_step hb hW))) (cdF_nn z) (h.step hb) (h'.step hb))
  generalize bwV (cdF z) ⟨l, s⟩ ⟨k, t⟩ = x at *
  clear h h' h2 TT
  go_enter Tryz.func51, Tryz.ntmps51
  go_wp2_with (first
    | (go_at_call 35; refine HT.out.mono ?_; rintro e w1 ⟨rfl, hb1⟩; replace BB := below_step BB hb1; replace O1 := O1.step hb1; replace O2 := O2.step hb1; replace O3 := O3.step hb1; have qO10 := O1.cell 0; have qO11 := O1.cell 1; have fO10 := O1.free 0; have fO11 := O1.free 1; have qO20 := O2.cell 0; have qO21 := O2.cell 1; have fO20 := O2.free 0; have fO21 := O2.free 1; have l1 := O1.lt; have l2 := O2.lt)
    | (go_at_call 143; refine (HR.out _ _ (below_new BB _) (Own.new _ _ _)).mono ?_; rintro e w9 ⟨A9, c9, rfl, n9, hb9⟩; have U3 := O3.alloc (.cells #[.int .u8 z] 48); have L1 := U3.lt; have W2 := U3.step hb9; have qW20 := W2.cell 0; have qW21 := W2.cell 1; have fW20 := W2.free 0; have fW21 := W2.free 1))
  exact ret_vec Tryz.results51 rfl rfl (W2.put2 _ _) (RetV.mk' (v := x) ((n9.far2 L1 _ _).mono (below_new BB (.cells #[.int .u8 z] 48)).size) (below_set2 (below_step (below_new BB (.cells #[.int .u8 z] 48)) hb9) (by omega) _ _))
end Go.Proofs.YtognpmggfplekaaGreatDoor
