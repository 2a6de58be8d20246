/-
  Contracts of the reference's operators with two operands. Conditions: at most 1000 bits an operand.
-/
import Derived.Test.YtognpmggfplekaaGreatDoorPaWs
set_option maxRecDepth 100000
namespace Go.Proofs.YtognpmggfplekaaGreatDoor
open Go Go.RowKit

theorem buf_and {e : Int} (h : 0 ≤ e) (h' : e ≤ 2) : andI 1 e = bufI e := by
  rcases (show e = 0 ∨ e = 1 ∨ e = 2 by omega) with rfl | rfl | rfl <;> rfl
theorem eqf_red (x y : List Int) (N : Nat) : ∀ k, k < N → eqf x y (k + 1) = redU andI (tab N fun i => eqI (nth x i) (nth y i)) k
  | 0, h => by
    show andI 1 (eqI (nth x 0) (nth y 0)) = bufI (nth (tab N fun i => eqI (nth x i) (nth y i)) 0)
    rw [nth_tab _ h]
    have := eqI_bd (nth x 0) (nth y 0)
    exact buf_and this.1 this.2
  | k + 1, h => by
    show andI (eqf x y (k + 1)) _ = andI (redU andI _ k) (nth (tab N fun i => eqI (nth x i) (nth y i)) (k + 1))
    rw [eqf_red x y N k (by omega), nth_tab _ h]
theorem bwe_ok (a b : V) : okB (bwV eqI a b).l = true := ok_mk (by have := balN_bd a b; rw [bwV, tab_len]; exact this.1) (len_bw _ _ _) fun i hi => by
  rw [bwV, tab_len] at hi
  rw [bwV, nth_tab _ hi]
  have := eqI_bd (nth (balL a b).l i) (nth (balR a b).l i)
  omega
theorem eqf_eqV (a b : V) : eqf (balL a b).l (balR a b).l (balN a b) = eqV a b := by
  unfold eqV red
  rw [nrm_of (bwe_ok a b)]
  have hb := (balN_bd a b).1
  have e : (bwV eqI a b).l.length - 1 + 1 = balN a b := by unfold bwV; rw [tab_len]; omega
  have := eqf_red (balL a b).l (balR a b).l (balN a b) ((bwV eqI a b).l.length - 1) (by omega)
  rw [e] at this
  exact this
theorem stI_ok {a : Int} (h : a ≤ 3) : stI a = a := by unfold stI; rw [if_neg (by omega)]
theorem smf_mt {x y : List Int} (hx : okB x = true) (hy : okB y = true) (N : Nat) : smf x y N = mtL noW x y N := by
  unfold smf mtL
  congr 1
  funext i
  unfold tst sameB noW
  rw [stI_ok (ok_le hx i), stI_ok (ok_le hy i)]
  simp
theorem not_from (b : Bool) : fromI (!b) = notI (fromI b) := by cases b <;> rfl
theorem cmW_nn (op : Int) (N : Nat) (S : Bool) (x y : List Int) : 0 ≤ cmW op N S x y := by
  have hf : ∀ b, 0 ≤ fromI b := fun b => by cases b <;> decide
  have hr : ∀ p, 0 ≤ cmR p N S x y := fun p => by unfold cmR; split; exact hf _; decide
  unfold cmW
  repeat' split
  all_goals first | exact hf _ | exact hr _ | exact eqf_nn _ _ _ | exact (notI_bd _).1
theorem truth_bd0 (a : V) : 0 ≤ truth a := (redU_bd orI_bd _ _).1
theorem rSingle_w (b : Int) (w : World) (hb : 0 ≤ b) : Calls Tryz.prog 99 #[.int .u8 b] w (RetW w (one1 b)) := by
  have U0 := (Own.at1 w 24 #[.slice (some ⟨w.heap.size + 1, 0, none⟩) 1 1, .bool false] (g := w.heap.size) rfl).alloc (.cells #[.int .u8 b] 48)
  have BD := below_new (below_new (Below.refl w.heap.size w) (.cells #[.slice (some ⟨w.heap.size + 1, 0, none⟩) 1 1, .bool false] 24)) (.cells #[.int .u8 b] 48)
  have hN : Nb ((w.alloc (.cells #[.slice (some ⟨w.heap.size + 1, 0, none⟩) 1 1, .bool false] 24)).alloc (.cells #[.int .u8 b] 48)) w.heap.size (some ⟨w.heap.size + 1, 0, none⟩) 1 1 [b] := Nb.of_own (l := [b]) (Own.at1 (w.alloc (.cells #[.slice (some ⟨w.heap.size + 1, 0, none⟩) 1 1, .bool false] 24)) 48 #[.int .u8 b] (g := w.heap.size + 1) (by simp)) (nnL_one hb) rfl (by omega) (by decide)
  go_enter Tryz.func99, Tryz.ntmps99
  go_wp2
  exact ret_vec Tryz.results99 rfl rfl U0 ⟨_, _, _, rfl, Nat.le_refl _, by omega, hN, BD⟩
set_option maxHeartbeats 4000000 in
theorem rbin_pow (A Y : Option Addr) (n m c d : Nat) (s t : Bool) (l k : List Int) (w : World) (h : Rb w A n l) (h' : Rb w Y m k) (hn : n ≤ 1000) (hm : m ≤ 1000) : Calls Tryz.prog 20 #[.int .u8 26, .agg #[.slice A n c, .bool s], .agg #[.slice Y m d, .bool t]] w (RetV w (powV ⟨l, s⟩ ⟨k, t⟩)) := by
  have O0 := (((Own.at1 w 24 #[.slice A n c, .bool s] (g := w.heap.size) (by simp)).alloc (.cells #[.slice Y m d, .bool t] 24)).alloc (.cells #[.slice none 0 0, .bool false] 24))
  have O1 := ((Own.at1 (w.alloc (.cells #[.slice A n c, .bool s] 24)) 24 #[.slice Y m d, .bool t] (g := w.heap.size + 1) (by simp)).alloc (.cells #[.slice none 0 0, .bool false] 24))
  have O2 := (Own.at1 ((w.alloc (.cells #[.slice A n c, .bool s] 24)).alloc (.cells #[.slice Y m d, .bool t] 24)) 24 #[.slice none 0 0, .bool false] (g := w.heap.size + 1 + 1) (by simp))
  have BB := (below_new (below_new (below_new (Below.refl w.heap.size w) (.cells #[.slice A n c, .bool s] 24)) (.cells #[.slice Y m d, .bool t] 24)) (.cells #[.slice none 0 0, .bool false] 24))
  have HP := Lib.hid (rPower_any A Y n m c d s t l k _ (h.step BB) (h'.step BB) hn hm)
  have q00 := O0.cell 0
  have q01 := O0.cell 1
  have q10 := O1.cell 0
  have q11 := O1.cell 1
  have q20 := O2.cell 0
  have q21 := O2.cell 1
  have f20 := O2.free 0
  have f21 := O2.free 1
  clear h h'
  go_enter Tryz.func20, Tryz.ntmps20
  go_wp2_with (go_at_call 101; refine HP.out.mono ?_; rintro e w9 ⟨A9, c9, rfl, n9, hb9⟩; have L1 := O2.lt; have W2 := O2.step hb9; have qW20 := W2.cell 0; have qW21 := W2.cell 1; have fW20 := W2.free 0; have fW21 := W2.free 1)
  exact ret_vec Tryz.results20 rfl rfl (W2.put2 _ _) (mk_ret (v := powV ⟨l, s⟩ ⟨k, t⟩) ((n9.far2 L1 _ _).mono BB.size) (below_set2 (below_step BB hb9) (by omega) _ _))
set_option maxHeartbeats 4000000 in
theorem rbin_sh (op : Int) (hop : (op = 41 ∨ op = 43) ∨ op = 42 ∨ op = 44) (A Y : Option Addr) (n m c d : Nat) (s t : Bool) (l k : List Int) (w : World) (h : Rb w A n l) (h' : Rb w Y m k) (hn : n ≤ 1000) (hm : m ≤ 1000) : Calls Tryz.prog 20 #[.int .u8 op, .agg #[.slice A n c, .bool s], .agg #[.slice Y m d, .bool t]] w (RetV w (shW op (nrm ⟨l, s⟩) (nrm ⟨k, t⟩))) := by
  have O0 := (((Own.at1 w 24 #[.slice A n c, .bool s] (g := w.heap.size) (by simp)).alloc (.cells #[.slice Y m d, .bool t] 24)).alloc (.cells #[.slice none 0 0, .bool false] 24))
  have O1 := ((Own.at1 (w.alloc (.cells #[.slice A n c, .bool s] 24)) 24 #[.slice Y m d, .bool t] (g := w.heap.size + 1) (by simp)).alloc (.cells #[.slice none 0 0, .bool false] 24))
  have O2 := (Own.at1 ((w.alloc (.cells #[.slice A n c, .bool s] 24)).alloc (.cells #[.slice Y m d, .bool t] 24)) 24 #[.slice none 0 0, .bool false] (g := w.heap.size + 1 + 1) (by simp))
  have BB := (below_new (below_new (below_new (Below.refl w.heap.size w) (.cells #[.slice A n c, .bool s] 24)) (.cells #[.slice Y m d, .bool t] 24)) (.cells #[.slice none 0 0, .bool false] 24))
  have HP := Lib.hid (rShift_any op hop A Y n m c d s t l k _ (h.step BB) (h'.step BB) hn hm)
  have q00 := O0.cell 0
  have q01 := O0.cell 1
  have q10 := O1.cell 0
  have q11 := O1.cell 1
  have q20 := O2.cell 0
  have q21 := O2.cell 1
  have f20 := O2.free 0
  have f21 := O2.free 1
  clear h h'
  rcases hop with (rfl | rfl) | rfl | rfl
  all_goals
    go_enter Tryz.func20, Tryz.ntmps20
    go_wp2_with (go_at_call 102; refine HP.out.mono ?_; rintro e w9 ⟨A9, c9, rfl, n9, hb9⟩; have L1 := O2.lt; have W2 := O2.step hb9; have qW20 := W2.cell 0; have qW21 := W2.cell 1; have fW20 := W2.free 0; have fW21 := W2.free 1)
    exact ret_vec Tryz.results20 rfl rfl (W2.put2 _ _) (mk_ret (v := shW _ (nrm ⟨l, s⟩) (nrm ⟨k, t⟩)) ((n9.far2 L1 _ _).mono BB.size) (below_set2 (below_step BB hb9) (by omega) _ _))
set_option maxHeartbeats 4000000 in
theorem rbin_land (A Y : Option Addr) (n m c d : Nat) (s t : Bool) (l k : List Int) (w : World) (h : Rb w A n l) (h' : Rb w Y m k) (hn : n ≤ 1000) (hm : m ≤ 1000) : Calls Tryz.prog 20 #[.int .u8 35, .agg #[.slice A n c, .bool s], .agg #[.slice Y m d, .bool t]] w (RetV w (one1 (andI (truth ⟨l, s⟩) (truth ⟨k, t⟩)) : V)) := by
  have O0 := (((Own.at1 w 24 #[.slice A n c, .bool s] (g := w.heap.size) (by simp)).alloc (.cells #[.slice Y m d, .bool t] 24)).alloc (.cells #[.slice none 0 0, .bool false] 24))
  have O1 := ((Own.at1 (w.alloc (.cells #[.slice A n c, .bool s] 24)) 24 #[.slice Y m d, .bool t] (g := w.heap.size + 1) (by simp)).alloc (.cells #[.slice none 0 0, .bool false] 24))
  have O2 := (Own.at1 ((w.alloc (.cells #[.slice A n c, .bool s] 24)).alloc (.cells #[.slice Y m d, .bool t] 24)) 24 #[.slice none 0 0, .bool false] (g := w.heap.size + 1 + 1) (by simp))
  have BB := (below_new (below_new (below_new (Below.refl w.heap.size w) (.cells #[.slice A n c, .bool s] 24)) (.cells #[.slice Y m d, .bool t] 24)) (.cells #[.slice none 0 0, .bool false] 24))
  have r1 := h.step BB
  have r2 := h'.step BB
  clear h h'
  haveI : Apart (w.heap.size + 1 + 1) w.heap.size := ⟨by omega⟩
  haveI : Apart (w.heap.size + 1 + 1) (w.heap.size + 1) := ⟨by omega⟩
  haveI : Over w (w.heap.size + 1 + 1) := ⟨by omega⟩
  go_enter Tryz.func20, Tryz.ntmps20
  go_wp2
  refine region_y (by kernel_rfl) (fun u => owns w.heap.size #[.slice A n c, .bool s] u ∧ (owns (w.heap.size + 1) #[.slice Y m d, .bool t] u ∧ (rds A n l u ∧ (rds Y m k u ∧ blw w u)))) [tru, tru, tru, tru, tru, tru, owns (w.heap.size + 1 + 1) #[.slice none 0 0, .bool false]] [isV (.agg #[.slice A n c, .bool s]), isV (.int .u8 (truth ⟨l, s⟩)), isV (.agg #[.slice Y m d, .bool t]), isV (.int .u8 (truth ⟨k, t⟩)), isV (.int .u8 (andI (truth ⟨l, s⟩) (truth ⟨k, t⟩))), isNX w.heap.size (one1 (andI (truth ⟨l, s⟩) (truth ⟨k, t⟩)) : V), didX w.heap.size (w.heap.size + 1 + 1) (one1 (andI (truth ⟨l, s⟩) (truth ⟨k, t⟩)) : V)] [some 26, some 27, some 28, some 29, some 30, some 31, none] [[], [0], [], [2, 1], [1, 3, 3], [4, 4], [5, 5, 0, 1, 2, 3, 4, 5]] (by kernel_rfl) (by kernel_rfl) rfl (by kernel_rfl) (by kernel_rfl) (by kernel_rfl) ⟨O0.drew, O1.drew, r1.drew, r2.drew, below_drew BB⟩ (by
    intro U hU
    simp only [List.mem_cons, List.not_mem_nil, or_false] at hU
    rcases hU with rfl | rfl | rfl | rfl | rfl | rfl | rfl
    all_goals first | trivial | exact O2.drew) ?_ ?_
  · refine ⟨?_, ?_, ?_, ?_, ?_, ?_, ?_, trivial⟩
    · intro a w' hS hO hF' hP K hK; have ha := hO 4 (by rfl); refine if_ok (by rfl) ?_; refine wp_load_row 24 (.tmp 4) rfl w.heap.size (ev ha) _ _ (0, 0) _ hS.1 Tryz.underlying24 rfl (by kernel_rfl) ?_; exact hK _ w' nofun (keep_same hS) rfl
    · intro a w' hS hO hF' hP K hK; obtain ⟨_, f0, rfl⟩ := (hF' 0 rfl).1 26 _ rfl rfl; refine if_ok (by rfl) ?_; refine wp_calls rfl (enters_of Tryz.func36 (by kernel_rfl) rfl) (args := #[(.agg #[.slice A n c, .bool s])]) (by simp [Act.eval, f0]) ?_; obtain ⟨O0, O1, r1, r2, BB⟩ := id hS; have hz := BB.size; refine (rTruth_any _ _ _ _ _ _ r1 (by omega)).mono ?_; rintro e w2 ⟨rfl, hb⟩; exact ⟨_, rfl, hK _ w2 nofun (keep_below hb hS) rfl⟩
    · intro a w' hS hO hF' hP K hK; have ha := hO 5 (by rfl); refine if_ok (by rfl) ?_; refine wp_load_row 24 (.tmp 5) rfl (w.heap.size + 1) (ev ha) _ _ (0, 0) _ hS.2.1 Tryz.underlying24 rfl (by kernel_rfl) ?_; exact hK _ w' nofun (keep_same hS) rfl
    · intro a w' hS hO hF' hP K hK; obtain ⟨_, f0, rfl⟩ := (hF' 2 rfl).1 28 _ rfl rfl; refine if_ok (by rfl) ?_; refine wp_calls rfl (enters_of Tryz.func36 (by kernel_rfl) rfl) (args := #[(.agg #[.slice Y m d, .bool t])]) (by simp [Act.eval, f0]) ?_; obtain ⟨O0, O1, r1, r2, BB⟩ := id hS; have hz := BB.size; refine (rTruth_any _ _ _ _ _ _ r2 (by omega)).mono ?_; rintro e w2 ⟨rfl, hb⟩; exact ⟨_, rfl, hK _ w2 nofun (keep_below hb hS) rfl⟩
    · intro a w' hS hO hF' hP K hK; obtain ⟨_, f0, rfl⟩ := (hF' 1 rfl).1 27 _ rfl rfl; obtain ⟨_, f1, rfl⟩ := (hF' 3 rfl).1 29 _ rfl rfl; refine if_ok (by rfl) ?_; refine wp_calls rfl (enters_of Tryz.func96 (by kernel_rfl) rfl) (args := #[(.int .u8 (truth ⟨l, s⟩)), (.int .u8 (truth ⟨k, t⟩))]) (by simp [Act.eval, f0, f1]) ?_; obtain ⟨O0, O1, r1, r2, BB⟩ := id hS; have hz := BB.size; refine (r_and _ (truth_bd0 _) (truth_bd0 _)).mono ?_; rintro e w2 ⟨rfl, q, rfl⟩; exact ⟨_, rfl, hK _ _ nofun (keep_below (below_drewN (Below.refl _ _) q) hS) rfl⟩
    · intro a w' hS hO hF' hP K hK; obtain ⟨_, f0, rfl⟩ := (hF' 4 rfl).1 30 _ rfl rfl; refine if_ok (by rfl) ?_; refine wp_calls rfl (enters_of Tryz.func99 (by kernel_rfl) rfl) (args := #[(.int .u8 (andI (truth ⟨l, s⟩) (truth ⟨k, t⟩)))]) (by simp [Act.eval, f0]) ?_; obtain ⟨O0, O1, r1, r2, BB⟩ := id hS; have hz := BB.size; refine (rSingle_w _ _ (andI_bd _ _).1).mono ?_; rintro e w2 ⟨A, n, c, rfl, hc, hn, hN, hb⟩; exact ⟨_, rfl, hK _ w2 nofun (keep_below hb hS) ⟨A, n, c, rfl, hc, hn, hN.mono hz⟩⟩
    · intro a w' hS hO hF' hP K hK; have O := hP 6 _ rfl rfl; have ha := hO 6 (by rfl); obtain ⟨_, f0, A0, n0, c0, rfl, hc0, hn0, hr0⟩ := (hF' 5 rfl).1 31 _ rfl rfl; refine if_ok (by rfl) ?_; refine wp_store_row _ _ _ rfl (w.heap.size + 1 + 1) _ (ev ha) (ev f0) _ _ O vec_size rfl (by simp [Value.oneCell']) ?_; exact hK _ _ (fun _ => rfl) (keep_store O inferInstance ⟨inferInstance, inferInstance, inferInstance, inferInstance, inferInstance, inferInstance, trivial⟩ ⟨inferInstance, inferInstance, inferInstance, inferInstance, inferInstance, inferInstance, trivial⟩ hS) ⟨A0, n0, c0, Own.row O, hc0, hn0, hr0.row O⟩
  · intro vs u hl hS hV
    match vs, hl, hV with
    | [v0, v1, v2, v3, v4, v5, v6], _, hV =>
      obtain rfl := hV 0 _ rfl
      obtain rfl := hV 1 _ rfl
      obtain rfl := hV 2 _ rfl
      obtain rfl := hV 3 _ rfl
      obtain rfl := hV 4 _ rfl
      obtain ⟨A5, nn5, c5, rfl, hc5, hnn5, hN5⟩ := hV 5 _ rfl
      obtain ⟨A6, nn6, c6, O6, hc6, hnn6, hN6⟩ := hV 6 _ rfl
      simp only [puts, Act.put, List.setIfInBounds_toArray, List.set_cons_zero, List.set_cons_succ]
      obtain ⟨O0, O1, r1, r2, BB⟩ := hS
      clear hV
      replace O0 : Own u w.heap.size 24 #[.slice A n c, .bool s] := O0
      replace O1 : Own u (w.heap.size + 1) 24 #[.slice Y m d, .bool t] := O1
      replace r1 : Rb u A n l := r1
      replace r2 : Rb u Y m k := r2
      replace BB : Below w.heap.size w u := BB
      go_wp2
      exact ret_vec Tryz.results20 rfl rfl O6 (mk_ret (v := (one1 (andI (truth ⟨l, s⟩) (truth ⟨k, t⟩)) : V)) hN6 BB)
set_option maxHeartbeats 4000000 in
theorem rbin_lor (A Y : Option Addr) (n m c d : Nat) (s t : Bool) (l k : List Int) (w : World) (h : Rb w A n l) (h' : Rb w Y m k) (hn : n ≤ 1000) (hm : m ≤ 1000) : Calls Tryz.prog 20 #[.int .u8 36, .agg #[.slice A n c, .bool s], .agg #[.slice Y m d, .bool t]] w (RetV w (one1 (orI (truth ⟨l, s⟩) (truth ⟨k, t⟩)) : V)) := by
  have O0 := (((Own.at1 w 24 #[.slice A n c, .bool s] (g := w.heap.size) (by simp)).alloc (.cells #[.slice Y m d, .bool t] 24)).alloc (.cells #[.slice none 0 0, .bool false] 24))
  have O1 := ((Own.at1 (w.alloc (.cells #[.slice A n c, .bool s] 24)) 24 #[.slice Y m d, .bool t] (g := w.heap.size + 1) (by simp)).alloc (.cells #[.slice none 0 0, .bool false] 24))
  have O2 := (Own.at1 ((w.alloc (.cells #[.slice A n c, .bool s] 24)).alloc (.cells #[.slice Y m d, .bool t] 24)) 24 #[.slice none 0 0, .bool false] (g := w.heap.size + 1 + 1) (by simp))
  have BB := (below_new (below_new (below_new (Below.refl w.heap.size w) (.cells #[.slice A n c, .bool s] 24)) (.cells #[.slice Y m d, .bool t] 24)) (.cells #[.slice none 0 0, .bool false] 24))
  have r1 := h.step BB
  have r2 := h'.step BB
  clear h h'
  haveI : Apart (w.heap.size + 1 + 1) w.heap.size := ⟨by omega⟩
  haveI : Apart (w.heap.size + 1 + 1) (w.heap.size + 1) := ⟨by omega⟩
  haveI : Over w (w.heap.size + 1 + 1) := ⟨by omega⟩
  go_enter Tryz.func20, Tryz.ntmps20
  go_wp2
  refine region_y (by kernel_rfl) (fun u => owns w.heap.size #[.slice A n c, .bool s] u ∧ (owns (w.heap.size + 1) #[.slice Y m d, .bool t] u ∧ (rds A n l u ∧ (rds Y m k u ∧ blw w u)))) [tru, tru, tru, tru, tru, tru, owns (w.heap.size + 1 + 1) #[.slice none 0 0, .bool false]] [isV (.agg #[.slice A n c, .bool s]), isV (.int .u8 (truth ⟨l, s⟩)), isV (.agg #[.slice Y m d, .bool t]), isV (.int .u8 (truth ⟨k, t⟩)), isV (.int .u8 (orI (truth ⟨l, s⟩) (truth ⟨k, t⟩))), isNX w.heap.size (one1 (orI (truth ⟨l, s⟩) (truth ⟨k, t⟩)) : V), didX w.heap.size (w.heap.size + 1 + 1) (one1 (orI (truth ⟨l, s⟩) (truth ⟨k, t⟩)) : V)] [some 34, some 35, some 36, some 37, some 38, some 39, none] [[], [0], [], [2, 1], [1, 3, 3], [4, 4], [5, 5, 0, 1, 2, 3, 4, 5]] (by kernel_rfl) (by kernel_rfl) rfl (by kernel_rfl) (by kernel_rfl) (by kernel_rfl) ⟨O0.drew, O1.drew, r1.drew, r2.drew, below_drew BB⟩ (by
    intro U hU
    simp only [List.mem_cons, List.not_mem_nil, or_false] at hU
    rcases hU with rfl | rfl | rfl | rfl | rfl | rfl | rfl
    all_goals first | trivial | exact O2.drew) ?_ ?_
  · refine ⟨?_, ?_, ?_, ?_, ?_, ?_, ?_, trivial⟩
    · intro a w' hS hO hF' hP K hK; have ha := hO 4 (by rfl); refine if_ok (by rfl) ?_; refine wp_load_row 24 (.tmp 4) rfl w.heap.size (ev ha) _ _ (0, 0) _ hS.1 Tryz.underlying24 rfl (by kernel_rfl) ?_; exact hK _ w' nofun (keep_same hS) rfl
    · intro a w' hS hO hF' hP K hK; obtain ⟨_, f0, rfl⟩ := (hF' 0 rfl).1 34 _ rfl rfl; refine if_ok (by rfl) ?_; refine wp_calls rfl (enters_of Tryz.func36 (by kernel_rfl) rfl) (args := #[(.agg #[.slice A n c, .bool s])]) (by simp [Act.eval, f0]) ?_; obtain ⟨O0, O1, r1, r2, BB⟩ := id hS; have hz := BB.size; refine (rTruth_any _ _ _ _ _ _ r1 (by omega)).mono ?_; rintro e w2 ⟨rfl, hb⟩; exact ⟨_, rfl, hK _ w2 nofun (keep_below hb hS) rfl⟩
    · intro a w' hS hO hF' hP K hK; have ha := hO 5 (by rfl); refine if_ok (by rfl) ?_; refine wp_load_row 24 (.tmp 5) rfl (w.heap.size + 1) (ev ha) _ _ (0, 0) _ hS.2.1 Tryz.underlying24 rfl (by kernel_rfl) ?_; exact hK _ w' nofun (keep_same hS) rfl
    · intro a w' hS hO hF' hP K hK; obtain ⟨_, f0, rfl⟩ := (hF' 2 rfl).1 36 _ rfl rfl; refine if_ok (by rfl) ?_; refine wp_calls rfl (enters_of Tryz.func36 (by kernel_rfl) rfl) (args := #[(.agg #[.slice Y m d, .bool t])]) (by simp [Act.eval, f0]) ?_; obtain ⟨O0, O1, r1, r2, BB⟩ := id hS; have hz := BB.size; refine (rTruth_any _ _ _ _ _ _ r2 (by omega)).mono ?_; rintro e w2 ⟨rfl, hb⟩; exact ⟨_, rfl, hK _ w2 nofun (keep_below hb hS) rfl⟩
    · intro a w' hS hO hF' hP K hK; obtain ⟨_, f0, rfl⟩ := (hF' 1 rfl).1 35 _ rfl rfl; obtain ⟨_, f1, rfl⟩ := (hF' 3 rfl).1 37 _ rfl rfl; refine if_ok (by rfl) ?_; refine wp_calls rfl (enters_of Tryz.func97 (by kernel_rfl) rfl) (args := #[(.int .u8 (truth ⟨l, s⟩)), (.int .u8 (truth ⟨k, t⟩))]) (by simp [Act.eval, f0, f1]) ?_; obtain ⟨O0, O1, r1, r2, BB⟩ := id hS; have hz := BB.size; refine (r_or _ (truth_bd0 _) (truth_bd0 _)).mono ?_; rintro e w2 ⟨rfl, q, rfl⟩; exact ⟨_, rfl, hK _ _ nofun (keep_below (below_drewN (Below.refl _ _) q) hS) rfl⟩
    · intro a w' hS hO hF' hP K hK; obtain ⟨_, f0, rfl⟩ := (hF' 4 rfl).1 38 _ rfl rfl; refine if_ok (by rfl) ?_; refine wp_calls rfl (enters_of Tryz.func99 (by kernel_rfl) rfl) (args := #[(.int .u8 (orI (truth ⟨l, s⟩) (truth ⟨k, t⟩)))]) (by simp [Act.eval, f0]) ?_; obtain ⟨O0, O1, r1, r2, BB⟩ := id hS; have hz := BB.size; refine (rSingle_w _ _ (orI_bd _ _).1).mono ?_; rintro e w2 ⟨A, n, c, rfl, hc, hn, hN, hb⟩; exact ⟨_, rfl, hK _ w2 nofun (keep_below hb hS) ⟨A, n, c, rfl, hc, hn, hN.mono hz⟩⟩
    · intro a w' hS hO hF' hP K hK; have O := hP 6 _ rfl rfl; have ha := hO 6 (by rfl); obtain ⟨_, f0, A0, n0, c0, rfl, hc0, hn0, hr0⟩ := (hF' 5 rfl).1 39 _ rfl rfl; refine if_ok (by rfl) ?_; refine wp_store_row _ _ _ rfl (w.heap.size + 1 + 1) _ (ev ha) (ev f0) _ _ O vec_size rfl (by simp [Value.oneCell']) ?_; exact hK _ _ (fun _ => rfl) (keep_store O inferInstance ⟨inferInstance, inferInstance, inferInstance, inferInstance, inferInstance, inferInstance, trivial⟩ ⟨inferInstance, inferInstance, inferInstance, inferInstance, inferInstance, inferInstance, trivial⟩ hS) ⟨A0, n0, c0, Own.row O, hc0, hn0, hr0.row O⟩
  · intro vs u hl hS hV
    match vs, hl, hV with
    | [v0, v1, v2, v3, v4, v5, v6], _, hV =>
      obtain rfl := hV 0 _ rfl
      obtain rfl := hV 1 _ rfl
      obtain rfl := hV 2 _ rfl
      obtain rfl := hV 3 _ rfl
      obtain rfl := hV 4 _ rfl
      obtain ⟨A5, nn5, c5, rfl, hc5, hnn5, hN5⟩ := hV 5 _ rfl
      obtain ⟨A6, nn6, c6, O6, hc6, hnn6, hN6⟩ := hV 6 _ rfl
      simp only [puts, Act.put, List.setIfInBounds_toArray, List.set_cons_zero, List.set_cons_succ]
      obtain ⟨O0, O1, r1, r2, BB⟩ := hS
      clear hV
      replace O0 : Own u w.heap.size 24 #[.slice A n c, .bool s] := O0
      replace O1 : Own u (w.heap.size + 1) 24 #[.slice Y m d, .bool t] := O1
      replace r1 : Rb u A n l := r1
      replace r2 : Rb u Y m k := r2
      replace BB : Below w.heap.size w u := BB
      go_wp2
      exact ret_vec Tryz.results20 rfl rfl O6 (mk_ret (v := (one1 (orI (truth ⟨l, s⟩) (truth ⟨k, t⟩)) : V)) hN6 BB)
set_option maxHeartbeats 4000000 in
theorem rbin_pw (op : Int) (f : Int → Int → Int) (hop : (op = 37 ∧ f = andI) ∨ (op = 38 ∧ f = orI) ∨ (op = 39 ∧ f = xorI) ∨ (op = 40 ∧ f = eqI)) (A Y : Option Addr) (n m c d : Nat) (s t : Bool) (l k : List Int) (w : World) (h : Rb w A n l) (h' : Rb w Y m k) (hn : n ≤ 1000) (hm : m ≤ 1000) : Calls Tryz.prog 20 #[.int .u8 op, .agg #[.slice A n c, .bool s], .agg #[.slice Y m d, .bool t]] w (RetV w (bwV f ⟨l, s⟩ ⟨k, t⟩)) := by
  unfold bwV
  have O0 := (((Own.at1 w 24 #[.slice A n c, .bool s] (g := w.heap.size) (by simp)).alloc (.cells #[.slice Y m d, .bool t] 24)).alloc (.cells #[.slice none 0 0, .bool false] 24))
  have O1 := ((Own.at1 (w.alloc (.cells #[.slice A n c, .bool s] 24)) 24 #[.slice Y m d, .bool t] (g := w.heap.size + 1) (by simp)).alloc (.cells #[.slice none 0 0, .bool false] 24))
  have O2 := (Own.at1 ((w.alloc (.cells #[.slice A n c, .bool s] 24)).alloc (.cells #[.slice Y m d, .bool t] 24)) 24 #[.slice none 0 0, .bool false] (g := w.heap.size + 1 + 1) (by simp))
  have BB := (below_new (below_new (below_new (Below.refl w.heap.size w) (.cells #[.slice A n c, .bool s] 24)) (.cells #[.slice Y m d, .bool t] 24)) (.cells #[.slice none 0 0, .bool false] 24))
  have q00 := O0.cell 0
  have q01 := O0.cell 1
  have q10 := O1.cell 0
  have q11 := O1.cell 1
  have q20 := O2.cell 0
  have q21 := O2.cell 1
  have f20 := O2.free 0
  have f21 := O2.free 1
  have HB := Lib.hid (rBalance_q A Y n m c d s t l k _ (h.step BB) (h'.step BB) (by omega) (by omega))
  have hbd := balN_bd ⟨l, s⟩ ⟨k, t⟩
  have okx := balL_ok ⟨l, s⟩ ⟨k, t⟩
  have oky := balR_ok ⟨l, s⟩ ⟨k, t⟩
  clear h h'
  generalize (balL ⟨l, s⟩ ⟨k, t⟩).l = lx at *
  generalize (balR ⟨l, s⟩ ⟨k, t⟩).l = ly at *
  generalize balN ⟨l, s⟩ ⟨k, t⟩ = N at *
  generalize balS ⟨l, s⟩ ⟨k, t⟩ = sy at *
  obtain ⟨h0, hN⟩ := hbd
  have OX := Lib.hid O2
  have BX0 := Lib.hid BB
  rcases hop with ⟨rfl, rfl⟩ | ⟨rfl, rfl⟩ | ⟨rfl, rfl⟩ | ⟨rfl, rfl⟩
  all_goals
    go_enter Tryz.func20, Tryz.ntmps20
    go_wp2_with (first
      | (go_at_call 103; refine HB.out.mono ?_; rintro e w1 ⟨A1, c1, A2, c2, rfl, n1, n2, hb1⟩; have L1 := hb1.size; replace BB := below_new (below_new (below_step BB hb1) (.cells #[.slice A1 N c1, .bool sy] 24)) (.cells #[.slice A2 N c2, .bool sy] 24); have BX := below_new (below_new hb1 (.cells #[.slice A1 N c1, .bool sy] 24)) (.cells #[.slice A2 N c2, .bool sy] 24); replace O2 := ((O2.step hb1).alloc (.cells #[.slice A1 N c1, .bool sy] 24)).alloc (.cells #[.slice A2 N c2, .bool sy] 24); have O7 := (Own.at1 w1 24 #[.slice A1 N c1, .bool sy] (g := w1.heap.size) rfl).alloc (.cells #[.slice A2 N c2, .bool sy] 24); have O8 := Own.at1 (w1.alloc (.cells #[.slice A1 N c1, .bool sy] 24)) 24 #[.slice A2 N c2, .bool sy] (g := w1.heap.size + 1) (by simp); replace n1 := (n1.alloc (.cells #[.slice A1 N c1, .bool sy] 24)).alloc (.cells #[.slice A2 N c2, .bool sy] 24); replace n2 := (n2.alloc (.cells #[.slice A1 N c1, .bool sy] 24)).alloc (.cells #[.slice A2 N c2, .bool sy] 24); clear q00 q01 q10 q11; have qO20 := O2.cell 0; have qO21 := O2.cell 1; have fO20 := O2.free 0; have fO21 := O2.free 1; have qO70 := O7.cell 0; have qO71 := O7.cell 1; have fO70 := O7.free 0; have fO71 := O7.free 1; have qO80 := O8.cell 0; have qO81 := O8.cell 1; have fO80 := O8.free 0; have fO81 := O8.free 1)
      | (go_at_call 104; (first | (with_reducible refine (rpw_and (((w.alloc (.cells #[.slice A n c, .bool s] 24)).alloc (.cells #[.slice Y m d, .bool t] 24)).alloc (.cells #[.slice none 0 0, .bool false] 24)) _ _ _ _ _ _ _ _ _ BX n1 n2 h0 hN).mono ?_) | (with_reducible refine (rpw_or (((w.alloc (.cells #[.slice A n c, .bool s] 24)).alloc (.cells #[.slice Y m d, .bool t] 24)).alloc (.cells #[.slice none 0 0, .bool false] 24)) _ _ _ _ _ _ _ _ _ BX n1 n2 h0 hN).mono ?_) | (with_reducible refine (rpw_xor (((w.alloc (.cells #[.slice A n c, .bool s] 24)).alloc (.cells #[.slice Y m d, .bool t] 24)).alloc (.cells #[.slice none 0 0, .bool false] 24)) _ _ _ _ _ _ _ _ _ BX n1 n2 h0 hN).mono ?_) | (with_reducible refine (rpw_eq (((w.alloc (.cells #[.slice A n c, .bool s] 24)).alloc (.cells #[.slice Y m d, .bool t] 24)).alloc (.cells #[.slice none 0 0, .bool false] 24)) _ _ _ _ _ _ _ _ _ BX n1 n2 h0 hN).mono ?_)); rintro e w9 ⟨A9, c9, rfl, n9, hb9⟩; have W2 := OX.out.step hb9; have qW20 := W2.cell 0; have qW21 := W2.cell 1; have fW20 := W2.free 0; have fW21 := W2.free 1))
    exact ret_vec Tryz.results20 rfl rfl (W2.put2 _ _) (mk_ret (v := ⟨_, _⟩) ((n9.far2 OX.out.lt _ _).mono BX0.out.size) (below_set2 (below_step BX0.out hb9) (by omega) _ _))
set_option maxHeartbeats 4000000 in
theorem rbin_ar (op : Int) (g : Nat → Nat → Nat → Option Nat) (A Y : Option Addr) (n m c d : Nat) (s t : Bool) (l k : List Int) (w : World) (h : Rb w A n l) (h' : Rb w Y m k) (hn : n ≤ 1000) (hm : m ≤ 1000) (hop : (op = 21 ∧ g = fAdd) ∨ (op = 22 ∧ g = fSub) ∨ (op = 23 ∧ g = fMul) ∨ (op = 24 ∧ g = (if balS ⟨l, s⟩ ⟨k, t⟩ then divS true else divU true)) ∨ (op = 25 ∧ g = (if balS ⟨l, s⟩ ⟨k, t⟩ then divS false else divU false))) : Calls Tryz.prog 20 #[.int .u8 op, .agg #[.slice A n c, .bool s], .agg #[.slice Y m d, .bool t]] w (RetV w (arV g ⟨l, s⟩ ⟨k, t⟩)) := by
  rw [arW_eq]
  have O0 := (((Own.at1 w 24 #[.slice A n c, .bool s] (g := w.heap.size) (by simp)).alloc (.cells #[.slice Y m d, .bool t] 24)).alloc (.cells #[.slice none 0 0, .bool false] 24))
  have O1 := ((Own.at1 (w.alloc (.cells #[.slice A n c, .bool s] 24)) 24 #[.slice Y m d, .bool t] (g := w.heap.size + 1) (by simp)).alloc (.cells #[.slice none 0 0, .bool false] 24))
  have O2 := (Own.at1 ((w.alloc (.cells #[.slice A n c, .bool s] 24)).alloc (.cells #[.slice Y m d, .bool t] 24)) 24 #[.slice none 0 0, .bool false] (g := w.heap.size + 1 + 1) (by simp))
  have BB := (below_new (below_new (below_new (Below.refl w.heap.size w) (.cells #[.slice A n c, .bool s] 24)) (.cells #[.slice Y m d, .bool t] 24)) (.cells #[.slice none 0 0, .bool false] 24))
  have q00 := O0.cell 0
  have q01 := O0.cell 1
  have q10 := O1.cell 0
  have q11 := O1.cell 1
  have q20 := O2.cell 0
  have q21 := O2.cell 1
  have f20 := O2.free 0
  have f21 := O2.free 1
  have HB := Lib.hid (rBalance_q A Y n m c d s t l k _ (h.step BB) (h'.step BB) (by omega) (by omega))
  have hbd := balN_bd ⟨l, s⟩ ⟨k, t⟩
  have okx := balL_ok ⟨l, s⟩ ⟨k, t⟩
  have oky := balR_ok ⟨l, s⟩ ⟨k, t⟩
  clear h h'
  generalize (balL ⟨l, s⟩ ⟨k, t⟩).l = lx at *
  generalize (balR ⟨l, s⟩ ⟨k, t⟩).l = ly at *
  generalize balN ⟨l, s⟩ ⟨k, t⟩ = N at *
  generalize balS ⟨l, s⟩ ⟨k, t⟩ = sy at *
  obtain ⟨h0, hN⟩ := hbd
  have HA : ∀ (A1 A2 : Option Addr) (c1 c2 : Nat) (u : World), Rb u A1 N lx → Rb u A2 N ly → Calls Tryz.prog 105 #[.int .u8 op, .agg #[.slice A1 N c1, .bool sy], .agg #[.slice A2 N c2, .bool sy]] u (RetV u (arW g N sy lx ly)) := by
    intro A1 A2 c1 c2 u r1 r2
    rcases hop with ⟨rfl, rfl⟩ | ⟨rfl, rfl⟩ | ⟨rfl, rfl⟩ | ⟨rfl, rfl⟩ | ⟨rfl, rfl⟩
    · exact rar_add A1 A2 N c1 c2 sy lx ly u r1 r2 okx oky h0 hN
    · exact rar_sub A1 A2 N c1 c2 sy lx ly u r1 r2 okx oky h0 hN
    · exact rar_mul A1 A2 N c1 c2 sy lx ly u r1 r2 okx oky h0 hN
    · exact rar_div A1 A2 N c1 c2 sy lx ly u r1 r2 okx oky h0 hN
    · exact rar_mod A1 A2 N c1 c2 sy lx ly u r1 r2 okx oky h0 hN
  replace HA := Lib.hid HA
  have hop2 : op = 21 ∨ op = 22 ∨ op = 23 ∨ op = 24 ∨ op = 25 := by rcases hop with ⟨h, _⟩ | ⟨h, _⟩ | ⟨h, _⟩ | ⟨h, _⟩ | ⟨h, _⟩ <;> simp [h]
  generalize arW g N sy lx ly = z at *
  clear hop okx oky
  rcases hop2 with rfl | rfl | rfl | rfl | rfl
  all_goals
    go_enter Tryz.func20, Tryz.ntmps20
    go_wp2_with (first
      | (go_at_call 103; refine HB.out.mono ?_; rintro e w1 ⟨A1, c1, A2, c2, rfl, n1, n2, hb1⟩; have L1 := hb1.size; replace BB := below_new (below_new (below_step BB hb1) (.cells #[.slice A1 N c1, .bool sy] 24)) (.cells #[.slice A2 N c2, .bool sy] 24); have BX := below_new (below_new hb1 (.cells #[.slice A1 N c1, .bool sy] 24)) (.cells #[.slice A2 N c2, .bool sy] 24); replace O2 := ((O2.step hb1).alloc (.cells #[.slice A1 N c1, .bool sy] 24)).alloc (.cells #[.slice A2 N c2, .bool sy] 24); have O7 := (Own.at1 w1 24 #[.slice A1 N c1, .bool sy] (g := w1.heap.size) rfl).alloc (.cells #[.slice A2 N c2, .bool sy] 24); have O8 := Own.at1 (w1.alloc (.cells #[.slice A1 N c1, .bool sy] 24)) 24 #[.slice A2 N c2, .bool sy] (g := w1.heap.size + 1) (by simp); replace n1 := (n1.alloc (.cells #[.slice A1 N c1, .bool sy] 24)).alloc (.cells #[.slice A2 N c2, .bool sy] 24); replace n2 := (n2.alloc (.cells #[.slice A1 N c1, .bool sy] 24)).alloc (.cells #[.slice A2 N c2, .bool sy] 24); clear q00 q01 q10 q11; have qO20 := O2.cell 0; have qO21 := O2.cell 1; have fO20 := O2.free 0; have fO21 := O2.free 1; have qO70 := O7.cell 0; have qO71 := O7.cell 1; have fO70 := O7.free 0; have fO71 := O7.free 1; have qO80 := O8.cell 0; have qO81 := O8.cell 1; have fO80 := O8.free 0; have fO81 := O8.free 1)
      | (go_at_call 105; refine (HA.out _ _ _ _ _ n1.rd n2.rd).mono ?_; clear L1; rintro e w9 ⟨A9, c9, rfl, n9, hb9⟩; have L1 := O2.lt; have W2 := O2.step hb9; have qW20 := W2.cell 0; have qW21 := W2.cell 1; have fW20 := W2.free 0; have fW21 := W2.free 1))
    exact ret_vec Tryz.results20 rfl rfl (W2.put2 _ _) (mk_ret (v := z) ((n9.far2 L1 _ _).mono BB.size) (below_set2 (below_step BB hb9) (by omega) _ _))
set_option maxHeartbeats 4000000 in
theorem rbin_cm (op : Int) (hop : op = 27 ∨ op = 28 ∨ op = 29 ∨ op = 30 ∨ op = 31 ∨ op = 32 ∨ op = 33 ∨ op = 34) (A Y : Option Addr) (n m c d : Nat) (s t : Bool) (l k : List Int) (w : World) (h : Rb w A n l) (h' : Rb w Y m k) (hn : n ≤ 1000) (hm : m ≤ 1000) : Calls Tryz.prog 20 #[.int .u8 op, .agg #[.slice A n c, .bool s], .agg #[.slice Y m d, .bool t]] w (RetV w (one1 (cmW op (balN ⟨l, s⟩ ⟨k, t⟩) (balS ⟨l, s⟩ ⟨k, t⟩) (balL ⟨l, s⟩ ⟨k, t⟩).l (balR ⟨l, s⟩ ⟨k, t⟩).l))) := by
  have O0 := (((Own.at1 w 24 #[.slice A n c, .bool s] (g := w.heap.size) (by simp)).alloc (.cells #[.slice Y m d, .bool t] 24)).alloc (.cells #[.slice none 0 0, .bool false] 24))
  have O1 := ((Own.at1 (w.alloc (.cells #[.slice A n c, .bool s] 24)) 24 #[.slice Y m d, .bool t] (g := w.heap.size + 1) (by simp)).alloc (.cells #[.slice none 0 0, .bool false] 24))
  have O2 := (Own.at1 ((w.alloc (.cells #[.slice A n c, .bool s] 24)).alloc (.cells #[.slice Y m d, .bool t] 24)) 24 #[.slice none 0 0, .bool false] (g := w.heap.size + 1 + 1) (by simp))
  have BB := (below_new (below_new (below_new (Below.refl w.heap.size w) (.cells #[.slice A n c, .bool s] 24)) (.cells #[.slice Y m d, .bool t] 24)) (.cells #[.slice none 0 0, .bool false] 24))
  have q00 := O0.cell 0
  have q01 := O0.cell 1
  have q10 := O1.cell 0
  have q11 := O1.cell 1
  have q20 := O2.cell 0
  have q21 := O2.cell 1
  have f20 := O2.free 0
  have f21 := O2.free 1
  have HB := Lib.hid (rBalance_q A Y n m c d s t l k _ (h.step BB) (h'.step BB) (by omega) (by omega))
  have hbd := balN_bd ⟨l, s⟩ ⟨k, t⟩
  have okx := balL_ok ⟨l, s⟩ ⟨k, t⟩
  have oky := balR_ok ⟨l, s⟩ ⟨k, t⟩
  clear h h'
  generalize (balL ⟨l, s⟩ ⟨k, t⟩).l = lx at *
  generalize (balR ⟨l, s⟩ ⟨k, t⟩).l = ly at *
  generalize balN ⟨l, s⟩ ⟨k, t⟩ = N at *
  generalize balS ⟨l, s⟩ ⟨k, t⟩ = sy at *
  obtain ⟨h0, hN⟩ := hbd
  have hnn := cmW_nn op N sy lx ly
  have HC := Lib.hid (fun (A1 A2 : Option Addr) (c1 c2 : Nat) (u : World) (r1 : Rb u A1 N lx) (r2 : Rb u A2 N ly) => rCompare_any op hop A1 A2 N c1 c2 sy lx ly u r1 r2 okx oky h0 hN)
  generalize cmW op N sy lx ly = z at *
  have HS := Lib.hid (fun (u : World) => rSingle_w z u hnn)
  clear hnn okx oky
  rcases hop with rfl | rfl | rfl | rfl | rfl | rfl | rfl | rfl
  all_goals
    go_enter Tryz.func20, Tryz.ntmps20
    go_wp2_with (first
      | (go_at_call 103; refine HB.out.mono ?_; rintro e w1 ⟨A1, c1, A2, c2, rfl, n1, n2, hb1⟩; have L1 := hb1.size; replace BB := below_new (below_new (below_step BB hb1) (.cells #[.slice A1 N c1, .bool sy] 24)) (.cells #[.slice A2 N c2, .bool sy] 24); have BX := below_new (below_new hb1 (.cells #[.slice A1 N c1, .bool sy] 24)) (.cells #[.slice A2 N c2, .bool sy] 24); replace O2 := ((O2.step hb1).alloc (.cells #[.slice A1 N c1, .bool sy] 24)).alloc (.cells #[.slice A2 N c2, .bool sy] 24); have O7 := (Own.at1 w1 24 #[.slice A1 N c1, .bool sy] (g := w1.heap.size) rfl).alloc (.cells #[.slice A2 N c2, .bool sy] 24); have O8 := Own.at1 (w1.alloc (.cells #[.slice A1 N c1, .bool sy] 24)) 24 #[.slice A2 N c2, .bool sy] (g := w1.heap.size + 1) (by simp); replace n1 := (n1.alloc (.cells #[.slice A1 N c1, .bool sy] 24)).alloc (.cells #[.slice A2 N c2, .bool sy] 24); replace n2 := (n2.alloc (.cells #[.slice A1 N c1, .bool sy] 24)).alloc (.cells #[.slice A2 N c2, .bool sy] 24); clear q00 q01 q10 q11; have qO20 := O2.cell 0; have qO21 := O2.cell 1; have fO20 := O2.free 0; have fO21 := O2.free 1; have qO70 := O7.cell 0; have qO71 := O7.cell 1; have fO70 := O7.free 0; have fO71 := O7.free 1; have qO80 := O8.cell 0; have qO81 := O8.cell 1; have fO80 := O8.free 0; have fO81 := O8.free 1)
      | (go_at_call 106; refine (HC.out _ _ _ _ _ n1.rd n2.rd).mono ?_; rintro e w5 ⟨rfl, hb⟩; clear L1; replace BB := below_step BB hb; replace O2 := O2.step hb)
      | (go_at_call 99; refine (HS.out _).mono ?_; rintro e w9 ⟨A9, n9_, c9, rfl, _, _, n9, hb9⟩; have L1 := O2.lt; have W2 := O2.step hb9; have qW20 := W2.cell 0; have qW21 := W2.cell 1; have fW20 := W2.free 0; have fW21 := W2.free 1))
    exact ret_vec Tryz.results20 rfl rfl (W2.put2 _ _) (mk_ret (v := one1 z) ((n9.far2 L1 _ _).mono BB.size) (below_set2 (below_step BB hb9) (by omega) _ _))
end Go.Proofs.YtognpmggfplekaaGreatDoor
