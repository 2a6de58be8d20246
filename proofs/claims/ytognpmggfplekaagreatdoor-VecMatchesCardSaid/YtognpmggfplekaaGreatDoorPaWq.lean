/-
  Contracts of the reference's compare. Conditions: both operands are valid and of one width.
-/
import Derived.Test.YtognpmggfplekaaGreatDoorPaWp
set_option maxRecDepth 100000
namespace Go.Proofs.YtognpmggfplekaaGreatDoor
open Go Go.RowKit

def eqf (x y : List Int) : Nat → Int
  | 0 => 1
  | j + 1 => andI (eqf x y j) (eqI (nth x j) (nth y j))
def smf (x y : List Int) (j : Nat) : Bool := (List.range j).all fun i => nth x i == nth y i
theorem smf_next (x y : List Int) (j : Nat) : smf x y (j + 1) = (smf x y j && nth x j == nth y j) := by
  unfold smf; rw [List.range_succ, List.all_append]; simp
def cmR (p : Int → Bool) (N : Nat) (sy : Bool) (lx ly : List Int) : Int := if knL lx && knL ly then fromI (p (cmpB sy N (num lx) (num ly))) else 2
def cmW (op : Int) (N : Nat) (sy : Bool) (lx ly : List Int) : Int :=
  if op = 27 then eqf lx ly N else if op = 28 then notI (eqf lx ly N) else if op = 29 then fromI (smf lx ly N) else if op = 30 then fromI (!smf lx ly N) else
  if op = 31 then cmR pLt N sy lx ly else if op = 32 then cmR pLe N sy lx ly else if op = 33 then cmR pGt N sy lx ly else cmR pGe N sy lx ly
theorem eqf_nn (x y : List Int) : ∀ j, 0 ≤ eqf x y j
  | 0 => by show (0 : Int) ≤ 1; decide
  | j + 1 => (andI_bd _ _).1
set_option maxHeartbeats 4000000 in
theorem rCompare_any (op : Int) (hop : op = 27 ∨ op = 28 ∨ op = 29 ∨ op = 30 ∨ op = 31 ∨ op = 32 ∨ op = 33 ∨ op = 34) (A1 A2 : Option Addr) (N c1 c2 : Nat) (sy : Bool) (lx ly : List Int) (w : World) (r1 : Rb w A1 N lx) (r2 : Rb w A2 N ly) (okx : okB lx = true) (oky : okB ly = true) (h0 : 0 < N) (hN : N ≤ 128) :
    Calls Tryz.prog 106 #[.int .u8 op, .agg #[.slice A1 N c1, .bool sy], .agg #[.slice A2 N c2, .bool sy]] w fun e w' => e = .returned (.int .u8 (cmW op N sy lx ly)) ∧ Below w.heap.size w w' := by
  have O0 := ((Own.at1 w 24 #[.slice A1 N c1, .bool sy] (g := w.heap.size) (by simp)).alloc (.cells #[.slice A2 N c2, .bool sy] 24))
  have O1 := (Own.at1 (w.alloc (.cells #[.slice A1 N c1, .bool sy] 24)) 24 #[.slice A2 N c2, .bool sy] (g := w.heap.size + 1) (by simp))
  have BB := (below_new (below_new (Below.refl w.heap.size w) (.cells #[.slice A1 N c1, .bool sy] 24)) (.cells #[.slice A2 N c2, .bool sy] 24))
  replace r1 := r1.step BB
  replace r2 := r2.step BB
  have n1 := r1.nn
  have n2 := r2.nn
  have z00 := O0.cell 0
  have z01 := O0.cell 1
  have z10 := O1.cell 0
  have z11 := O1.cell 1
  replace hop := Lib.hid hop
  go_enter Tryz.func106, Tryz.ntmps106
  go_wp2
  clear z00 z01 z10 z11
  generalize hE : ((w.alloc (.cells #[.slice A1 N c1, .bool sy] 24)).alloc (.cells #[.slice A2 N c2, .bool sy] 24)) = u at *
  clear hE
  replace O0 := Lib.hid O0
  replace O1 := Lib.hid O1
  replace r1 := Lib.hid r1
  replace r2 := Lib.hid r2
  replace BB := Lib.hid BB
  go_loopw [9, 7, 8] (fun i e s wr => ∃ j : Nat, j ≤ N ∧ i = .int .i64 j ∧ e = .int .u8 (eqf lx ly j) ∧ s = .bool (smf lx ly j) ∧ Hid (Below u.heap.size u wr)) (fun i _ _ _ => N - (intOf i).toNat)
  case atStart => exact ⟨0, Nat.zero_le _, rfl, rfl, rfl, Lib.hid (Below.refl _ _)⟩
  case round =>
    obtain ⟨j, hj, rfl, rfl, rfl, HW⟩ := hrel
    have p0 := (O0.out.step HW.out).cell 0
    have p1 := (O1.out.step HW.out).cell 0
    by_cases hlt : j < N
    · obtain ⟨b1, o1, rfl, hl1, hc1⟩ := (r1.out.step HW.out).at_ hlt
      obtain ⟨b2, o2, rfl, hl2, hc2⟩ := (r2.out.step HW.out).at_ hlt
      have i0 : (0 : Int) ≤ j := by omega
      have i1 : (j : Int) < N := by omega
      have HE := Lib.hid (fun (u : World) => r_eq u (n1.nth j) (n2.nth j))
      have HA := Lib.hid (fun (u : World) => r_and u (eqf_nn lx ly j) (eqI_bd (nth lx j) (nth ly j)).1)
      have hnx := Lib.hid (show andI (eqf lx ly j) (eqI (nth lx j) (nth ly j)) = eqf lx ly (j + 1) from rfl)
      have hsx := Lib.hid (smf_next lx ly j)
      have hn1 := Lib.hid n1
      have hn2 := Lib.hid n2
      clear n1 n2 hl1 hl2
      cases hsm : smf lx ly j
      · rw [hsm] at hsx
        have hsx' := Lib.hid hsx.out
        go_wp2
        go_quiet (first | (go_at_call 182; first | exact quiet_more (HE.out _) | exact Calls.quiet_of (HE.out _)) | (go_at_call 96; first | exact quiet_more (HA.out _) | exact Calls.quiet_of (HA.out _)))
        all_goals go_wp2
        all_goals go_quiet (fail)
        all_goals go_wp2
        all_goals go_roundw
        case rel => exact ⟨j + 1, by omega, by go_num, congrArg (Value.int .u8) hnx.out, congrArg Value.bool (by rw [hsx'.out]; rfl), Lib.hid (below_drewN HW.out _)⟩
        case measure => simp [intOf]; omega
      · rw [hsm] at hsx
        have hsx' := Lib.hid hsx.out
        go_wp2
        go_quiet (first | (go_at_call 182; first | exact quiet_more (HE.out _) | exact Calls.quiet_of (HE.out _)) | (go_at_call 96; first | exact quiet_more (HA.out _) | exact Calls.quiet_of (HA.out _)))
        all_goals go_wp2
        all_goals go_quiet (fail)
        all_goals go_wp2
        all_goals go_roundw
        case rel => exact ⟨j + 1, by omega, by go_num, congrArg (Value.int .u8) hnx.out, congrArg Value.bool (by rw [hsx'.out]; rfl), Lib.hid (below_drewN HW.out _)⟩
        case measure => simp [intOf]; omega
    · obtain rfl : j = N := by omega
      replace O0 := O0.out.step HW.out
      replace O1 := O1.out.step HW.out
      replace r1 := r1.out.step HW.out
      replace r2 := r2.out.step HW.out
      replace BB := below_step BB.out HW.out
      clear HW p0 p1 n1 n2
      have z00 := O0.cell 0
      have z01 := O0.cell 1
      have z10 := O1.cell 0
      have z11 := O1.cell 1
      have hn := eqf_nn lx ly j
      rcases hop.out with rfl | rfl | rfl | rfl | hop
      · have e9 := Lib.hid (show eqf lx ly j = cmW 27 j sy lx ly from rfl)
        clear hn hop
        go_wp2
        go_ret
        exact ⟨ret_i e9.out, BB⟩
      · have e9 := Lib.hid (show notI (eqf lx ly j) = cmW 28 j sy lx ly from rfl)
        have HNt := Lib.hid (fun (u : World) => r_not u hn)
        clear hn hop
        go_wp2_with (go_at_call 100; refine (HNt.out _).mono ?_; rintro e w1 ⟨rfl, q, rfl⟩)
        go_ret
        exact ⟨ret_i e9.out, below_drewN BB _⟩
      · have e9 := Lib.hid (show fromI (smf lx ly j) = cmW 29 j sy lx ly from rfl)
        clear hn hop
        go_wp2_with (go_at_call 188; refine (rfrom_any _ _).mono ?_; rintro e w1 ⟨rfl, q, rfl⟩)
        go_ret
        exact ⟨ret_i e9.out, below_drewN BB _⟩
      · have e9 := Lib.hid (show fromI (!smf lx ly j) = cmW 30 j sy lx ly from rfl)
        clear hn hop
        go_wp2_with (go_at_call 188; refine (rfrom_any _ _).mono ?_; rintro e w1 ⟨rfl, q, rfl⟩)
        go_ret
        exact ⟨ret_i e9.out, below_drewN BB _⟩
      clear hn
      have d1 : (op == 27) = false := by rcases hop with rfl | rfl | rfl | rfl <;> rfl
      have d2 : (op == 28) = false := by rcases hop with rfl | rfl | rfl | rfl <;> rfl
      have d3 : (op == 29) = false := by rcases hop with rfl | rfl | rfl | rfl <;> rfl
      have d4 : (op == 30) = false := by rcases hop with rfl | rfl | rfl | rfl <;> rfl
      obtain ⟨N, rfl⟩ : ∃ N, N = j := ⟨_, rfl⟩
      cases hkx : knL lx
      · have e9 : cmW op N sy lx ly = 2 := by rcases hop with rfl | rfl | rfl | rfl <;> (unfold cmW cmR; rw [hkx]; rfl)
        replace e9 := Lib.hid e9
        have HK := Lib.hid (fun (u : World) (h : Rb u A1 N lx) => ((kn_of (s := sy) okx).trans hkx) ▸ rKnown_any A1 N c1 sy lx u h (by omega))
        clear hkx okx oky hop
        go_wp2_with (go_at_call 32; (with_reducible refine (HK.out _ r1).mono ?_); rintro e w1 ⟨rfl, hb⟩; replace BB := below_step BB hb; replace O0 := O0.step hb; replace O1 := O1.step hb; replace r1 := r1.step hb; replace r2 := r2.step hb; (try clear z00 z01 z10 z11); have z00 := O0.cell 0; have z01 := O0.cell 1; have z10 := O1.cell 0; have z11 := O1.cell 1)
        go_ret
        exact ⟨ret_i e9.out.symm, BB⟩
      cases hky : knL ly
      · have e9 : cmW op N sy lx ly = 2 := by rcases hop with rfl | rfl | rfl | rfl <;> (unfold cmW cmR; rw [hkx, hky]; rfl)
        replace e9 := Lib.hid e9
        have HK := Lib.hid (fun (u : World) (h : Rb u A1 N lx) => ((kn_of (s := sy) okx).trans hkx) ▸ rKnown_any A1 N c1 sy lx u h (by omega))
        have HL := Lib.hid (fun (u : World) (h : Rb u A2 N ly) => ((kn_of (s := sy) oky).trans hky) ▸ rKnown_any A2 N c2 sy ly u h (by omega))
        clear hkx hky okx oky hop
        go_wp2_with (first | (go_at_call 32; (with_reducible refine (HK.out _ r1).mono ?_); rintro e w1 ⟨rfl, hb⟩; replace BB := below_step BB hb; replace O0 := O0.step hb; replace O1 := O1.step hb; replace r1 := r1.step hb; replace r2 := r2.step hb; (try clear z00 z01 z10 z11); have z00 := O0.cell 0; have z01 := O0.cell 1; have z10 := O1.cell 0; have z11 := O1.cell 1) | (go_at_call 32; (with_reducible refine (HL.out _ r2).mono ?_); rintro e w1 ⟨rfl, hb⟩; replace BB := below_step BB hb; replace O0 := O0.step hb; replace O1 := O1.step hb; replace r1 := r1.step hb; replace r2 := r2.step hb; (try clear z00 z01 z10 z11); have z00 := O0.cell 0; have z01 := O0.cell 1; have z10 := O1.cell 0; have z11 := O1.cell 1))
        go_ret
        exact ⟨ret_i e9.out.symm, BB⟩
      have HK := Lib.hid (fun (u : World) (h : Rb u A1 N lx) => ((kn_of (s := sy) okx).trans hkx) ▸ rKnown_any A1 N c1 sy lx u h (by omega))
      have HL := Lib.hid (fun (u : World) (h : Rb u A2 N ly) => ((kn_of (s := sy) oky).trans hky) ▸ rKnown_any A2 N c2 sy ly u h (by omega))
      replace hkx := Lib.hid hkx
      replace hky := Lib.hid hky
      clear okx oky
      have hop' := Lib.hid hop
      clear hop
      go_wp2_with (first | (go_at_call 32; (with_reducible refine (HK.out _ r1).mono ?_); rintro e w1 ⟨rfl, hb⟩; replace BB := below_step BB hb; replace O0 := O0.step hb; replace O1 := O1.step hb; replace r1 := r1.step hb; replace r2 := r2.step hb; (try clear z00 z01 z10 z11); have z00 := O0.cell 0; have z01 := O0.cell 1; have z10 := O1.cell 0; have z11 := O1.cell 1) | (go_at_call 32; (with_reducible refine (HL.out _ r2).mono ?_); rintro e w1 ⟨rfl, hb⟩; replace BB := below_step BB hb; replace O0 := O0.step hb; replace O1 := O1.step hb; replace r1 := r1.step hb; replace r2 := r2.step hb; (try clear z00 z01 z10 z11); have z00 := O0.cell 0; have z01 := O0.cell 1; have z10 := O1.cell 0; have z11 := O1.cell 1))
      have hop := hop'.out
      clear hop' d1 d2 d3 d4
      refine region_y (by kernel_rfl) (fun u => owns w.heap.size #[.slice A1 N c1, .bool sy] u ∧ (owns (w.heap.size + 1) #[.slice A2 N c2, .bool sy] u ∧ (rds A1 N lx u ∧ (rds A2 N ly u ∧ blw w u)))) [tru, tru, tru, tru, tru, tru] [isV (.agg #[.slice A1 N c1, .bool sy]), isNum N (num lx), isV (.agg #[.slice A2 N c2, .bool sy]), isNum N (num ly), isV (.int .i64 (B.cmpI (num lx) (num ly))), isV (.int .i64 (B.cmpI (num lx) (num ly)))] [some 70, some 71, some 72, some 73, some 74, some 10] [[], [0], [], [2, 1], [1, 3, 3], [4, 4, 0, 1, 2, 3, 4]] (by kernel_rfl) (by kernel_rfl) rfl (by kernel_rfl) (by kernel_rfl) (by kernel_rfl) ⟨O0.drew, O1.drew, r1.drew, r2.drew, below_drew BB⟩ (by
        intro U hU
        simp only [List.mem_cons, List.not_mem_nil, or_false] at hU
        rcases hU with rfl | rfl | rfl | rfl | rfl | rfl
        all_goals first | trivial | assumption) ?_ ?_
      · refine ⟨?_, ?_, ?_, ?_, ?_, ?_, trivial⟩
        · intro a w' hS hO hF' hP K hK; have ha := hO 4 (by rfl); refine if_ok (by rfl) ?_; refine wp_load_row 24 (.tmp 4) rfl w.heap.size (ev ha) _ _ (0, 0) _ hS.1 Tryz.underlying24 rfl (by kernel_rfl) ?_; exact hK _ w' nofun (keep_same hS) rfl
        · intro a w' hS hO hF' hP K hK; obtain ⟨_, f0, rfl⟩ := (hF' 0 rfl).1 70 _ rfl rfl; refine if_ok (by rfl) ?_; refine wp_calls rfl (enters_of Tryz.func114 (by kernel_rfl) rfl) (args := #[(.agg #[.slice A1 N c1, .bool sy])]) (by simp [Act.eval, f0]) ?_; obtain ⟨O0, O1, r1, r2, BB⟩ := id hS; have hz := BB.size; refine (rBools_any _ _ _ _ _ _ r1 (by omega)).mono ?_; rintro e w2 ⟨A, c, rfl, hN, hb⟩; exact ⟨_, rfl, hK _ w2 nofun (keep_below hb hS) ⟨A, c, rfl, hN.mono (Nat.zero_le _)⟩⟩
        · intro a w' hS hO hF' hP K hK; have ha := hO 5 (by rfl); refine if_ok (by rfl) ?_; refine wp_load_row 24 (.tmp 5) rfl (w.heap.size + 1) (ev ha) _ _ (0, 0) _ hS.2.1 Tryz.underlying24 rfl (by kernel_rfl) ?_; exact hK _ w' nofun (keep_same hS) rfl
        · intro a w' hS hO hF' hP K hK; obtain ⟨_, f0, rfl⟩ := (hF' 2 rfl).1 72 _ rfl rfl; refine if_ok (by rfl) ?_; refine wp_calls rfl (enters_of Tryz.func114 (by kernel_rfl) rfl) (args := #[(.agg #[.slice A2 N c2, .bool sy])]) (by simp [Act.eval, f0]) ?_; obtain ⟨O0, O1, r1, r2, BB⟩ := id hS; have hz := BB.size; refine (rBools_any _ _ _ _ _ _ r2 (by omega)).mono ?_; rintro e w2 ⟨A, c, rfl, hN, hb⟩; exact ⟨_, rfl, hK _ w2 nofun (keep_below hb hS) ⟨A, c, rfl, hN.mono (Nat.zero_le _)⟩⟩
        · intro a w' hS hO hF' hP K hK; obtain ⟨_, f0, X0, cX0, rfl, hX0⟩ := (hF' 1 rfl).1 71 _ rfl rfl; obtain ⟨_, f1, X1, cX1, rfl, hX1⟩ := (hF' 3 rfl).1 73 _ rfl rfl; refine if_ok (by rfl) ?_; refine wp_calls rfl (enters_of Tryz.func179 (by kernel_rfl) rfl) (args := #[(.slice X0 N cX0), (.slice X1 N cX1)]) (by simp [Act.eval, f0, f1]) ?_; obtain ⟨O0, O1, r1, r2, BB⟩ := id hS; have hz := BB.size; refine (B.rCmp_any _ _ _ _ _ _ _ _ _ hX0.rd hX1.rd (by omega) (by omega) hX0.le hX1.le).mono ?_; rintro e w2 ⟨rfl, hb⟩; exact ⟨_, rfl, hK _ w2 nofun (keep_below hb hS) rfl⟩
        · intro a w' hS hO hF' hP K hK; obtain ⟨_, f0, rfl⟩ := (hF' 4 rfl).1 74 _ rfl rfl; refine if_ok (by rfl) ?_; unfold Oper.wp execOp; simp only [Sem.run_pure, ev f0]; exact hK _ w' nofun (keep_same hS) rfl
      · intro vs u hl hS hV
        match vs, hl, hV with
        | [v0, v1, v2, v3, v4, v5], _, hV =>
          obtain rfl := hV 0 _ rfl
          obtain ⟨X1, cX1, rfl, hX1⟩ := hV 1 _ rfl
          obtain rfl := hV 2 _ rfl
          obtain ⟨X3, cX3, rfl, hX3⟩ := hV 3 _ rfl
          obtain rfl := hV 4 _ rfl
          obtain rfl := hV 5 _ rfl
          simp only [puts, Act.put, List.setIfInBounds_toArray, List.set_cons_zero, List.set_cons_succ]
          obtain ⟨O0, O1, r1, r2, BB⟩ := hS
          clear hV
          replace O0 : Own u w.heap.size 24 #[.slice A1 N c1, .bool sy] := O0
          replace O1 : Own u (w.heap.size + 1) 24 #[.slice A2 N c2, .bool sy] := O1
          replace r1 : Rb u A1 N lx := r1
          replace r2 : Rb u A2 N ly := r2
          replace BB : Below w.heap.size w u := BB
          clear hX1 hX3
          have z00 := O0.cell 0
          have z01 := O0.cell 1
          cases sy
          · skip
            rcases hop with rfl | rfl | rfl | rfl
            · have e9 := Lib.hid (show fromI (pLt (B.cmpI (num lx) (num ly))) = cmW 31 N false lx ly from by unfold cmW cmR; rw [hkx.out, hky.out]; rfl)
              unfold pLt at e9
              generalize B.cmpI (num lx) (num ly) = zz at *
              go_wp2_with (go_at_call 188; refine (rfrom_any _ _).mono ?_; rintro e w1 ⟨rfl, q, rfl⟩)
              go_ret
              exact ⟨ret_i e9.out, below_drewN BB _⟩
            · have e9 := Lib.hid (show fromI (pLe (B.cmpI (num lx) (num ly))) = cmW 32 N false lx ly from by unfold cmW cmR; rw [hkx.out, hky.out]; rfl)
              unfold pLe at e9
              generalize B.cmpI (num lx) (num ly) = zz at *
              go_wp2_with (go_at_call 188; refine (rfrom_any _ _).mono ?_; rintro e w1 ⟨rfl, q, rfl⟩)
              go_ret
              exact ⟨ret_i e9.out, below_drewN BB _⟩
            · have e9 := Lib.hid (show fromI (pGt (B.cmpI (num lx) (num ly))) = cmW 33 N false lx ly from by unfold cmW cmR; rw [hkx.out, hky.out]; rfl)
              unfold pGt at e9
              generalize B.cmpI (num lx) (num ly) = zz at *
              go_wp2_with (go_at_call 188; refine (rfrom_any _ _).mono ?_; rintro e w1 ⟨rfl, q, rfl⟩)
              go_ret
              exact ⟨ret_i e9.out, below_drewN BB _⟩
            · have e9 := Lib.hid (show fromI (pGe (B.cmpI (num lx) (num ly))) = cmW 34 N false lx ly from by unfold cmW cmR; rw [hkx.out, hky.out]; rfl)
              unfold pGe at e9
              generalize B.cmpI (num lx) (num ly) = zz at *
              go_wp2_with (go_at_call 188; refine (rfrom_any _ _).mono ?_; rintro e w1 ⟨rfl, q, rfl⟩)
              go_ret
              exact ⟨ret_i e9.out, below_drewN BB _⟩
          · go_wp2
            refine region_y (by kernel_rfl) (fun u => owns w.heap.size #[.slice A1 N c1, .bool true] u ∧ (owns (w.heap.size + 1) #[.slice A2 N c2, .bool true] u ∧ (rds A1 N lx u ∧ (rds A2 N ly u ∧ blw w u)))) [tru, tru, tru, tru, tru, tru] [isV (.agg #[.slice A1 N c1, .bool true]), isNum N (num lx), isV (.agg #[.slice A2 N c2, .bool true]), isNum N (num ly), isV (.int .i64 (B.cmpI (B.sval N (num lx)) (B.sval N (num ly)))), isV (.int .i64 (B.cmpI (B.sval N (num lx)) (B.sval N (num ly))))] [some 77, some 78, some 79, some 80, some 81, some 10] [[], [0], [], [2, 1], [1, 3, 3], [4, 4, 0, 1, 2, 3, 4]] (by kernel_rfl) (by kernel_rfl) rfl (by kernel_rfl) (by kernel_rfl) (by kernel_rfl) ⟨O0.drew, O1.drew, r1.drew, r2.drew, below_drew BB⟩ (by
              intro U hU
              simp only [List.mem_cons, List.not_mem_nil, or_false] at hU
              rcases hU with rfl | rfl | rfl | rfl | rfl | rfl
              all_goals first | trivial | assumption) ?_ ?_
            · refine ⟨?_, ?_, ?_, ?_, ?_, ?_, trivial⟩
              · intro a w' hS hO hF' hP K hK; have ha := hO 4 (by rfl); refine if_ok (by rfl) ?_; refine wp_load_row 24 (.tmp 4) rfl w.heap.size (ev ha) _ _ (0, 0) _ hS.1 Tryz.underlying24 rfl (by kernel_rfl) ?_; exact hK _ w' nofun (keep_same hS) rfl
              · intro a w' hS hO hF' hP K hK; obtain ⟨_, f0, rfl⟩ := (hF' 0 rfl).1 77 _ rfl rfl; refine if_ok (by rfl) ?_; refine wp_calls rfl (enters_of Tryz.func114 (by kernel_rfl) rfl) (args := #[(.agg #[.slice A1 N c1, .bool true])]) (by simp [Act.eval, f0]) ?_; obtain ⟨O0, O1, r1, r2, BB⟩ := id hS; have hz := BB.size; refine (rBools_any _ _ _ _ _ _ r1 (by omega)).mono ?_; rintro e w2 ⟨A, c, rfl, hN, hb⟩; exact ⟨_, rfl, hK _ w2 nofun (keep_below hb hS) ⟨A, c, rfl, hN.mono (Nat.zero_le _)⟩⟩
              · intro a w' hS hO hF' hP K hK; have ha := hO 5 (by rfl); refine if_ok (by rfl) ?_; refine wp_load_row 24 (.tmp 5) rfl (w.heap.size + 1) (ev ha) _ _ (0, 0) _ hS.2.1 Tryz.underlying24 rfl (by kernel_rfl) ?_; exact hK _ w' nofun (keep_same hS) rfl
              · intro a w' hS hO hF' hP K hK; obtain ⟨_, f0, rfl⟩ := (hF' 2 rfl).1 79 _ rfl rfl; refine if_ok (by rfl) ?_; refine wp_calls rfl (enters_of Tryz.func114 (by kernel_rfl) rfl) (args := #[(.agg #[.slice A2 N c2, .bool true])]) (by simp [Act.eval, f0]) ?_; obtain ⟨O0, O1, r1, r2, BB⟩ := id hS; have hz := BB.size; refine (rBools_any _ _ _ _ _ _ r2 (by omega)).mono ?_; rintro e w2 ⟨A, c, rfl, hN, hb⟩; exact ⟨_, rfl, hK _ w2 nofun (keep_below hb hS) ⟨A, c, rfl, hN.mono (Nat.zero_le _)⟩⟩
              · intro a w' hS hO hF' hP K hK; obtain ⟨_, f0, X0, cX0, rfl, hX0⟩ := (hF' 1 rfl).1 78 _ rfl rfl; obtain ⟨_, f1, X1, cX1, rfl, hX1⟩ := (hF' 3 rfl).1 80 _ rfl rfl; refine if_ok (by rfl) ?_; refine wp_calls rfl (enters_of Tryz.func189 (by kernel_rfl) rfl) (args := #[(.slice X0 N cX0), (.slice X1 N cX1)]) (by simp [Act.eval, f0, f1]) ?_; obtain ⟨O0, O1, r1, r2, BB⟩ := id hS; have hz := BB.size; refine (B.rSCmp_any _ _ _ _ _ _ _ _ _ hX0.rd hX1.rd (by omega) (by omega) hX0.le hX1.le).mono ?_; rintro e w2 ⟨rfl, hb⟩; exact ⟨_, rfl, hK _ w2 nofun (keep_below hb hS) rfl⟩
              · intro a w' hS hO hF' hP K hK; obtain ⟨_, f0, rfl⟩ := (hF' 4 rfl).1 81 _ rfl rfl; refine if_ok (by rfl) ?_; unfold Oper.wp execOp; simp only [Sem.run_pure, ev f0]; exact hK _ w' nofun (keep_same hS) rfl
            · intro vs u hl hS hV
              match vs, hl, hV with
              | [v0, v1, v2, v3, v4, v5], _, hV =>
                obtain rfl := hV 0 _ rfl
                obtain ⟨X1, cX1, rfl, hX1⟩ := hV 1 _ rfl
                obtain rfl := hV 2 _ rfl
                obtain ⟨X3, cX3, rfl, hX3⟩ := hV 3 _ rfl
                obtain rfl := hV 4 _ rfl
                obtain rfl := hV 5 _ rfl
                simp only [puts, Act.put, List.setIfInBounds_toArray, List.set_cons_zero, List.set_cons_succ]
                obtain ⟨O0, O1, r1, r2, BB⟩ := hS
                clear hV
                replace O0 : Own u w.heap.size 24 #[.slice A1 N c1, .bool true] := O0
                replace O1 : Own u (w.heap.size + 1) 24 #[.slice A2 N c2, .bool true] := O1
                replace r1 : Rb u A1 N lx := r1
                replace r2 : Rb u A2 N ly := r2
                replace BB : Below w.heap.size w u := BB
                clear hX1 hX3
                have z00 := O0.cell 0
                have z01 := O0.cell 1
                rcases hop with rfl | rfl | rfl | rfl
                · have e9 := Lib.hid (show fromI (pLt (B.cmpI (B.sval N (num lx)) (B.sval N (num ly)))) = cmW 31 N true lx ly from by unfold cmW cmR; rw [hkx.out, hky.out]; rfl)
                  unfold pLt at e9
                  generalize B.cmpI (B.sval N (num lx)) (B.sval N (num ly)) = zz at *
                  go_wp2_with (go_at_call 188; refine (rfrom_any _ _).mono ?_; rintro e w1 ⟨rfl, q, rfl⟩)
                  go_ret
                  exact ⟨ret_i e9.out, below_drewN BB _⟩
                · have e9 := Lib.hid (show fromI (pLe (B.cmpI (B.sval N (num lx)) (B.sval N (num ly)))) = cmW 32 N true lx ly from by unfold cmW cmR; rw [hkx.out, hky.out]; rfl)
                  unfold pLe at e9
                  generalize B.cmpI (B.sval N (num lx)) (B.sval N (num ly)) = zz at *
                  go_wp2_with (go_at_call 188; refine (rfrom_any _ _).mono ?_; rintro e w1 ⟨rfl, q, rfl⟩)
                  go_ret
                  exact ⟨ret_i e9.out, below_drewN BB _⟩
                · have e9 := Lib.hid (show fromI (pGt (B.cmpI (B.sval N (num lx)) (B.sval N (num ly)))) = cmW 33 N true lx ly from by unfold cmW cmR; rw [hkx.out, hky.out]; rfl)
                  unfold pGt at e9
                  generalize B.cmpI (B.sval N (num lx)) (B.sval N (num ly)) = zz at *
                  go_wp2_with (go_at_call 188; refine (rfrom_any _ _).mono ?_; rintro e w1 ⟨rfl, q, rfl⟩)
                  go_ret
                  exact ⟨ret_i e9.out, below_drewN BB _⟩
                · have e9 := Lib.hid (show fromI (pGe (B.cmpI (B.sval N (num lx)) (B.sval N (num ly)))) = cmW 34 N true lx ly from by unfold cmW cmR; rw [hkx.out, hky.out]; rfl)
                  unfold pGe at e9
                  generalize B.cmpI (B.sval N (num lx)) (B.sval N (num ly)) = zz at *
                  go_wp2_with (go_at_call 188; refine (rfrom_any _ _).mono ?_; rintro e w1 ⟨rfl, q, rfl⟩)
                  go_ret
                  exact ⟨ret_i e9.out, below_drewN BB _⟩
end Go.Proofs.YtognpmggfplekaaGreatDoor
