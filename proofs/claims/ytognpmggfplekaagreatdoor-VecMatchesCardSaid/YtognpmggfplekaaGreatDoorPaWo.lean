/-
  Contracts of the reference's arithmetic. Conditions: both operands are valid and of one width.
-/
import Derived.Test.YtognpmggfplekaaGreatDoorPaWn
set_option maxRecDepth 100000
namespace Go.Proofs.YtognpmggfplekaaGreatDoor
open Go Go.RowKit

def arW (F : Nat → Nat → Nat → Option Nat) (N : Nat) (S : Bool) (lx ly : List Int) : V :=
  if knL lx && knL ly then
    match F N (num lx) (num ly) with
    | some x => ⟨frN N x, S⟩
    | none => allV 2 N S
  else allV 2 N S
theorem arW_eq (F : Nat → Nat → Nat → Option Nat) (a b : V) : arV F a b = arW F (balN a b) (balS a b) (balL a b).l (balR a b).l := rfl
theorem kn_of {l : List Int} {s : Bool} (h : okB l = true) : kn ⟨l, s⟩ = knL l := by unfold kn; rw [nrm_of h]
theorem rFill_n (b : Int) (N : Nat) (s : Bool) (w : World) (hb : 0 ≤ b) (hN : N ≤ 1000) : Calls Tryz.prog 53 #[.int .u8 b, .int .i64 N, .bool s] w (RetV w (allV b N s)) := by
  have := rFill_w b N s w hb (by omega)
  rwa [Int.toNat_natCast] at this
set_option maxHeartbeats 4000000 in
theorem rar_no (op : Int) (A1 A2 : Option Addr) (N c1 c2 : Nat) (sy : Bool) (lx ly : List Int) (w : World) (r1 : Rb w A1 N lx) (r2 : Rb w A2 N ly) (okx : okB lx = true) (oky : okB ly = true) (h0 : 0 < N) (hN : N ≤ 128) (hk : (knL lx && knL ly) = false) :
    Calls Tryz.prog 105 #[.int .u8 op, .agg #[.slice A1 N c1, .bool sy], .agg #[.slice A2 N c2, .bool sy]] w (RetV w (allV 2 N sy)) := by
  have O0 := (((Own.at1 w 24 #[.slice A1 N c1, .bool sy] (g := w.heap.size) (by simp)).alloc (.cells #[.slice A2 N c2, .bool sy] 24)).alloc (.cells #[.slice none 0 0, .bool false] 24))
  have O1 := ((Own.at1 (w.alloc (.cells #[.slice A1 N c1, .bool sy] 24)) 24 #[.slice A2 N c2, .bool sy] (g := w.heap.size + 1) (by simp)).alloc (.cells #[.slice none 0 0, .bool false] 24))
  have O2 := (Own.at1 ((w.alloc (.cells #[.slice A1 N c1, .bool sy] 24)).alloc (.cells #[.slice A2 N c2, .bool sy] 24)) 24 #[.slice none 0 0, .bool false] (g := w.heap.size + 1 + 1) (by simp))
  have BB := (below_new (below_new (below_new (Below.refl w.heap.size w) (.cells #[.slice A1 N c1, .bool sy] 24)) (.cells #[.slice A2 N c2, .bool sy] 24)) (.cells #[.slice none 0 0, .bool false] 24))
  have HKx := Lib.hid (fun (u : World) (h : Rb u A1 N lx) => (kn_of (s := sy) okx) ▸ rKnown_any A1 N c1 sy lx u h (by omega))
  have HKy := Lib.hid (fun (u : World) (h : Rb u A2 N ly) => (kn_of (s := sy) oky) ▸ rKnown_any A2 N c2 sy ly u h (by omega))
  have HF := Lib.hid (fun (u : World) => rFill_n 2 N sy u (by decide) (by omega))
  replace r1 := r1.step BB
  replace r2 := r2.step BB
  have q00 := O0.cell 0
  have q01 := O0.cell 1
  have q10 := O1.cell 0
  have q11 := O1.cell 1
  cases hkx : knL lx
  · rw [hkx] at HKx
    clear hkx okx oky hk
    go_enter Tryz.func105, Tryz.ntmps105
    go_wp2_with (first | (go_at_call 32; (with_reducible refine (HKx.out _ (by assumption)).mono ?_); rintro e w1 ⟨rfl, hb⟩; replace BB := below_step BB hb; replace O0 := O0.step hb; replace O1 := O1.step hb; replace O2 := O2.step hb; replace r1 := r1.step hb; replace r2 := r2.step hb; (try clear q00 q01 q10 q11 q20 q21 f20 f21); have q00 := O0.cell 0; have q01 := O0.cell 1; have q10 := O1.cell 0; have q11 := O1.cell 1; have q20 := O2.cell 0; have q21 := O2.cell 1; have f20 := O2.free 0; have f21 := O2.free 1) | (go_at_call 53; refine (HF.out _).mono ?_; rintro e w9 ⟨A9, c9, rfl, n9, hb9⟩; have L1 := O2.lt; have W2 := O2.step hb9; have qW20 := W2.cell 0; have qW21 := W2.cell 1; have fW20 := W2.free 0; have fW21 := W2.free 1))
    exact ret_vec Tryz.results105 rfl rfl (W2.put2 _ _) (mk_ret (v := allV 2 N sy) ((n9.far2 L1 _ _).mono BB.size) (below_set2 (below_step BB hb9) (by omega) _ _))
  · have hky : knL ly = false := by rw [hkx] at hk; exact hk
    rw [hkx] at HKx
    rw [hky] at HKy
    clear hkx hky okx oky hk
    go_enter Tryz.func105, Tryz.ntmps105
    go_wp2_with (first | (go_at_call 32; (with_reducible refine (HKx.out _ (by assumption)).mono ?_); rintro e w1 ⟨rfl, hb⟩; replace BB := below_step BB hb; replace O0 := O0.step hb; replace O1 := O1.step hb; replace O2 := O2.step hb; replace r1 := r1.step hb; replace r2 := r2.step hb; (try clear q00 q01 q10 q11 q20 q21 f20 f21); have q00 := O0.cell 0; have q01 := O0.cell 1; have q10 := O1.cell 0; have q11 := O1.cell 1; have q20 := O2.cell 0; have q21 := O2.cell 1; have f20 := O2.free 0; have f21 := O2.free 1) | (go_at_call 32; (with_reducible refine (HKy.out _ (by assumption)).mono ?_); rintro e w1 ⟨rfl, hb⟩; replace BB := below_step BB hb; replace O0 := O0.step hb; replace O1 := O1.step hb; replace O2 := O2.step hb; replace r1 := r1.step hb; replace r2 := r2.step hb; (try clear q00 q01 q10 q11 q20 q21 f20 f21); have q00 := O0.cell 0; have q01 := O0.cell 1; have q10 := O1.cell 0; have q11 := O1.cell 1; have q20 := O2.cell 0; have q21 := O2.cell 1; have f20 := O2.free 0; have f21 := O2.free 1) | (go_at_call 53; refine (HF.out _).mono ?_; rintro e w9 ⟨A9, c9, rfl, n9, hb9⟩; have L1 := O2.lt; have W2 := O2.step hb9; have qW20 := W2.cell 0; have qW21 := W2.cell 1; have fW20 := W2.free 0; have fW21 := W2.free 1))
    exact ret_vec Tryz.results105 rfl rfl (W2.put2 _ _) (mk_ret (v := allV 2 N sy) ((n9.far2 L1 _ _).mono BB.size) (below_set2 (below_step BB hb9) (by omega) _ _))
set_option maxHeartbeats 4000000 in
theorem rar_add (A1 A2 : Option Addr) (N c1 c2 : Nat) (sy : Bool) (lx ly : List Int) (w : World) (r1 : Rb w A1 N lx) (r2 : Rb w A2 N ly) (okx : okB lx = true) (oky : okB ly = true) (h0 : 0 < N) (hN : N ≤ 128) :
    Calls Tryz.prog 105 #[.int .u8 21, .agg #[.slice A1 N c1, .bool sy], .agg #[.slice A2 N c2, .bool sy]] w (RetV w (arW fAdd N sy lx ly)) := by
  cases hk : (knL lx && knL ly)
  · have := rar_no 21 A1 A2 N c1 c2 sy lx ly w r1 r2 okx oky h0 hN hk
    have e : arW fAdd N sy lx ly = allV 2 N sy := by unfold arW; rw [hk]; rfl
    rwa [e]
  obtain ⟨hkx, hky⟩ := (Bool.and_eq_true _ _).mp hk
  have O0 := (((Own.at1 w 24 #[.slice A1 N c1, .bool sy] (g := w.heap.size) (by simp)).alloc (.cells #[.slice A2 N c2, .bool sy] 24)).alloc (.cells #[.slice none 0 0, .bool false] 24))
  have O1 := ((Own.at1 (w.alloc (.cells #[.slice A1 N c1, .bool sy] 24)) 24 #[.slice A2 N c2, .bool sy] (g := w.heap.size + 1) (by simp)).alloc (.cells #[.slice none 0 0, .bool false] 24))
  have O2 := (Own.at1 ((w.alloc (.cells #[.slice A1 N c1, .bool sy] 24)).alloc (.cells #[.slice A2 N c2, .bool sy] 24)) 24 #[.slice none 0 0, .bool false] (g := w.heap.size + 1 + 1) (by simp))
  have BB := (below_new (below_new (below_new (Below.refl w.heap.size w) (.cells #[.slice A1 N c1, .bool sy] 24)) (.cells #[.slice A2 N c2, .bool sy] 24)) (.cells #[.slice none 0 0, .bool false] 24))
  have HKx := Lib.hid (fun (u : World) (h : Rb u A1 N lx) => (kn_of (s := sy) okx) ▸ rKnown_any A1 N c1 sy lx u h (by omega))
  have HKy := Lib.hid (fun (u : World) (h : Rb u A2 N ly) => (kn_of (s := sy) oky) ▸ rKnown_any A2 N c2 sy ly u h (by omega))
  have HF := Lib.hid (fun (u : World) => rFill_n 2 N sy u (by decide) (by omega))
  replace r1 := r1.step BB
  replace r2 := r2.step BB
  have q00 := O0.cell 0
  have q01 := O0.cell 1
  have q10 := O1.cell 0
  have q11 := O1.cell 1
  rw [hkx] at HKx
  rw [hky] at HKy
  have e9 := Lib.hid (show (⟨frN N ((num lx + num ly) % 2 ^ N), sy⟩ : V) = arW fAdd N sy lx ly from by unfold arW; rw [hkx, hky]; rfl)
  replace hkx := Lib.hid hkx
  replace hky := Lib.hid hky
  replace okx := Lib.hid okx
  replace oky := Lib.hid oky
  clear hk
  go_enter Tryz.func105, Tryz.ntmps105
  go_wp2_with (first | (go_at_call 32; (with_reducible refine (HKx.out _ (by assumption)).mono ?_); rintro e w1 ⟨rfl, hb⟩; replace BB := below_step BB hb; replace O0 := O0.step hb; replace O1 := O1.step hb; replace O2 := O2.step hb; replace r1 := r1.step hb; replace r2 := r2.step hb; (try clear q00 q01 q10 q11 q20 q21 f20 f21); have q00 := O0.cell 0; have q01 := O0.cell 1; have q10 := O1.cell 0; have q11 := O1.cell 1; have q20 := O2.cell 0; have q21 := O2.cell 1; have f20 := O2.free 0; have f21 := O2.free 1) | (go_at_call 32; (with_reducible refine (HKy.out _ (by assumption)).mono ?_); rintro e w1 ⟨rfl, hb⟩; replace BB := below_step BB hb; replace O0 := O0.step hb; replace O1 := O1.step hb; replace O2 := O2.step hb; replace r1 := r1.step hb; replace r2 := r2.step hb; (try clear q00 q01 q10 q11 q20 q21 f20 f21); have q00 := O0.cell 0; have q01 := O0.cell 1; have q10 := O1.cell 0; have q11 := O1.cell 1; have q20 := O2.cell 0; have q21 := O2.cell 1; have f20 := O2.free 0; have f21 := O2.free 1))
  refine region_y (by kernel_rfl) (fun u => owns w.heap.size #[.slice A1 N c1, .bool sy] u ∧ (owns (w.heap.size + 1) #[.slice A2 N c2, .bool sy] u ∧ (owns (w.heap.size + 1 + 1) #[.slice none 0 0, .bool false] u ∧ (rds A1 N lx u ∧ (rds A2 N ly u ∧ blw w u))))) [tru, tru, tru, tru, tru, tru] [isV (.agg #[.slice A1 N c1, .bool sy]), isNum N (num lx), isV (.agg #[.slice A2 N c2, .bool sy]), isNum N (num ly), isNum N (num lx), isNum N (num ly)] [some 26, some 27, some 28, some 29, some 7, some 8] [[], [0], [], [2, 1], [1, 3, 0, 1], [3, 4, 0, 1, 2, 3, 4]] (by kernel_rfl) (by kernel_rfl) rfl (by kernel_rfl) (by kernel_rfl) (by kernel_rfl) ⟨O0.drew, O1.drew, O2.drew, r1.drew, r2.drew, below_drew BB⟩ (by
    intro U hU
    simp only [List.mem_cons, List.not_mem_nil, or_false] at hU
    rcases hU with rfl | rfl | rfl | rfl | rfl | rfl
    all_goals first | trivial | assumption) ?_ ?_
  · refine ⟨?_, ?_, ?_, ?_, ?_, ?_, trivial⟩
    · intro a w' hS hO hF' hP K hK; have ha := hO 4 (by rfl); refine if_ok (by rfl) ?_; refine wp_load_row 24 (.tmp 4) rfl w.heap.size (ev ha) _ _ (0, 0) _ hS.1 Tryz.underlying24 rfl (by kernel_rfl) ?_; exact hK _ w' nofun (keep_same hS) rfl
    · intro a w' hS hO hF' hP K hK; obtain ⟨_, f0, rfl⟩ := (hF' 0 rfl).1 26 _ rfl rfl; refine if_ok (by rfl) ?_; refine wp_calls rfl (enters_of Tryz.func114 (by kernel_rfl) rfl) (args := #[(.agg #[.slice A1 N c1, .bool sy])]) (by simp [Act.eval, f0]) ?_; obtain ⟨O0, O1, O2, r1, r2, BB⟩ := id hS; have hz := BB.size; refine (rBools_any _ _ _ _ _ _ r1 (by omega)).mono ?_; rintro e w2 ⟨A, c, rfl, hN, hb⟩; exact ⟨_, rfl, hK _ w2 nofun (keep_below hb hS) ⟨A, c, rfl, hN.mono (Nat.zero_le _)⟩⟩
    · intro a w' hS hO hF' hP K hK; have ha := hO 5 (by rfl); refine if_ok (by rfl) ?_; refine wp_load_row 24 (.tmp 5) rfl (w.heap.size + 1) (ev ha) _ _ (0, 0) _ hS.2.1 Tryz.underlying24 rfl (by kernel_rfl) ?_; exact hK _ w' nofun (keep_same hS) rfl
    · intro a w' hS hO hF' hP K hK; obtain ⟨_, f0, rfl⟩ := (hF' 2 rfl).1 28 _ rfl rfl; refine if_ok (by rfl) ?_; refine wp_calls rfl (enters_of Tryz.func114 (by kernel_rfl) rfl) (args := #[(.agg #[.slice A2 N c2, .bool sy])]) (by simp [Act.eval, f0]) ?_; obtain ⟨O0, O1, O2, r1, r2, BB⟩ := id hS; have hz := BB.size; refine (rBools_any _ _ _ _ _ _ r2 (by omega)).mono ?_; rintro e w2 ⟨A, c, rfl, hN, hb⟩; exact ⟨_, rfl, hK _ w2 nofun (keep_below hb hS) ⟨A, c, rfl, hN.mono (Nat.zero_le _)⟩⟩
    · intro a w' hS hO hF' hP K hK; obtain ⟨_, f0, X0, cX0, rfl, hX0⟩ := (hF' 1 rfl).1 27 _ rfl rfl; refine if_ok (by rfl) ?_; unfold Oper.wp execOp; simp only [Sem.run_pure, ev f0]; exact hK _ w' nofun (keep_same hS) ⟨X0, cX0, rfl, hX0⟩
    · intro a w' hS hO hF' hP K hK; obtain ⟨_, f0, X0, cX0, rfl, hX0⟩ := (hF' 3 rfl).1 29 _ rfl rfl; refine if_ok (by rfl) ?_; unfold Oper.wp execOp; simp only [Sem.run_pure, ev f0]; exact hK _ w' nofun (keep_same hS) ⟨X0, cX0, rfl, hX0⟩
  · intro vs u hl hS hV
    match vs, hl, hV with
    | [v0, v1, v2, v3, v4, v5], _, hV =>
      obtain rfl := hV 0 _ rfl
      obtain ⟨X1, cX1, rfl, hX1⟩ := hV 1 _ rfl
      obtain rfl := hV 2 _ rfl
      obtain ⟨X3, cX3, rfl, hX3⟩ := hV 3 _ rfl
      obtain ⟨X4, cX4, rfl, hX4⟩ := hV 4 _ rfl
      obtain ⟨X5, cX5, rfl, hX5⟩ := hV 5 _ rfl
      simp only [puts, Act.put, List.setIfInBounds_toArray, List.set_cons_zero, List.set_cons_succ]
      obtain ⟨O0, O1, O2, r1, r2, BB⟩ := hS
      clear hV
      replace O0 : Own u w.heap.size 24 #[.slice A1 N c1, .bool sy] := O0
      replace O1 : Own u (w.heap.size + 1) 24 #[.slice A2 N c2, .bool sy] := O1
      replace O2 : Own u (w.heap.size + 1 + 1) 24 #[.slice none 0 0, .bool false] := O2
      replace r1 : Rb u A1 N lx := r1
      replace r2 : Rb u A2 N ly := r2
      replace BB : Below w.heap.size w u := BB
      have q00 := O0.cell 0
      have q01 := O0.cell 1
      have q20 := O2.cell 0
      have q21 := O2.cell 1
      go_wp2
      haveI : Apart (w.heap.size + 1 + 1) w.heap.size := ⟨by omega⟩
      haveI : Over w (w.heap.size + 1 + 1) := ⟨by omega⟩
      refine region_y (by kernel_rfl) (fun u => owns w.heap.size #[.slice A1 N c1, .bool sy] u ∧ (nws X4 N cX4 (num lx) u ∧ (nws X5 N cX5 (num ly) u ∧ blw w u))) [tru, tru, tru, tru, tru, tru, owns (w.heap.size + 1 + 1) #[.slice none 0 0, .bool false]] [isNum N (num lx), isNum N (num ly), isNum N ((num lx + num ly) % 2 ^ N), isV (.pointer (some ⟨w.heap.size, 1, none⟩)), isV (.bool sy), isNX w.heap.size (⟨frN N ((num lx + num ly) % 2 ^ N), sy⟩ : V), didX w.heap.size (w.heap.size + 1 + 1) (⟨frN N ((num lx + num ly) % 2 ^ N), sy⟩ : V)] [some 33, some 34, some 35, some 36, some 37, some 38, none] [[], [], [0, 1], [], [3], [2, 4, 2], [5, 5, 0, 1, 2, 3, 4, 5]] (by kernel_rfl) (by kernel_rfl) rfl (by kernel_rfl) (by kernel_rfl) (by kernel_rfl) ⟨O0.drew, hX4, hX5, below_drew BB⟩ (by
        intro U hU
        simp only [List.mem_cons, List.not_mem_nil, or_false] at hU
        rcases hU with rfl | rfl | rfl | rfl | rfl | rfl | rfl
        all_goals first | trivial | exact O2.drew) ?_ ?_
      · refine ⟨?_, ?_, ?_, ?_, ?_, ?_, ?_, trivial⟩
        · intro a w' hS hO hF' hP K hK; have f0 := hO 7 (by rfl); refine if_ok (by rfl) ?_; unfold Oper.wp execOp; simp only [Sem.run_pure, ev f0]; exact hK _ w' nofun (keep_same hS) ⟨_, _, rfl, hS.2.1⟩
        · intro a w' hS hO hF' hP K hK; have f0 := hO 8 (by rfl); refine if_ok (by rfl) ?_; unfold Oper.wp execOp; simp only [Sem.run_pure, ev f0]; exact hK _ w' nofun (keep_same hS) ⟨_, _, rfl, hS.2.2.1⟩
        · intro a w' hS hO hF' hP K hK; obtain ⟨_, f0, X0, cX0, rfl, hX0⟩ := (hF' 0 rfl).1 33 _ rfl rfl; obtain ⟨_, f1, X1, cX1, rfl, hX1⟩ := (hF' 1 rfl).1 34 _ rfl rfl; refine if_ok (by rfl) ?_; refine wp_calls rfl (enters_of Tryz.func183 (by kernel_rfl) rfl) (args := #[(.slice X0 N cX0), (.slice X1 N cX1)]) (by simp [Act.eval, f0, f1]) ?_; obtain ⟨O0, hx, hy, BB⟩ := id hS; have hz := BB.size; refine (B.rAdd_any _ _ _ _ _ _ _ _ _ hX0.rd hX1.rd (by omega) (by omega)).mono ?_; rintro e w2 ⟨A, c, rfl, hN, hb⟩; exact ⟨_, rfl, hK _ w2 nofun (keep_below hb hS) ⟨A, c, rfl, hN.mono (Nat.zero_le _)⟩⟩
        · intro a w' hS hO hF' hP K hK; have ha := hO 4 (by rfl); refine if_ok (by rfl) ?_; refine wp_fa1 _ rfl (ev ha) ?_; exact hK _ w' nofun (keep_same hS) rfl
        · intro a w' hS hO hF' hP K hK; obtain ⟨_, f0, rfl⟩ := (hF' 3 rfl).1 36 _ rfl rfl; refine if_ok (by rfl) ?_; refine wp_ldB _ rfl (ev f0) (hS.1.cell 1) ?_; exact hK _ w' nofun (keep_same hS) rfl
        · intro a w' hS hO hF' hP K hK; obtain ⟨_, f0, X0, cX0, rfl, hX0⟩ := (hF' 2 rfl).1 35 _ rfl rfl; obtain ⟨_, f1, rfl⟩ := (hF' 4 rfl).1 37 _ rfl rfl; refine if_ok (by rfl) ?_; refine wp_calls rfl (enters_of Tryz.func132 (by kernel_rfl) rfl) (args := #[(.slice X0 N cX0), (.bool sy)]) (by simp [Act.eval, f0, f1]) ?_; obtain ⟨O0, hx, hy, BB⟩ := id hS; have hz := BB.size; refine (rFromBools_w _ _ _ _ _ _ hX0.rd hN).mono ?_; rintro e w2 ⟨A, n, c, rfl, hc, hn, hN, hb⟩; exact ⟨_, rfl, hK _ w2 nofun (keep_below hb hS) ⟨A, n, c, rfl, hc, hn, hN.mono hz⟩⟩
        · intro a w' hS hO hF' hP K hK; have O := hP 6 _ rfl rfl; have ha := hO 6 (by rfl); obtain ⟨_, f0, A0, n0, c0, rfl, hc0, hn0, hr0⟩ := (hF' 5 rfl).1 38 _ rfl rfl; refine if_ok (by rfl) ?_; refine wp_store_row _ _ _ rfl (w.heap.size + 1 + 1) _ (ev ha) (ev f0) _ _ O vec_size rfl (by simp [Value.oneCell']) ?_; exact hK _ _ (fun _ => rfl) (keep_store O inferInstance ⟨inferInstance, inferInstance, inferInstance, inferInstance, inferInstance, inferInstance, trivial⟩ ⟨inferInstance, inferInstance, inferInstance, inferInstance, inferInstance, inferInstance, trivial⟩ hS) ⟨A0, n0, c0, Own.row O, hc0, hn0, hr0.row O⟩
      · intro vs u hl hS hV
        match vs, hl, hV with
        | [v0, v1, v2, v3, v4, v5, v6], _, hV =>
          obtain ⟨X0, cX0, rfl, hX0⟩ := hV 0 _ rfl
          obtain ⟨X1, cX1, rfl, hX1⟩ := hV 1 _ rfl
          obtain ⟨X2, cX2, rfl, hX2⟩ := hV 2 _ rfl
          obtain rfl := hV 3 _ rfl
          obtain rfl := hV 4 _ rfl
          obtain ⟨A5, nn5, c5, rfl, hc5, hnn5, hN5⟩ := hV 5 _ rfl
          obtain ⟨A6, nn6, c6, O6, hc6, hnn6, hN6⟩ := hV 6 _ rfl
          simp only [puts, Act.put, List.setIfInBounds_toArray, List.set_cons_zero, List.set_cons_succ]
          obtain ⟨O0, hx, hy, BB⟩ := hS
          clear hV
          replace O0 : Own u w.heap.size 24 #[.slice A1 N c1, .bool sy] := O0
          replace hx : B.Nw u 0 X4 N cX4 (num lx) := hx
          replace hy : B.Nw u 0 X5 N cX5 (num ly) := hy
          replace BB : Below w.heap.size w u := BB
          go_wp2
          exact ret_vec Tryz.results105 rfl rfl O6 (e9.out ▸ mk_ret (v := (⟨frN N ((num lx + num ly) % 2 ^ N), sy⟩ : V)) hN6 BB)
set_option maxHeartbeats 4000000 in
theorem rar_sub (A1 A2 : Option Addr) (N c1 c2 : Nat) (sy : Bool) (lx ly : List Int) (w : World) (r1 : Rb w A1 N lx) (r2 : Rb w A2 N ly) (okx : okB lx = true) (oky : okB ly = true) (h0 : 0 < N) (hN : N ≤ 128) :
    Calls Tryz.prog 105 #[.int .u8 22, .agg #[.slice A1 N c1, .bool sy], .agg #[.slice A2 N c2, .bool sy]] w (RetV w (arW fSub N sy lx ly)) := by
  cases hk : (knL lx && knL ly)
  · have := rar_no 22 A1 A2 N c1 c2 sy lx ly w r1 r2 okx oky h0 hN hk
    have e : arW fSub N sy lx ly = allV 2 N sy := by unfold arW; rw [hk]; rfl
    rwa [e]
  obtain ⟨hkx, hky⟩ := (Bool.and_eq_true _ _).mp hk
  have O0 := (((Own.at1 w 24 #[.slice A1 N c1, .bool sy] (g := w.heap.size) (by simp)).alloc (.cells #[.slice A2 N c2, .bool sy] 24)).alloc (.cells #[.slice none 0 0, .bool false] 24))
  have O1 := ((Own.at1 (w.alloc (.cells #[.slice A1 N c1, .bool sy] 24)) 24 #[.slice A2 N c2, .bool sy] (g := w.heap.size + 1) (by simp)).alloc (.cells #[.slice none 0 0, .bool false] 24))
  have O2 := (Own.at1 ((w.alloc (.cells #[.slice A1 N c1, .bool sy] 24)).alloc (.cells #[.slice A2 N c2, .bool sy] 24)) 24 #[.slice none 0 0, .bool false] (g := w.heap.size + 1 + 1) (by simp))
  have BB := (below_new (below_new (below_new (Below.refl w.heap.size w) (.cells #[.slice A1 N c1, .bool sy] 24)) (.cells #[.slice A2 N c2, .bool sy] 24)) (.cells #[.slice none 0 0, .bool false] 24))
  have HKx := Lib.hid (fun (u : World) (h : Rb u A1 N lx) => (kn_of (s := sy) okx) ▸ rKnown_any A1 N c1 sy lx u h (by omega))
  have HKy := Lib.hid (fun (u : World) (h : Rb u A2 N ly) => (kn_of (s := sy) oky) ▸ rKnown_any A2 N c2 sy ly u h (by omega))
  have HF := Lib.hid (fun (u : World) => rFill_n 2 N sy u (by decide) (by omega))
  replace r1 := r1.step BB
  replace r2 := r2.step BB
  have q00 := O0.cell 0
  have q01 := O0.cell 1
  have q10 := O1.cell 0
  have q11 := O1.cell 1
  rw [hkx] at HKx
  rw [hky] at HKy
  have e9 := Lib.hid (show (⟨frN N (B.subv N (num lx) (num ly)), sy⟩ : V) = arW fSub N sy lx ly from by unfold arW; rw [hkx, hky]; rfl)
  replace hkx := Lib.hid hkx
  replace hky := Lib.hid hky
  replace okx := Lib.hid okx
  replace oky := Lib.hid oky
  clear hk
  go_enter Tryz.func105, Tryz.ntmps105
  go_wp2_with (first | (go_at_call 32; (with_reducible refine (HKx.out _ (by assumption)).mono ?_); rintro e w1 ⟨rfl, hb⟩; replace BB := below_step BB hb; replace O0 := O0.step hb; replace O1 := O1.step hb; replace O2 := O2.step hb; replace r1 := r1.step hb; replace r2 := r2.step hb; (try clear q00 q01 q10 q11 q20 q21 f20 f21); have q00 := O0.cell 0; have q01 := O0.cell 1; have q10 := O1.cell 0; have q11 := O1.cell 1; have q20 := O2.cell 0; have q21 := O2.cell 1; have f20 := O2.free 0; have f21 := O2.free 1) | (go_at_call 32; (with_reducible refine (HKy.out _ (by assumption)).mono ?_); rintro e w1 ⟨rfl, hb⟩; replace BB := below_step BB hb; replace O0 := O0.step hb; replace O1 := O1.step hb; replace O2 := O2.step hb; replace r1 := r1.step hb; replace r2 := r2.step hb; (try clear q00 q01 q10 q11 q20 q21 f20 f21); have q00 := O0.cell 0; have q01 := O0.cell 1; have q10 := O1.cell 0; have q11 := O1.cell 1; have q20 := O2.cell 0; have q21 := O2.cell 1; have f20 := O2.free 0; have f21 := O2.free 1))
  refine region_y (by kernel_rfl) (fun u => owns w.heap.size #[.slice A1 N c1, .bool sy] u ∧ (owns (w.heap.size + 1) #[.slice A2 N c2, .bool sy] u ∧ (owns (w.heap.size + 1 + 1) #[.slice none 0 0, .bool false] u ∧ (rds A1 N lx u ∧ (rds A2 N ly u ∧ blw w u))))) [tru, tru, tru, tru, tru, tru] [isV (.agg #[.slice A1 N c1, .bool sy]), isNum N (num lx), isV (.agg #[.slice A2 N c2, .bool sy]), isNum N (num ly), isNum N (num lx), isNum N (num ly)] [some 26, some 27, some 28, some 29, some 7, some 8] [[], [0], [], [2, 1], [1, 3, 0, 1], [3, 4, 0, 1, 2, 3, 4]] (by kernel_rfl) (by kernel_rfl) rfl (by kernel_rfl) (by kernel_rfl) (by kernel_rfl) ⟨O0.drew, O1.drew, O2.drew, r1.drew, r2.drew, below_drew BB⟩ (by
    intro U hU
    simp only [List.mem_cons, List.not_mem_nil, or_false] at hU
    rcases hU with rfl | rfl | rfl | rfl | rfl | rfl
    all_goals first | trivial | assumption) ?_ ?_
  · refine ⟨?_, ?_, ?_, ?_, ?_, ?_, trivial⟩
    · intro a w' hS hO hF' hP K hK; have ha := hO 4 (by rfl); refine if_ok (by rfl) ?_; refine wp_load_row 24 (.tmp 4) rfl w.heap.size (ev ha) _ _ (0, 0) _ hS.1 Tryz.underlying24 rfl (by kernel_rfl) ?_; exact hK _ w' nofun (keep_same hS) rfl
    · intro a w' hS hO hF' hP K hK; obtain ⟨_, f0, rfl⟩ := (hF' 0 rfl).1 26 _ rfl rfl; refine if_ok (by rfl) ?_; refine wp_calls rfl (enters_of Tryz.func114 (by kernel_rfl) rfl) (args := #[(.agg #[.slice A1 N c1, .bool sy])]) (by simp [Act.eval, f0]) ?_; obtain ⟨O0, O1, O2, r1, r2, BB⟩ := id hS; have hz := BB.size; refine (rBools_any _ _ _ _ _ _ r1 (by omega)).mono ?_; rintro e w2 ⟨A, c, rfl, hN, hb⟩; exact ⟨_, rfl, hK _ w2 nofun (keep_below hb hS) ⟨A, c, rfl, hN.mono (Nat.zero_le _)⟩⟩
    · intro a w' hS hO hF' hP K hK; have ha := hO 5 (by rfl); refine if_ok (by rfl) ?_; refine wp_load_row 24 (.tmp 5) rfl (w.heap.size + 1) (ev ha) _ _ (0, 0) _ hS.2.1 Tryz.underlying24 rfl (by kernel_rfl) ?_; exact hK _ w' nofun (keep_same hS) rfl
    · intro a w' hS hO hF' hP K hK; obtain ⟨_, f0, rfl⟩ := (hF' 2 rfl).1 28 _ rfl rfl; refine if_ok (by rfl) ?_; refine wp_calls rfl (enters_of Tryz.func114 (by kernel_rfl) rfl) (args := #[(.agg #[.slice A2 N c2, .bool sy])]) (by simp [Act.eval, f0]) ?_; obtain ⟨O0, O1, O2, r1, r2, BB⟩ := id hS; have hz := BB.size; refine (rBools_any _ _ _ _ _ _ r2 (by omega)).mono ?_; rintro e w2 ⟨A, c, rfl, hN, hb⟩; exact ⟨_, rfl, hK _ w2 nofun (keep_below hb hS) ⟨A, c, rfl, hN.mono (Nat.zero_le _)⟩⟩
    · intro a w' hS hO hF' hP K hK; obtain ⟨_, f0, X0, cX0, rfl, hX0⟩ := (hF' 1 rfl).1 27 _ rfl rfl; refine if_ok (by rfl) ?_; unfold Oper.wp execOp; simp only [Sem.run_pure, ev f0]; exact hK _ w' nofun (keep_same hS) ⟨X0, cX0, rfl, hX0⟩
    · intro a w' hS hO hF' hP K hK; obtain ⟨_, f0, X0, cX0, rfl, hX0⟩ := (hF' 3 rfl).1 29 _ rfl rfl; refine if_ok (by rfl) ?_; unfold Oper.wp execOp; simp only [Sem.run_pure, ev f0]; exact hK _ w' nofun (keep_same hS) ⟨X0, cX0, rfl, hX0⟩
  · intro vs u hl hS hV
    match vs, hl, hV with
    | [v0, v1, v2, v3, v4, v5], _, hV =>
      obtain rfl := hV 0 _ rfl
      obtain ⟨X1, cX1, rfl, hX1⟩ := hV 1 _ rfl
      obtain rfl := hV 2 _ rfl
      obtain ⟨X3, cX3, rfl, hX3⟩ := hV 3 _ rfl
      obtain ⟨X4, cX4, rfl, hX4⟩ := hV 4 _ rfl
      obtain ⟨X5, cX5, rfl, hX5⟩ := hV 5 _ rfl
      simp only [puts, Act.put, List.setIfInBounds_toArray, List.set_cons_zero, List.set_cons_succ]
      obtain ⟨O0, O1, O2, r1, r2, BB⟩ := hS
      clear hV
      replace O0 : Own u w.heap.size 24 #[.slice A1 N c1, .bool sy] := O0
      replace O1 : Own u (w.heap.size + 1) 24 #[.slice A2 N c2, .bool sy] := O1
      replace O2 : Own u (w.heap.size + 1 + 1) 24 #[.slice none 0 0, .bool false] := O2
      replace r1 : Rb u A1 N lx := r1
      replace r2 : Rb u A2 N ly := r2
      replace BB : Below w.heap.size w u := BB
      have q00 := O0.cell 0
      have q01 := O0.cell 1
      have q20 := O2.cell 0
      have q21 := O2.cell 1
      go_wp2
      haveI : Apart (w.heap.size + 1 + 1) w.heap.size := ⟨by omega⟩
      haveI : Over w (w.heap.size + 1 + 1) := ⟨by omega⟩
      refine region_y (by kernel_rfl) (fun u => owns w.heap.size #[.slice A1 N c1, .bool sy] u ∧ (nws X4 N cX4 (num lx) u ∧ (nws X5 N cX5 (num ly) u ∧ blw w u))) [tru, tru, tru, tru, tru, tru, owns (w.heap.size + 1 + 1) #[.slice none 0 0, .bool false]] [isNum N (num lx), isNum N (num ly), isNum N (B.subv N (num lx) (num ly)), isV (.pointer (some ⟨w.heap.size, 1, none⟩)), isV (.bool sy), isNX w.heap.size (⟨frN N (B.subv N (num lx) (num ly)), sy⟩ : V), didX w.heap.size (w.heap.size + 1 + 1) (⟨frN N (B.subv N (num lx) (num ly)), sy⟩ : V)] [some 41, some 42, some 43, some 44, some 45, some 46, none] [[], [], [0, 1], [], [3], [2, 4, 2], [5, 5, 0, 1, 2, 3, 4, 5]] (by kernel_rfl) (by kernel_rfl) rfl (by kernel_rfl) (by kernel_rfl) (by kernel_rfl) ⟨O0.drew, hX4, hX5, below_drew BB⟩ (by
        intro U hU
        simp only [List.mem_cons, List.not_mem_nil, or_false] at hU
        rcases hU with rfl | rfl | rfl | rfl | rfl | rfl | rfl
        all_goals first | trivial | exact O2.drew) ?_ ?_
      · refine ⟨?_, ?_, ?_, ?_, ?_, ?_, ?_, trivial⟩
        · intro a w' hS hO hF' hP K hK; have f0 := hO 7 (by rfl); refine if_ok (by rfl) ?_; unfold Oper.wp execOp; simp only [Sem.run_pure, ev f0]; exact hK _ w' nofun (keep_same hS) ⟨_, _, rfl, hS.2.1⟩
        · intro a w' hS hO hF' hP K hK; have f0 := hO 8 (by rfl); refine if_ok (by rfl) ?_; unfold Oper.wp execOp; simp only [Sem.run_pure, ev f0]; exact hK _ w' nofun (keep_same hS) ⟨_, _, rfl, hS.2.2.1⟩
        · intro a w' hS hO hF' hP K hK; obtain ⟨_, f0, X0, cX0, rfl, hX0⟩ := (hF' 0 rfl).1 41 _ rfl rfl; obtain ⟨_, f1, X1, cX1, rfl, hX1⟩ := (hF' 1 rfl).1 42 _ rfl rfl; refine if_ok (by rfl) ?_; refine wp_calls rfl (enters_of Tryz.func184 (by kernel_rfl) rfl) (args := #[(.slice X0 N cX0), (.slice X1 N cX1)]) (by simp [Act.eval, f0, f1]) ?_; obtain ⟨O0, hx, hy, BB⟩ := id hS; have hz := BB.size; refine (B.rSub_any _ _ _ _ _ _ _ _ _ hX0.rd hX1.rd (by omega) (by omega)).mono ?_; rintro e w2 ⟨A, c, rfl, hN, hb⟩; exact ⟨_, rfl, hK _ w2 nofun (keep_below hb hS) ⟨A, c, rfl, hN.mono (Nat.zero_le _)⟩⟩
        · intro a w' hS hO hF' hP K hK; have ha := hO 4 (by rfl); refine if_ok (by rfl) ?_; refine wp_fa1 _ rfl (ev ha) ?_; exact hK _ w' nofun (keep_same hS) rfl
        · intro a w' hS hO hF' hP K hK; obtain ⟨_, f0, rfl⟩ := (hF' 3 rfl).1 44 _ rfl rfl; refine if_ok (by rfl) ?_; refine wp_ldB _ rfl (ev f0) (hS.1.cell 1) ?_; exact hK _ w' nofun (keep_same hS) rfl
        · intro a w' hS hO hF' hP K hK; obtain ⟨_, f0, X0, cX0, rfl, hX0⟩ := (hF' 2 rfl).1 43 _ rfl rfl; obtain ⟨_, f1, rfl⟩ := (hF' 4 rfl).1 45 _ rfl rfl; refine if_ok (by rfl) ?_; refine wp_calls rfl (enters_of Tryz.func132 (by kernel_rfl) rfl) (args := #[(.slice X0 N cX0), (.bool sy)]) (by simp [Act.eval, f0, f1]) ?_; obtain ⟨O0, hx, hy, BB⟩ := id hS; have hz := BB.size; refine (rFromBools_w _ _ _ _ _ _ hX0.rd hN).mono ?_; rintro e w2 ⟨A, n, c, rfl, hc, hn, hN, hb⟩; exact ⟨_, rfl, hK _ w2 nofun (keep_below hb hS) ⟨A, n, c, rfl, hc, hn, hN.mono hz⟩⟩
        · intro a w' hS hO hF' hP K hK; have O := hP 6 _ rfl rfl; have ha := hO 6 (by rfl); obtain ⟨_, f0, A0, n0, c0, rfl, hc0, hn0, hr0⟩ := (hF' 5 rfl).1 46 _ rfl rfl; refine if_ok (by rfl) ?_; refine wp_store_row _ _ _ rfl (w.heap.size + 1 + 1) _ (ev ha) (ev f0) _ _ O vec_size rfl (by simp [Value.oneCell']) ?_; exact hK _ _ (fun _ => rfl) (keep_store O inferInstance ⟨inferInstance, inferInstance, inferInstance, inferInstance, inferInstance, inferInstance, trivial⟩ ⟨inferInstance, inferInstance, inferInstance, inferInstance, inferInstance, inferInstance, trivial⟩ hS) ⟨A0, n0, c0, Own.row O, hc0, hn0, hr0.row O⟩
      · intro vs u hl hS hV
        match vs, hl, hV with
        | [v0, v1, v2, v3, v4, v5, v6], _, hV =>
          obtain ⟨X0, cX0, rfl, hX0⟩ := hV 0 _ rfl
          obtain ⟨X1, cX1, rfl, hX1⟩ := hV 1 _ rfl
          obtain ⟨X2, cX2, rfl, hX2⟩ := hV 2 _ rfl
          obtain rfl := hV 3 _ rfl
          obtain rfl := hV 4 _ rfl
          obtain ⟨A5, nn5, c5, rfl, hc5, hnn5, hN5⟩ := hV 5 _ rfl
          obtain ⟨A6, nn6, c6, O6, hc6, hnn6, hN6⟩ := hV 6 _ rfl
          simp only [puts, Act.put, List.setIfInBounds_toArray, List.set_cons_zero, List.set_cons_succ]
          obtain ⟨O0, hx, hy, BB⟩ := hS
          clear hV
          replace O0 : Own u w.heap.size 24 #[.slice A1 N c1, .bool sy] := O0
          replace hx : B.Nw u 0 X4 N cX4 (num lx) := hx
          replace hy : B.Nw u 0 X5 N cX5 (num ly) := hy
          replace BB : Below w.heap.size w u := BB
          go_wp2
          exact ret_vec Tryz.results105 rfl rfl O6 (e9.out ▸ mk_ret (v := (⟨frN N (B.subv N (num lx) (num ly)), sy⟩ : V)) hN6 BB)
set_option maxHeartbeats 4000000 in
theorem rar_mul (A1 A2 : Option Addr) (N c1 c2 : Nat) (sy : Bool) (lx ly : List Int) (w : World) (r1 : Rb w A1 N lx) (r2 : Rb w A2 N ly) (okx : okB lx = true) (oky : okB ly = true) (h0 : 0 < N) (hN : N ≤ 128) :
    Calls Tryz.prog 105 #[.int .u8 23, .agg #[.slice A1 N c1, .bool sy], .agg #[.slice A2 N c2, .bool sy]] w (RetV w (arW fMul N sy lx ly)) := by
  cases hk : (knL lx && knL ly)
  · have := rar_no 23 A1 A2 N c1 c2 sy lx ly w r1 r2 okx oky h0 hN hk
    have e : arW fMul N sy lx ly = allV 2 N sy := by unfold arW; rw [hk]; rfl
    rwa [e]
  obtain ⟨hkx, hky⟩ := (Bool.and_eq_true _ _).mp hk
  have O0 := (((Own.at1 w 24 #[.slice A1 N c1, .bool sy] (g := w.heap.size) (by simp)).alloc (.cells #[.slice A2 N c2, .bool sy] 24)).alloc (.cells #[.slice none 0 0, .bool false] 24))
  have O1 := ((Own.at1 (w.alloc (.cells #[.slice A1 N c1, .bool sy] 24)) 24 #[.slice A2 N c2, .bool sy] (g := w.heap.size + 1) (by simp)).alloc (.cells #[.slice none 0 0, .bool false] 24))
  have O2 := (Own.at1 ((w.alloc (.cells #[.slice A1 N c1, .bool sy] 24)).alloc (.cells #[.slice A2 N c2, .bool sy] 24)) 24 #[.slice none 0 0, .bool false] (g := w.heap.size + 1 + 1) (by simp))
  have BB := (below_new (below_new (below_new (Below.refl w.heap.size w) (.cells #[.slice A1 N c1, .bool sy] 24)) (.cells #[.slice A2 N c2, .bool sy] 24)) (.cells #[.slice none 0 0, .bool false] 24))
  have HKx := Lib.hid (fun (u : World) (h : Rb u A1 N lx) => (kn_of (s := sy) okx) ▸ rKnown_any A1 N c1 sy lx u h (by omega))
  have HKy := Lib.hid (fun (u : World) (h : Rb u A2 N ly) => (kn_of (s := sy) oky) ▸ rKnown_any A2 N c2 sy ly u h (by omega))
  have HF := Lib.hid (fun (u : World) => rFill_n 2 N sy u (by decide) (by omega))
  replace r1 := r1.step BB
  replace r2 := r2.step BB
  have q00 := O0.cell 0
  have q01 := O0.cell 1
  have q10 := O1.cell 0
  have q11 := O1.cell 1
  rw [hkx] at HKx
  rw [hky] at HKy
  have e9 := Lib.hid (show (⟨frN N ((num lx * num ly) % 2 ^ N), sy⟩ : V) = arW fMul N sy lx ly from by unfold arW; rw [hkx, hky]; rfl)
  replace hkx := Lib.hid hkx
  replace hky := Lib.hid hky
  replace okx := Lib.hid okx
  replace oky := Lib.hid oky
  clear hk
  go_enter Tryz.func105, Tryz.ntmps105
  go_wp2_with (first | (go_at_call 32; (with_reducible refine (HKx.out _ (by assumption)).mono ?_); rintro e w1 ⟨rfl, hb⟩; replace BB := below_step BB hb; replace O0 := O0.step hb; replace O1 := O1.step hb; replace O2 := O2.step hb; replace r1 := r1.step hb; replace r2 := r2.step hb; (try clear q00 q01 q10 q11 q20 q21 f20 f21); have q00 := O0.cell 0; have q01 := O0.cell 1; have q10 := O1.cell 0; have q11 := O1.cell 1; have q20 := O2.cell 0; have q21 := O2.cell 1; have f20 := O2.free 0; have f21 := O2.free 1) | (go_at_call 32; (with_reducible refine (HKy.out _ (by assumption)).mono ?_); rintro e w1 ⟨rfl, hb⟩; replace BB := below_step BB hb; replace O0 := O0.step hb; replace O1 := O1.step hb; replace O2 := O2.step hb; replace r1 := r1.step hb; replace r2 := r2.step hb; (try clear q00 q01 q10 q11 q20 q21 f20 f21); have q00 := O0.cell 0; have q01 := O0.cell 1; have q10 := O1.cell 0; have q11 := O1.cell 1; have q20 := O2.cell 0; have q21 := O2.cell 1; have f20 := O2.free 0; have f21 := O2.free 1))
  refine region_y (by kernel_rfl) (fun u => owns w.heap.size #[.slice A1 N c1, .bool sy] u ∧ (owns (w.heap.size + 1) #[.slice A2 N c2, .bool sy] u ∧ (owns (w.heap.size + 1 + 1) #[.slice none 0 0, .bool false] u ∧ (rds A1 N lx u ∧ (rds A2 N ly u ∧ blw w u))))) [tru, tru, tru, tru, tru, tru] [isV (.agg #[.slice A1 N c1, .bool sy]), isNum N (num lx), isV (.agg #[.slice A2 N c2, .bool sy]), isNum N (num ly), isNum N (num lx), isNum N (num ly)] [some 26, some 27, some 28, some 29, some 7, some 8] [[], [0], [], [2, 1], [1, 3, 0, 1], [3, 4, 0, 1, 2, 3, 4]] (by kernel_rfl) (by kernel_rfl) rfl (by kernel_rfl) (by kernel_rfl) (by kernel_rfl) ⟨O0.drew, O1.drew, O2.drew, r1.drew, r2.drew, below_drew BB⟩ (by
    intro U hU
    simp only [List.mem_cons, List.not_mem_nil, or_false] at hU
    rcases hU with rfl | rfl | rfl | rfl | rfl | rfl
    all_goals first | trivial | assumption) ?_ ?_
  · refine ⟨?_, ?_, ?_, ?_, ?_, ?_, trivial⟩
    · intro a w' hS hO hF' hP K hK; have ha := hO 4 (by rfl); refine if_ok (by rfl) ?_; refine wp_load_row 24 (.tmp 4) rfl w.heap.size (ev ha) _ _ (0, 0) _ hS.1 Tryz.underlying24 rfl (by kernel_rfl) ?_; exact hK _ w' nofun (keep_same hS) rfl
    · intro a w' hS hO hF' hP K hK; obtain ⟨_, f0, rfl⟩ := (hF' 0 rfl).1 26 _ rfl rfl; refine if_ok (by rfl) ?_; refine wp_calls rfl (enters_of Tryz.func114 (by kernel_rfl) rfl) (args := #[(.agg #[.slice A1 N c1, .bool sy])]) (by simp [Act.eval, f0]) ?_; obtain ⟨O0, O1, O2, r1, r2, BB⟩ := id hS; have hz := BB.size; refine (rBools_any _ _ _ _ _ _ r1 (by omega)).mono ?_; rintro e w2 ⟨A, c, rfl, hN, hb⟩; exact ⟨_, rfl, hK _ w2 nofun (keep_below hb hS) ⟨A, c, rfl, hN.mono (Nat.zero_le _)⟩⟩
    · intro a w' hS hO hF' hP K hK; have ha := hO 5 (by rfl); refine if_ok (by rfl) ?_; refine wp_load_row 24 (.tmp 5) rfl (w.heap.size + 1) (ev ha) _ _ (0, 0) _ hS.2.1 Tryz.underlying24 rfl (by kernel_rfl) ?_; exact hK _ w' nofun (keep_same hS) rfl
    · intro a w' hS hO hF' hP K hK; obtain ⟨_, f0, rfl⟩ := (hF' 2 rfl).1 28 _ rfl rfl; refine if_ok (by rfl) ?_; refine wp_calls rfl (enters_of Tryz.func114 (by kernel_rfl) rfl) (args := #[(.agg #[.slice A2 N c2, .bool sy])]) (by simp [Act.eval, f0]) ?_; obtain ⟨O0, O1, O2, r1, r2, BB⟩ := id hS; have hz := BB.size; refine (rBools_any _ _ _ _ _ _ r2 (by omega)).mono ?_; rintro e w2 ⟨A, c, rfl, hN, hb⟩; exact ⟨_, rfl, hK _ w2 nofun (keep_below hb hS) ⟨A, c, rfl, hN.mono (Nat.zero_le _)⟩⟩
    · intro a w' hS hO hF' hP K hK; obtain ⟨_, f0, X0, cX0, rfl, hX0⟩ := (hF' 1 rfl).1 27 _ rfl rfl; refine if_ok (by rfl) ?_; unfold Oper.wp execOp; simp only [Sem.run_pure, ev f0]; exact hK _ w' nofun (keep_same hS) ⟨X0, cX0, rfl, hX0⟩
    · intro a w' hS hO hF' hP K hK; obtain ⟨_, f0, X0, cX0, rfl, hX0⟩ := (hF' 3 rfl).1 29 _ rfl rfl; refine if_ok (by rfl) ?_; unfold Oper.wp execOp; simp only [Sem.run_pure, ev f0]; exact hK _ w' nofun (keep_same hS) ⟨X0, cX0, rfl, hX0⟩
  · intro vs u hl hS hV
    match vs, hl, hV with
    | [v0, v1, v2, v3, v4, v5], _, hV =>
      obtain rfl := hV 0 _ rfl
      obtain ⟨X1, cX1, rfl, hX1⟩ := hV 1 _ rfl
      obtain rfl := hV 2 _ rfl
      obtain ⟨X3, cX3, rfl, hX3⟩ := hV 3 _ rfl
      obtain ⟨X4, cX4, rfl, hX4⟩ := hV 4 _ rfl
      obtain ⟨X5, cX5, rfl, hX5⟩ := hV 5 _ rfl
      simp only [puts, Act.put, List.setIfInBounds_toArray, List.set_cons_zero, List.set_cons_succ]
      obtain ⟨O0, O1, O2, r1, r2, BB⟩ := hS
      clear hV
      replace O0 : Own u w.heap.size 24 #[.slice A1 N c1, .bool sy] := O0
      replace O1 : Own u (w.heap.size + 1) 24 #[.slice A2 N c2, .bool sy] := O1
      replace O2 : Own u (w.heap.size + 1 + 1) 24 #[.slice none 0 0, .bool false] := O2
      replace r1 : Rb u A1 N lx := r1
      replace r2 : Rb u A2 N ly := r2
      replace BB : Below w.heap.size w u := BB
      have q00 := O0.cell 0
      have q01 := O0.cell 1
      have q20 := O2.cell 0
      have q21 := O2.cell 1
      go_wp2
      haveI : Apart (w.heap.size + 1 + 1) w.heap.size := ⟨by omega⟩
      haveI : Over w (w.heap.size + 1 + 1) := ⟨by omega⟩
      refine region_y (by kernel_rfl) (fun u => owns w.heap.size #[.slice A1 N c1, .bool sy] u ∧ (nws X4 N cX4 (num lx) u ∧ (nws X5 N cX5 (num ly) u ∧ blw w u))) [tru, tru, tru, tru, tru, tru, owns (w.heap.size + 1 + 1) #[.slice none 0 0, .bool false]] [isNum N (num lx), isNum N (num ly), isNum N ((num lx * num ly) % 2 ^ N), isV (.pointer (some ⟨w.heap.size, 1, none⟩)), isV (.bool sy), isNX w.heap.size (⟨frN N ((num lx * num ly) % 2 ^ N), sy⟩ : V), didX w.heap.size (w.heap.size + 1 + 1) (⟨frN N ((num lx * num ly) % 2 ^ N), sy⟩ : V)] [some 49, some 50, some 51, some 52, some 53, some 54, none] [[], [], [0, 1], [], [3], [2, 4, 2], [5, 5, 0, 1, 2, 3, 4, 5]] (by kernel_rfl) (by kernel_rfl) rfl (by kernel_rfl) (by kernel_rfl) (by kernel_rfl) ⟨O0.drew, hX4, hX5, below_drew BB⟩ (by
        intro U hU
        simp only [List.mem_cons, List.not_mem_nil, or_false] at hU
        rcases hU with rfl | rfl | rfl | rfl | rfl | rfl | rfl
        all_goals first | trivial | exact O2.drew) ?_ ?_
      · refine ⟨?_, ?_, ?_, ?_, ?_, ?_, ?_, trivial⟩
        · intro a w' hS hO hF' hP K hK; have f0 := hO 7 (by rfl); refine if_ok (by rfl) ?_; unfold Oper.wp execOp; simp only [Sem.run_pure, ev f0]; exact hK _ w' nofun (keep_same hS) ⟨_, _, rfl, hS.2.1⟩
        · intro a w' hS hO hF' hP K hK; have f0 := hO 8 (by rfl); refine if_ok (by rfl) ?_; unfold Oper.wp execOp; simp only [Sem.run_pure, ev f0]; exact hK _ w' nofun (keep_same hS) ⟨_, _, rfl, hS.2.2.1⟩
        · intro a w' hS hO hF' hP K hK; obtain ⟨_, f0, X0, cX0, rfl, hX0⟩ := (hF' 0 rfl).1 49 _ rfl rfl; obtain ⟨_, f1, X1, cX1, rfl, hX1⟩ := (hF' 1 rfl).1 50 _ rfl rfl; refine if_ok (by rfl) ?_; refine wp_calls rfl (enters_of Tryz.func185 (by kernel_rfl) rfl) (args := #[(.slice X0 N cX0), (.slice X1 N cX1)]) (by simp [Act.eval, f0, f1]) ?_; obtain ⟨O0, hx, hy, BB⟩ := id hS; have hz := BB.size; refine (B.rMul_any _ _ _ _ _ _ _ _ _ hX0.rd hX1.rd (by omega) (by omega)).mono ?_; rintro e w2 ⟨A, c, rfl, hN, hb⟩; exact ⟨_, rfl, hK _ w2 nofun (keep_below hb hS) ⟨A, c, rfl, hN.mono (Nat.zero_le _)⟩⟩
        · intro a w' hS hO hF' hP K hK; have ha := hO 4 (by rfl); refine if_ok (by rfl) ?_; refine wp_fa1 _ rfl (ev ha) ?_; exact hK _ w' nofun (keep_same hS) rfl
        · intro a w' hS hO hF' hP K hK; obtain ⟨_, f0, rfl⟩ := (hF' 3 rfl).1 52 _ rfl rfl; refine if_ok (by rfl) ?_; refine wp_ldB _ rfl (ev f0) (hS.1.cell 1) ?_; exact hK _ w' nofun (keep_same hS) rfl
        · intro a w' hS hO hF' hP K hK; obtain ⟨_, f0, X0, cX0, rfl, hX0⟩ := (hF' 2 rfl).1 51 _ rfl rfl; obtain ⟨_, f1, rfl⟩ := (hF' 4 rfl).1 53 _ rfl rfl; refine if_ok (by rfl) ?_; refine wp_calls rfl (enters_of Tryz.func132 (by kernel_rfl) rfl) (args := #[(.slice X0 N cX0), (.bool sy)]) (by simp [Act.eval, f0, f1]) ?_; obtain ⟨O0, hx, hy, BB⟩ := id hS; have hz := BB.size; refine (rFromBools_w _ _ _ _ _ _ hX0.rd hN).mono ?_; rintro e w2 ⟨A, n, c, rfl, hc, hn, hN, hb⟩; exact ⟨_, rfl, hK _ w2 nofun (keep_below hb hS) ⟨A, n, c, rfl, hc, hn, hN.mono hz⟩⟩
        · intro a w' hS hO hF' hP K hK; have O := hP 6 _ rfl rfl; have ha := hO 6 (by rfl); obtain ⟨_, f0, A0, n0, c0, rfl, hc0, hn0, hr0⟩ := (hF' 5 rfl).1 54 _ rfl rfl; refine if_ok (by rfl) ?_; refine wp_store_row _ _ _ rfl (w.heap.size + 1 + 1) _ (ev ha) (ev f0) _ _ O vec_size rfl (by simp [Value.oneCell']) ?_; exact hK _ _ (fun _ => rfl) (keep_store O inferInstance ⟨inferInstance, inferInstance, inferInstance, inferInstance, inferInstance, inferInstance, trivial⟩ ⟨inferInstance, inferInstance, inferInstance, inferInstance, inferInstance, inferInstance, trivial⟩ hS) ⟨A0, n0, c0, Own.row O, hc0, hn0, hr0.row O⟩
      · intro vs u hl hS hV
        match vs, hl, hV with
        | [v0, v1, v2, v3, v4, v5, v6], _, hV =>
          obtain ⟨X0, cX0, rfl, hX0⟩ := hV 0 _ rfl
          obtain ⟨X1, cX1, rfl, hX1⟩ := hV 1 _ rfl
          obtain ⟨X2, cX2, rfl, hX2⟩ := hV 2 _ rfl
          obtain rfl := hV 3 _ rfl
          obtain rfl := hV 4 _ rfl
          obtain ⟨A5, nn5, c5, rfl, hc5, hnn5, hN5⟩ := hV 5 _ rfl
          obtain ⟨A6, nn6, c6, O6, hc6, hnn6, hN6⟩ := hV 6 _ rfl
          simp only [puts, Act.put, List.setIfInBounds_toArray, List.set_cons_zero, List.set_cons_succ]
          obtain ⟨O0, hx, hy, BB⟩ := hS
          clear hV
          replace O0 : Own u w.heap.size 24 #[.slice A1 N c1, .bool sy] := O0
          replace hx : B.Nw u 0 X4 N cX4 (num lx) := hx
          replace hy : B.Nw u 0 X5 N cX5 (num ly) := hy
          replace BB : Below w.heap.size w u := BB
          go_wp2
          exact ret_vec Tryz.results105 rfl rfl O6 (e9.out ▸ mk_ret (v := (⟨frN N ((num lx * num ly) % 2 ^ N), sy⟩ : V)) hN6 BB)
set_option maxHeartbeats 4000000 in
theorem rar_div (A1 A2 : Option Addr) (N c1 c2 : Nat) (sy : Bool) (lx ly : List Int) (w : World) (r1 : Rb w A1 N lx) (r2 : Rb w A2 N ly) (okx : okB lx = true) (oky : okB ly = true) (h0 : 0 < N) (hN : N ≤ 128) :
    Calls Tryz.prog 105 #[.int .u8 24, .agg #[.slice A1 N c1, .bool sy], .agg #[.slice A2 N c2, .bool sy]] w (RetV w (arW (if sy then divS true else divU true) N sy lx ly)) := by
  cases hk : (knL lx && knL ly)
  · have := rar_no 24 A1 A2 N c1 c2 sy lx ly w r1 r2 okx oky h0 hN hk
    have e : arW (if sy then divS true else divU true) N sy lx ly = allV 2 N sy := by unfold arW; rw [hk]; rfl
    rwa [e]
  obtain ⟨hkx, hky⟩ := (Bool.and_eq_true _ _).mp hk
  have O0 := (((Own.at1 w 24 #[.slice A1 N c1, .bool sy] (g := w.heap.size) (by simp)).alloc (.cells #[.slice A2 N c2, .bool sy] 24)).alloc (.cells #[.slice none 0 0, .bool false] 24))
  have O1 := ((Own.at1 (w.alloc (.cells #[.slice A1 N c1, .bool sy] 24)) 24 #[.slice A2 N c2, .bool sy] (g := w.heap.size + 1) (by simp)).alloc (.cells #[.slice none 0 0, .bool false] 24))
  have O2 := (Own.at1 ((w.alloc (.cells #[.slice A1 N c1, .bool sy] 24)).alloc (.cells #[.slice A2 N c2, .bool sy] 24)) 24 #[.slice none 0 0, .bool false] (g := w.heap.size + 1 + 1) (by simp))
  have BB := (below_new (below_new (below_new (Below.refl w.heap.size w) (.cells #[.slice A1 N c1, .bool sy] 24)) (.cells #[.slice A2 N c2, .bool sy] 24)) (.cells #[.slice none 0 0, .bool false] 24))
  have HKx := Lib.hid (fun (u : World) (h : Rb u A1 N lx) => (kn_of (s := sy) okx) ▸ rKnown_any A1 N c1 sy lx u h (by omega))
  have HKy := Lib.hid (fun (u : World) (h : Rb u A2 N ly) => (kn_of (s := sy) oky) ▸ rKnown_any A2 N c2 sy ly u h (by omega))
  have HF := Lib.hid (fun (u : World) => rFill_n 2 N sy u (by decide) (by omega))
  replace r1 := r1.step BB
  replace r2 := r2.step BB
  have q00 := O0.cell 0
  have q01 := O0.cell 1
  have q10 := O1.cell 0
  have q11 := O1.cell 1
  rw [hkx] at HKx
  rw [hky] at HKy
  replace hkx := Lib.hid hkx
  replace hky := Lib.hid hky
  replace okx := Lib.hid okx
  replace oky := Lib.hid oky
  clear hk
  go_enter Tryz.func105, Tryz.ntmps105
  go_wp2_with (first | (go_at_call 32; (with_reducible refine (HKx.out _ (by assumption)).mono ?_); rintro e w1 ⟨rfl, hb⟩; replace BB := below_step BB hb; replace O0 := O0.step hb; replace O1 := O1.step hb; replace O2 := O2.step hb; replace r1 := r1.step hb; replace r2 := r2.step hb; (try clear q00 q01 q10 q11 q20 q21 f20 f21); have q00 := O0.cell 0; have q01 := O0.cell 1; have q10 := O1.cell 0; have q11 := O1.cell 1; have q20 := O2.cell 0; have q21 := O2.cell 1; have f20 := O2.free 0; have f21 := O2.free 1) | (go_at_call 32; (with_reducible refine (HKy.out _ (by assumption)).mono ?_); rintro e w1 ⟨rfl, hb⟩; replace BB := below_step BB hb; replace O0 := O0.step hb; replace O1 := O1.step hb; replace O2 := O2.step hb; replace r1 := r1.step hb; replace r2 := r2.step hb; (try clear q00 q01 q10 q11 q20 q21 f20 f21); have q00 := O0.cell 0; have q01 := O0.cell 1; have q10 := O1.cell 0; have q11 := O1.cell 1; have q20 := O2.cell 0; have q21 := O2.cell 1; have f20 := O2.free 0; have f21 := O2.free 1))
  refine region_y (by kernel_rfl) (fun u => owns w.heap.size #[.slice A1 N c1, .bool sy] u ∧ (owns (w.heap.size + 1) #[.slice A2 N c2, .bool sy] u ∧ (owns (w.heap.size + 1 + 1) #[.slice none 0 0, .bool false] u ∧ (rds A1 N lx u ∧ (rds A2 N ly u ∧ blw w u))))) [tru, tru, tru, tru, tru, tru] [isV (.agg #[.slice A1 N c1, .bool sy]), isNum N (num lx), isV (.agg #[.slice A2 N c2, .bool sy]), isNum N (num ly), isNum N (num lx), isNum N (num ly)] [some 26, some 27, some 28, some 29, some 7, some 8] [[], [0], [], [2, 1], [1, 3, 0, 1], [3, 4, 0, 1, 2, 3, 4]] (by kernel_rfl) (by kernel_rfl) rfl (by kernel_rfl) (by kernel_rfl) (by kernel_rfl) ⟨O0.drew, O1.drew, O2.drew, r1.drew, r2.drew, below_drew BB⟩ (by
    intro U hU
    simp only [List.mem_cons, List.not_mem_nil, or_false] at hU
    rcases hU with rfl | rfl | rfl | rfl | rfl | rfl
    all_goals first | trivial | assumption) ?_ ?_
  · refine ⟨?_, ?_, ?_, ?_, ?_, ?_, trivial⟩
    · intro a w' hS hO hF' hP K hK; have ha := hO 4 (by rfl); refine if_ok (by rfl) ?_; refine wp_load_row 24 (.tmp 4) rfl w.heap.size (ev ha) _ _ (0, 0) _ hS.1 Tryz.underlying24 rfl (by kernel_rfl) ?_; exact hK _ w' nofun (keep_same hS) rfl
    · intro a w' hS hO hF' hP K hK; obtain ⟨_, f0, rfl⟩ := (hF' 0 rfl).1 26 _ rfl rfl; refine if_ok (by rfl) ?_; refine wp_calls rfl (enters_of Tryz.func114 (by kernel_rfl) rfl) (args := #[(.agg #[.slice A1 N c1, .bool sy])]) (by simp [Act.eval, f0]) ?_; obtain ⟨O0, O1, O2, r1, r2, BB⟩ := id hS; have hz := BB.size; refine (rBools_any _ _ _ _ _ _ r1 (by omega)).mono ?_; rintro e w2 ⟨A, c, rfl, hN, hb⟩; exact ⟨_, rfl, hK _ w2 nofun (keep_below hb hS) ⟨A, c, rfl, hN.mono (Nat.zero_le _)⟩⟩
    · intro a w' hS hO hF' hP K hK; have ha := hO 5 (by rfl); refine if_ok (by rfl) ?_; refine wp_load_row 24 (.tmp 5) rfl (w.heap.size + 1) (ev ha) _ _ (0, 0) _ hS.2.1 Tryz.underlying24 rfl (by kernel_rfl) ?_; exact hK _ w' nofun (keep_same hS) rfl
    · intro a w' hS hO hF' hP K hK; obtain ⟨_, f0, rfl⟩ := (hF' 2 rfl).1 28 _ rfl rfl; refine if_ok (by rfl) ?_; refine wp_calls rfl (enters_of Tryz.func114 (by kernel_rfl) rfl) (args := #[(.agg #[.slice A2 N c2, .bool sy])]) (by simp [Act.eval, f0]) ?_; obtain ⟨O0, O1, O2, r1, r2, BB⟩ := id hS; have hz := BB.size; refine (rBools_any _ _ _ _ _ _ r2 (by omega)).mono ?_; rintro e w2 ⟨A, c, rfl, hN, hb⟩; exact ⟨_, rfl, hK _ w2 nofun (keep_below hb hS) ⟨A, c, rfl, hN.mono (Nat.zero_le _)⟩⟩
    · intro a w' hS hO hF' hP K hK; obtain ⟨_, f0, X0, cX0, rfl, hX0⟩ := (hF' 1 rfl).1 27 _ rfl rfl; refine if_ok (by rfl) ?_; unfold Oper.wp execOp; simp only [Sem.run_pure, ev f0]; exact hK _ w' nofun (keep_same hS) ⟨X0, cX0, rfl, hX0⟩
    · intro a w' hS hO hF' hP K hK; obtain ⟨_, f0, X0, cX0, rfl, hX0⟩ := (hF' 3 rfl).1 29 _ rfl rfl; refine if_ok (by rfl) ?_; unfold Oper.wp execOp; simp only [Sem.run_pure, ev f0]; exact hK _ w' nofun (keep_same hS) ⟨X0, cX0, rfl, hX0⟩
  · intro vs u hl hS hV
    match vs, hl, hV with
    | [v0, v1, v2, v3, v4, v5], _, hV =>
      obtain rfl := hV 0 _ rfl
      obtain ⟨X1, cX1, rfl, hX1⟩ := hV 1 _ rfl
      obtain rfl := hV 2 _ rfl
      obtain ⟨X3, cX3, rfl, hX3⟩ := hV 3 _ rfl
      obtain ⟨X4, cX4, rfl, hX4⟩ := hV 4 _ rfl
      obtain ⟨X5, cX5, rfl, hX5⟩ := hV 5 _ rfl
      simp only [puts, Act.put, List.setIfInBounds_toArray, List.set_cons_zero, List.set_cons_succ]
      obtain ⟨O0, O1, O2, r1, r2, BB⟩ := hS
      clear hV
      replace O0 : Own u w.heap.size 24 #[.slice A1 N c1, .bool sy] := O0
      replace O1 : Own u (w.heap.size + 1) 24 #[.slice A2 N c2, .bool sy] := O1
      replace O2 : Own u (w.heap.size + 1 + 1) 24 #[.slice none 0 0, .bool false] := O2
      replace r1 : Rb u A1 N lx := r1
      replace r2 : Rb u A2 N ly := r2
      replace BB : Below w.heap.size w u := BB
      have q00 := O0.cell 0
      have q01 := O0.cell 1
      have q20 := O2.cell 0
      have q21 := O2.cell 1
      have f20 := O2.free 0
      have f21 := O2.free 1
      clear hX1 hX3
      by_cases hz : num ly = 0
      · cases sy
        · have e9 := Lib.hid (show allV 2 N false = arW (if false then divS true else divU true) N false lx ly from by unfold arW; rw [hkx.out, hky.out, hz]; rfl)
          replace hz := Lib.hid hz
          go_wp2_with (first | (go_at_call 186; refine (B.rDivMod_zero _ _ _ _ _ _ _ (hz.out ▸ hX5.rd) (by omega) hX5.le).mono ?_; rintro e w1 ⟨rfl, hb⟩; replace BB := below_step BB hb; replace O0 := O0.step hb; replace O2 := O2.step hb; replace hX4 := hX4.step hb; replace hX5 := hX5.step hb; (try clear q00 q01 q20 q21 f20 f21); have q00 := O0.cell 0; have q01 := O0.cell 1; have q20 := O2.cell 0; have q21 := O2.cell 1; have f20 := O2.free 0; have f21 := O2.free 1) | (go_at_call 187; refine (B.rSDivMod_zero _ _ _ _ _ _ _ (hz.out ▸ hX5.rd) (by omega) hX5.le).mono ?_; rintro e w1 ⟨rfl, hb⟩; replace BB := below_step BB hb; replace O0 := O0.step hb; replace O2 := O2.step hb; replace hX4 := hX4.step hb; replace hX5 := hX5.step hb; (try clear q00 q01 q20 q21 f20 f21); have q00 := O0.cell 0; have q01 := O0.cell 1; have q20 := O2.cell 0; have q21 := O2.cell 1; have f20 := O2.free 0; have f21 := O2.free 1) | (go_at_call 53; refine (HF.out _).mono ?_; rintro e w9 ⟨A9, c9, rfl, n9, hb9⟩; have L1 := O2.lt; have W2 := O2.step hb9; have qW20 := W2.cell 0; have qW21 := W2.cell 1; have fW20 := W2.free 0; have fW21 := W2.free 1))
          exact ret_vec Tryz.results105 rfl rfl (W2.put2 _ _) (e9.out ▸ mk_ret (v := allV 2 N false) ((n9.far2 L1 _ _).mono BB.size) (below_set2 (below_step BB hb9) (by omega) _ _))
        · have e9 := Lib.hid (show allV 2 N true = arW (if true then divS true else divU true) N true lx ly from by unfold arW; rw [hkx.out, hky.out, hz]; rfl)
          replace hz := Lib.hid hz
          go_wp2_with (first | (go_at_call 186; refine (B.rDivMod_zero _ _ _ _ _ _ _ (hz.out ▸ hX5.rd) (by omega) hX5.le).mono ?_; rintro e w1 ⟨rfl, hb⟩; replace BB := below_step BB hb; replace O0 := O0.step hb; replace O2 := O2.step hb; replace hX4 := hX4.step hb; replace hX5 := hX5.step hb; (try clear q00 q01 q20 q21 f20 f21); have q00 := O0.cell 0; have q01 := O0.cell 1; have q20 := O2.cell 0; have q21 := O2.cell 1; have f20 := O2.free 0; have f21 := O2.free 1) | (go_at_call 187; refine (B.rSDivMod_zero _ _ _ _ _ _ _ (hz.out ▸ hX5.rd) (by omega) hX5.le).mono ?_; rintro e w1 ⟨rfl, hb⟩; replace BB := below_step BB hb; replace O0 := O0.step hb; replace O2 := O2.step hb; replace hX4 := hX4.step hb; replace hX5 := hX5.step hb; (try clear q00 q01 q20 q21 f20 f21); have q00 := O0.cell 0; have q01 := O0.cell 1; have q20 := O2.cell 0; have q21 := O2.cell 1; have f20 := O2.free 0; have f21 := O2.free 1) | (go_at_call 53; refine (HF.out _).mono ?_; rintro e w9 ⟨A9, c9, rfl, n9, hb9⟩; have L1 := O2.lt; have W2 := O2.step hb9; have qW20 := W2.cell 0; have qW21 := W2.cell 1; have fW20 := W2.free 0; have fW21 := W2.free 1))
          exact ret_vec Tryz.results105 rfl rfl (W2.put2 _ _) (e9.out ▸ mk_ret (v := allV 2 N true) ((n9.far2 L1 _ _).mono BB.size) (below_set2 (below_step BB hb9) (by omega) _ _))
      · cases sy
        · have e9 := Lib.hid (show (⟨frN N (num lx / num ly), false⟩ : V) = arW (if false then divS true else divU true) N false lx ly from by unfold arW divU dvF; rw [hkx.out, hky.out]; simp [hz])
          replace hz := Lib.hid hz
          go_wp2_with (first | (go_at_call 186; refine (B.rDivMod_any _ _ _ _ _ _ _ _ _ hX4.rd hX5.rd (by omega) (by omega) hX5.le hz.out).mono ?_; rintro e w1 ⟨Aq, cq, Ar, cr, rfl, nq, nr, hb⟩; replace BB := below_step BB hb; replace O0 := O0.step hb; replace O2 := O2.step hb; replace hX4 := hX4.step hb; replace hX5 := hX5.step hb; (try clear q00 q01 q20 q21 f20 f21); have q00 := O0.cell 0; have q01 := O0.cell 1; have q20 := O2.cell 0; have q21 := O2.cell 1; have f20 := O2.free 0; have f21 := O2.free 1) | (go_at_call 187; refine (B.rSDivMod_any _ _ _ _ _ _ _ _ _ hX4.rd hX5.rd (by omega) (by omega) hX4.le hX5.le hz.out).mono ?_; rintro e w1 ⟨Aq, cq, Ar, cr, rfl, nq, nr, hb⟩; replace BB := below_step BB hb; replace O0 := O0.step hb; replace O2 := O2.step hb; replace hX4 := hX4.step hb; replace hX5 := hX5.step hb; (try clear q00 q01 q20 q21 f20 f21); have q00 := O0.cell 0; have q01 := O0.cell 1; have q20 := O2.cell 0; have q21 := O2.cell 1; have f20 := O2.free 0; have f21 := O2.free 1) | (go_at_call 132; refine (rFromBools_w _ _ _ _ _ _ nq.rd (by omega)).mono ?_; rintro e w9 ⟨A9, n9_, c9, rfl, hc9, hn9, n9, hb9⟩; have L1 := O2.lt; have W2 := O2.step hb9; have qW20 := W2.cell 0; have qW21 := W2.cell 1; have fW20 := W2.free 0; have fW21 := W2.free 1))
          exact ret_vec Tryz.results105 rfl rfl (W2.put2 _ _) (e9.out ▸ mk_ret (v := (⟨frN N (num lx / num ly), false⟩ : V)) ((n9.far2 L1 _ _).mono BB.size) (below_set2 (below_step BB hb9) (by omega) _ _))
        · have e9 := Lib.hid (show (⟨frN N (B.sq N (num lx) N (num ly)), true⟩ : V) = arW (if true then divS true else divU true) N true lx ly from by unfold arW divS dvF; rw [hkx.out, hky.out]; simp [hz])
          replace hz := Lib.hid hz
          go_wp2_with (first | (go_at_call 186; refine (B.rDivMod_any _ _ _ _ _ _ _ _ _ hX4.rd hX5.rd (by omega) (by omega) hX5.le hz.out).mono ?_; rintro e w1 ⟨Aq, cq, Ar, cr, rfl, nq, nr, hb⟩; replace BB := below_step BB hb; replace O0 := O0.step hb; replace O2 := O2.step hb; replace hX4 := hX4.step hb; replace hX5 := hX5.step hb; (try clear q00 q01 q20 q21 f20 f21); have q00 := O0.cell 0; have q01 := O0.cell 1; have q20 := O2.cell 0; have q21 := O2.cell 1; have f20 := O2.free 0; have f21 := O2.free 1) | (go_at_call 187; refine (B.rSDivMod_any _ _ _ _ _ _ _ _ _ hX4.rd hX5.rd (by omega) (by omega) hX4.le hX5.le hz.out).mono ?_; rintro e w1 ⟨Aq, cq, Ar, cr, rfl, nq, nr, hb⟩; replace BB := below_step BB hb; replace O0 := O0.step hb; replace O2 := O2.step hb; replace hX4 := hX4.step hb; replace hX5 := hX5.step hb; (try clear q00 q01 q20 q21 f20 f21); have q00 := O0.cell 0; have q01 := O0.cell 1; have q20 := O2.cell 0; have q21 := O2.cell 1; have f20 := O2.free 0; have f21 := O2.free 1) | (go_at_call 132; refine (rFromBools_w _ _ _ _ _ _ nq.rd (by omega)).mono ?_; rintro e w9 ⟨A9, n9_, c9, rfl, hc9, hn9, n9, hb9⟩; have L1 := O2.lt; have W2 := O2.step hb9; have qW20 := W2.cell 0; have qW21 := W2.cell 1; have fW20 := W2.free 0; have fW21 := W2.free 1))
          exact ret_vec Tryz.results105 rfl rfl (W2.put2 _ _) (e9.out ▸ mk_ret (v := (⟨frN N (B.sq N (num lx) N (num ly)), true⟩ : V)) ((n9.far2 L1 _ _).mono BB.size) (below_set2 (below_step BB hb9) (by omega) _ _))
set_option maxHeartbeats 4000000 in
theorem rar_mod (A1 A2 : Option Addr) (N c1 c2 : Nat) (sy : Bool) (lx ly : List Int) (w : World) (r1 : Rb w A1 N lx) (r2 : Rb w A2 N ly) (okx : okB lx = true) (oky : okB ly = true) (h0 : 0 < N) (hN : N ≤ 128) :
    Calls Tryz.prog 105 #[.int .u8 25, .agg #[.slice A1 N c1, .bool sy], .agg #[.slice A2 N c2, .bool sy]] w (RetV w (arW (if sy then divS false else divU false) N sy lx ly)) := by
  cases hk : (knL lx && knL ly)
  · have := rar_no 25 A1 A2 N c1 c2 sy lx ly w r1 r2 okx oky h0 hN hk
    have e : arW (if sy then divS false else divU false) N sy lx ly = allV 2 N sy := by unfold arW; rw [hk]; rfl
    rwa [e]
  obtain ⟨hkx, hky⟩ := (Bool.and_eq_true _ _).mp hk
  have O0 := (((Own.at1 w 24 #[.slice A1 N c1, .bool sy] (g := w.heap.size) (by simp)).alloc (.cells #[.slice A2 N c2, .bool sy] 24)).alloc (.cells #[.slice none 0 0, .bool false] 24))
  have O1 := ((Own.at1 (w.alloc (.cells #[.slice A1 N c1, .bool sy] 24)) 24 #[.slice A2 N c2, .bool sy] (g := w.heap.size + 1) (by simp)).alloc (.cells #[.slice none 0 0, .bool false] 24))
  have O2 := (Own.at1 ((w.alloc (.cells #[.slice A1 N c1, .bool sy] 24)).alloc (.cells #[.slice A2 N c2, .bool sy] 24)) 24 #[.slice none 0 0, .bool false] (g := w.heap.size + 1 + 1) (by simp))
  have BB := (below_new (below_new (below_new (Below.refl w.heap.size w) (.cells #[.slice A1 N c1, .bool sy] 24)) (.cells #[.slice A2 N c2, .bool sy] 24)) (.cells #[.slice none 0 0, .bool false] 24))
  have HKx := Lib.hid (fun (u : World) (h : Rb u A1 N lx) => (kn_of (s := sy) okx) ▸ rKnown_any A1 N c1 sy lx u h (by omega))
  have HKy := Lib.hid (fun (u : World) (h : Rb u A2 N ly) => (kn_of (s := sy) oky) ▸ rKnown_any A2 N c2 sy ly u h (by omega))
  have HF := Lib.hid (fun (u : World) => rFill_n 2 N sy u (by decide) (by omega))
  replace r1 := r1.step BB
  replace r2 := r2.step BB
  have q00 := O0.cell 0
  have q01 := O0.cell 1
  have q10 := O1.cell 0
  have q11 := O1.cell 1
  rw [hkx] at HKx
  rw [hky] at HKy
  replace hkx := Lib.hid hkx
  replace hky := Lib.hid hky
  replace okx := Lib.hid okx
  replace oky := Lib.hid oky
  clear hk
  go_enter Tryz.func105, Tryz.ntmps105
  go_wp2_with (first | (go_at_call 32; (with_reducible refine (HKx.out _ (by assumption)).mono ?_); rintro e w1 ⟨rfl, hb⟩; replace BB := below_step BB hb; replace O0 := O0.step hb; replace O1 := O1.step hb; replace O2 := O2.step hb; replace r1 := r1.step hb; replace r2 := r2.step hb; (try clear q00 q01 q10 q11 q20 q21 f20 f21); have q00 := O0.cell 0; have q01 := O0.cell 1; have q10 := O1.cell 0; have q11 := O1.cell 1; have q20 := O2.cell 0; have q21 := O2.cell 1; have f20 := O2.free 0; have f21 := O2.free 1) | (go_at_call 32; (with_reducible refine (HKy.out _ (by assumption)).mono ?_); rintro e w1 ⟨rfl, hb⟩; replace BB := below_step BB hb; replace O0 := O0.step hb; replace O1 := O1.step hb; replace O2 := O2.step hb; replace r1 := r1.step hb; replace r2 := r2.step hb; (try clear q00 q01 q10 q11 q20 q21 f20 f21); have q00 := O0.cell 0; have q01 := O0.cell 1; have q10 := O1.cell 0; have q11 := O1.cell 1; have q20 := O2.cell 0; have q21 := O2.cell 1; have f20 := O2.free 0; have f21 := O2.free 1))
  refine region_y (by kernel_rfl) (fun u => owns w.heap.size #[.slice A1 N c1, .bool sy] u ∧ (owns (w.heap.size + 1) #[.slice A2 N c2, .bool sy] u ∧ (owns (w.heap.size + 1 + 1) #[.slice none 0 0, .bool false] u ∧ (rds A1 N lx u ∧ (rds A2 N ly u ∧ blw w u))))) [tru, tru, tru, tru, tru, tru] [isV (.agg #[.slice A1 N c1, .bool sy]), isNum N (num lx), isV (.agg #[.slice A2 N c2, .bool sy]), isNum N (num ly), isNum N (num lx), isNum N (num ly)] [some 26, some 27, some 28, some 29, some 7, some 8] [[], [0], [], [2, 1], [1, 3, 0, 1], [3, 4, 0, 1, 2, 3, 4]] (by kernel_rfl) (by kernel_rfl) rfl (by kernel_rfl) (by kernel_rfl) (by kernel_rfl) ⟨O0.drew, O1.drew, O2.drew, r1.drew, r2.drew, below_drew BB⟩ (by
    intro U hU
    simp only [List.mem_cons, List.not_mem_nil, or_false] at hU
    rcases hU with rfl | rfl | rfl | rfl | rfl | rfl
    all_goals first | trivial | assumption) ?_ ?_
  · refine ⟨?_, ?_, ?_, ?_, ?_, ?_, trivial⟩
    · intro a w' hS hO hF' hP K hK; have ha := hO 4 (by rfl); refine if_ok (by rfl) ?_; refine wp_load_row 24 (.tmp 4) rfl w.heap.size (ev ha) _ _ (0, 0) _ hS.1 Tryz.underlying24 rfl (by kernel_rfl) ?_; exact hK _ w' nofun (keep_same hS) rfl
    · intro a w' hS hO hF' hP K hK; obtain ⟨_, f0, rfl⟩ := (hF' 0 rfl).1 26 _ rfl rfl; refine if_ok (by rfl) ?_; refine wp_calls rfl (enters_of Tryz.func114 (by kernel_rfl) rfl) (args := #[(.agg #[.slice A1 N c1, .bool sy])]) (by simp [Act.eval, f0]) ?_; obtain ⟨O0, O1, O2, r1, r2, BB⟩ := id hS; have hz := BB.size; refine (rBools_any _ _ _ _ _ _ r1 (by omega)).mono ?_; rintro e w2 ⟨A, c, rfl, hN, hb⟩; exact ⟨_, rfl, hK _ w2 nofun (keep_below hb hS) ⟨A, c, rfl, hN.mono (Nat.zero_le _)⟩⟩
    · intro a w' hS hO hF' hP K hK; have ha := hO 5 (by rfl); refine if_ok (by rfl) ?_; refine wp_load_row 24 (.tmp 5) rfl (w.heap.size + 1) (ev ha) _ _ (0, 0) _ hS.2.1 Tryz.underlying24 rfl (by kernel_rfl) ?_; exact hK _ w' nofun (keep_same hS) rfl
    · intro a w' hS hO hF' hP K hK; obtain ⟨_, f0, rfl⟩ := (hF' 2 rfl).1 28 _ rfl rfl; refine if_ok (by rfl) ?_; refine wp_calls rfl (enters_of Tryz.func114 (by kernel_rfl) rfl) (args := #[(.agg #[.slice A2 N c2, .bool sy])]) (by simp [Act.eval, f0]) ?_; obtain ⟨O0, O1, O2, r1, r2, BB⟩ := id hS; have hz := BB.size; refine (rBools_any _ _ _ _ _ _ r2 (by omega)).mono ?_; rintro e w2 ⟨A, c, rfl, hN, hb⟩; exact ⟨_, rfl, hK _ w2 nofun (keep_below hb hS) ⟨A, c, rfl, hN.mono (Nat.zero_le _)⟩⟩
    · intro a w' hS hO hF' hP K hK; obtain ⟨_, f0, X0, cX0, rfl, hX0⟩ := (hF' 1 rfl).1 27 _ rfl rfl; refine if_ok (by rfl) ?_; unfold Oper.wp execOp; simp only [Sem.run_pure, ev f0]; exact hK _ w' nofun (keep_same hS) ⟨X0, cX0, rfl, hX0⟩
    · intro a w' hS hO hF' hP K hK; obtain ⟨_, f0, X0, cX0, rfl, hX0⟩ := (hF' 3 rfl).1 29 _ rfl rfl; refine if_ok (by rfl) ?_; unfold Oper.wp execOp; simp only [Sem.run_pure, ev f0]; exact hK _ w' nofun (keep_same hS) ⟨X0, cX0, rfl, hX0⟩
  · intro vs u hl hS hV
    match vs, hl, hV with
    | [v0, v1, v2, v3, v4, v5], _, hV =>
      obtain rfl := hV 0 _ rfl
      obtain ⟨X1, cX1, rfl, hX1⟩ := hV 1 _ rfl
      obtain rfl := hV 2 _ rfl
      obtain ⟨X3, cX3, rfl, hX3⟩ := hV 3 _ rfl
      obtain ⟨X4, cX4, rfl, hX4⟩ := hV 4 _ rfl
      obtain ⟨X5, cX5, rfl, hX5⟩ := hV 5 _ rfl
      simp only [puts, Act.put, List.setIfInBounds_toArray, List.set_cons_zero, List.set_cons_succ]
      obtain ⟨O0, O1, O2, r1, r2, BB⟩ := hS
      clear hV
      replace O0 : Own u w.heap.size 24 #[.slice A1 N c1, .bool sy] := O0
      replace O1 : Own u (w.heap.size + 1) 24 #[.slice A2 N c2, .bool sy] := O1
      replace O2 : Own u (w.heap.size + 1 + 1) 24 #[.slice none 0 0, .bool false] := O2
      replace r1 : Rb u A1 N lx := r1
      replace r2 : Rb u A2 N ly := r2
      replace BB : Below w.heap.size w u := BB
      have q00 := O0.cell 0
      have q01 := O0.cell 1
      have q20 := O2.cell 0
      have q21 := O2.cell 1
      have f20 := O2.free 0
      have f21 := O2.free 1
      clear hX1 hX3
      by_cases hz : num ly = 0
      · cases sy
        · have e9 := Lib.hid (show allV 2 N false = arW (if false then divS false else divU false) N false lx ly from by unfold arW; rw [hkx.out, hky.out, hz]; rfl)
          replace hz := Lib.hid hz
          go_wp2_with (first | (go_at_call 186; refine (B.rDivMod_zero _ _ _ _ _ _ _ (hz.out ▸ hX5.rd) (by omega) hX5.le).mono ?_; rintro e w1 ⟨rfl, hb⟩; replace BB := below_step BB hb; replace O0 := O0.step hb; replace O2 := O2.step hb; replace hX4 := hX4.step hb; replace hX5 := hX5.step hb; (try clear q00 q01 q20 q21 f20 f21); have q00 := O0.cell 0; have q01 := O0.cell 1; have q20 := O2.cell 0; have q21 := O2.cell 1; have f20 := O2.free 0; have f21 := O2.free 1) | (go_at_call 187; refine (B.rSDivMod_zero _ _ _ _ _ _ _ (hz.out ▸ hX5.rd) (by omega) hX5.le).mono ?_; rintro e w1 ⟨rfl, hb⟩; replace BB := below_step BB hb; replace O0 := O0.step hb; replace O2 := O2.step hb; replace hX4 := hX4.step hb; replace hX5 := hX5.step hb; (try clear q00 q01 q20 q21 f20 f21); have q00 := O0.cell 0; have q01 := O0.cell 1; have q20 := O2.cell 0; have q21 := O2.cell 1; have f20 := O2.free 0; have f21 := O2.free 1) | (go_at_call 53; refine (HF.out _).mono ?_; rintro e w9 ⟨A9, c9, rfl, n9, hb9⟩; have L1 := O2.lt; have W2 := O2.step hb9; have qW20 := W2.cell 0; have qW21 := W2.cell 1; have fW20 := W2.free 0; have fW21 := W2.free 1))
          exact ret_vec Tryz.results105 rfl rfl (W2.put2 _ _) (e9.out ▸ mk_ret (v := allV 2 N false) ((n9.far2 L1 _ _).mono BB.size) (below_set2 (below_step BB hb9) (by omega) _ _))
        · have e9 := Lib.hid (show allV 2 N true = arW (if true then divS false else divU false) N true lx ly from by unfold arW; rw [hkx.out, hky.out, hz]; rfl)
          replace hz := Lib.hid hz
          go_wp2_with (first | (go_at_call 186; refine (B.rDivMod_zero _ _ _ _ _ _ _ (hz.out ▸ hX5.rd) (by omega) hX5.le).mono ?_; rintro e w1 ⟨rfl, hb⟩; replace BB := below_step BB hb; replace O0 := O0.step hb; replace O2 := O2.step hb; replace hX4 := hX4.step hb; replace hX5 := hX5.step hb; (try clear q00 q01 q20 q21 f20 f21); have q00 := O0.cell 0; have q01 := O0.cell 1; have q20 := O2.cell 0; have q21 := O2.cell 1; have f20 := O2.free 0; have f21 := O2.free 1) | (go_at_call 187; refine (B.rSDivMod_zero _ _ _ _ _ _ _ (hz.out ▸ hX5.rd) (by omega) hX5.le).mono ?_; rintro e w1 ⟨rfl, hb⟩; replace BB := below_step BB hb; replace O0 := O0.step hb; replace O2 := O2.step hb; replace hX4 := hX4.step hb; replace hX5 := hX5.step hb; (try clear q00 q01 q20 q21 f20 f21); have q00 := O0.cell 0; have q01 := O0.cell 1; have q20 := O2.cell 0; have q21 := O2.cell 1; have f20 := O2.free 0; have f21 := O2.free 1) | (go_at_call 53; refine (HF.out _).mono ?_; rintro e w9 ⟨A9, c9, rfl, n9, hb9⟩; have L1 := O2.lt; have W2 := O2.step hb9; have qW20 := W2.cell 0; have qW21 := W2.cell 1; have fW20 := W2.free 0; have fW21 := W2.free 1))
          exact ret_vec Tryz.results105 rfl rfl (W2.put2 _ _) (e9.out ▸ mk_ret (v := allV 2 N true) ((n9.far2 L1 _ _).mono BB.size) (below_set2 (below_step BB hb9) (by omega) _ _))
      · cases sy
        · have e9 := Lib.hid (show (⟨frN N (num lx % num ly), false⟩ : V) = arW (if false then divS false else divU false) N false lx ly from by unfold arW divU dvF; rw [hkx.out, hky.out]; simp [hz])
          replace hz := Lib.hid hz
          go_wp2_with (first | (go_at_call 186; refine (B.rDivMod_any _ _ _ _ _ _ _ _ _ hX4.rd hX5.rd (by omega) (by omega) hX5.le hz.out).mono ?_; rintro e w1 ⟨Aq, cq, Ar, cr, rfl, nq, nr, hb⟩; replace BB := below_step BB hb; replace O0 := O0.step hb; replace O2 := O2.step hb; replace hX4 := hX4.step hb; replace hX5 := hX5.step hb; (try clear q00 q01 q20 q21 f20 f21); have q00 := O0.cell 0; have q01 := O0.cell 1; have q20 := O2.cell 0; have q21 := O2.cell 1; have f20 := O2.free 0; have f21 := O2.free 1) | (go_at_call 187; refine (B.rSDivMod_any _ _ _ _ _ _ _ _ _ hX4.rd hX5.rd (by omega) (by omega) hX4.le hX5.le hz.out).mono ?_; rintro e w1 ⟨Aq, cq, Ar, cr, rfl, nq, nr, hb⟩; replace BB := below_step BB hb; replace O0 := O0.step hb; replace O2 := O2.step hb; replace hX4 := hX4.step hb; replace hX5 := hX5.step hb; (try clear q00 q01 q20 q21 f20 f21); have q00 := O0.cell 0; have q01 := O0.cell 1; have q20 := O2.cell 0; have q21 := O2.cell 1; have f20 := O2.free 0; have f21 := O2.free 1) | (go_at_call 132; refine (rFromBools_w _ _ _ _ _ _ nr.rd (by omega)).mono ?_; rintro e w9 ⟨A9, n9_, c9, rfl, hc9, hn9, n9, hb9⟩; have L1 := O2.lt; have W2 := O2.step hb9; have qW20 := W2.cell 0; have qW21 := W2.cell 1; have fW20 := W2.free 0; have fW21 := W2.free 1))
          exact ret_vec Tryz.results105 rfl rfl (W2.put2 _ _) (e9.out ▸ mk_ret (v := (⟨frN N (num lx % num ly), false⟩ : V)) ((n9.far2 L1 _ _).mono BB.size) (below_set2 (below_step BB hb9) (by omega) _ _))
        · have e9 := Lib.hid (show (⟨frN N (B.sr N (num lx) N (num ly)), true⟩ : V) = arW (if true then divS false else divU false) N true lx ly from by unfold arW divS dvF; rw [hkx.out, hky.out]; simp [hz])
          replace hz := Lib.hid hz
          go_wp2_with (first | (go_at_call 186; refine (B.rDivMod_any _ _ _ _ _ _ _ _ _ hX4.rd hX5.rd (by omega) (by omega) hX5.le hz.out).mono ?_; rintro e w1 ⟨Aq, cq, Ar, cr, rfl, nq, nr, hb⟩; replace BB := below_step BB hb; replace O0 := O0.step hb; replace O2 := O2.step hb; replace hX4 := hX4.step hb; replace hX5 := hX5.step hb; (try clear q00 q01 q20 q21 f20 f21); have q00 := O0.cell 0; have q01 := O0.cell 1; have q20 := O2.cell 0; have q21 := O2.cell 1; have f20 := O2.free 0; have f21 := O2.free 1) | (go_at_call 187; refine (B.rSDivMod_any _ _ _ _ _ _ _ _ _ hX4.rd hX5.rd (by omega) (by omega) hX4.le hX5.le hz.out).mono ?_; rintro e w1 ⟨Aq, cq, Ar, cr, rfl, nq, nr, hb⟩; replace BB := below_step BB hb; replace O0 := O0.step hb; replace O2 := O2.step hb; replace hX4 := hX4.step hb; replace hX5 := hX5.step hb; (try clear q00 q01 q20 q21 f20 f21); have q00 := O0.cell 0; have q01 := O0.cell 1; have q20 := O2.cell 0; have q21 := O2.cell 1; have f20 := O2.free 0; have f21 := O2.free 1) | (go_at_call 132; refine (rFromBools_w _ _ _ _ _ _ nr.rd (by omega)).mono ?_; rintro e w9 ⟨A9, n9_, c9, rfl, hc9, hn9, n9, hb9⟩; have L1 := O2.lt; have W2 := O2.step hb9; have qW20 := W2.cell 0; have qW21 := W2.cell 1; have fW20 := W2.free 0; have fW21 := W2.free 1))
          exact ret_vec Tryz.results105 rfl rfl (W2.put2 _ _) (e9.out ▸ mk_ret (v := (⟨frN N (B.sr N (num lx) N (num ly)), true⟩ : V)) ((n9.far2 L1 _ _).mono BB.size) (below_set2 (below_step BB hb9) (by omega) _ _))
end Go.Proofs.YtognpmggfplekaaGreatDoor
