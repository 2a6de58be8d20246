/-
  Contracts of the program's shifts. No conditions.
  Contracts of the program's shift operators. No conditions.
  Contracts of the program's Int and Neg. No conditions.
  Contracts of the program's FromInt, Unknown, Resize, Same, Leq. No conditions.
-/
import Derived.Test.YtognpmggfplekaaGreatDoorPcQi
import Derived.Test.YtognpmggfplekaaGreatDoorPcQg
import Derived.Test.YtognpmggfplekaaGreatDoorPcQj
import Derived.Test.YtognpmggfplekaaGreatDoorPcQh

set_option maxRecDepth 100000
namespace Go.Proofs.YtognpmggfplekaaGreatDoor
open Go Go.RowKit

def FrI (g : Nat) (fr : Int → Int → Int) : Prop := ∀ (W : World) (i n : Nat), i ≤ 1000 → n ≤ 1000 → Calls Tryz.prog g (#[.int .i64 i, .int .i64 n] ++ #[]) W fun e w' => e = .returned (.int .i64 (fr i n)) ∧ Below W.heap.size W w'
set_option maxHeartbeats 4000000 in
theorem sh1_any (ga gf gn gz g : Nat) (fr : Int → Int → Int) (A : Option Addr) (n c i v : Nat) (s : Bool) (l : List Int) (z : Int) (w : World) (eg : Ent g) (hf : FrI g fr) (OA : Own w ga 24 #[.slice A n c, .bool s]) (OF : Own w gf 118 #[.func (.func g) #[] #[]]) (ON : Own w gn 3 #[.int .i64 v]) (OZ : Own w gz 48 #[.int .u8 z])
    (h : Rb w A n l) (hi : i ≤ 1000) (hv : v ≤ 1000) (hn : n ≤ 1000) :
    Calls Tryz.prog 207 #[.int .i64 i, .pointer (some ⟨ga, 0, none⟩), .pointer (some ⟨gf, 0, none⟩), .pointer (some ⟨gn, 0, none⟩), .pointer (some ⟨gz, 0, none⟩)] w fun e w' => e = .returned (.int .u8 (atI l (fr i v) z)) ∧ Below w.heap.size w w' := by
  unfold Ent at eg
  have HF := Lib.hid (hf w.drew i v hi hv)
  have HA := Lib.hid (fun (u : World) (r : Rb u A n l) => at_any A n c s l (fr i v) z u r (by omega))
  have p0 := OA.cell 0
  have p1 := OA.cell 1
  have p2 := OF.cell 0
  have p3 := ON.cell 0
  have p4 := OZ.cell 0
  simp only [List.getElem?_toArray, List.getElem?_cons_zero, List.getElem?_cons_succ] at p0 p1 p2 p3 p4
  replace h := Lib.hid h
  generalize fr i v = y at *
  clear hf OA OF ON OZ
  go_enter Tryz.func207, Tryz.ntmps207
  go_wp2
  go_region_held3 (fun u => u.cell? ⟨ga, 0, none⟩ = some (.slice A n c) ∧ u.cell? ⟨ga, 1, none⟩ = some (.bool s) ∧ u.cell? ⟨gf, 0, none⟩ = some (.func (.func g) #[] #[]) ∧ u.cell? ⟨gn, 0, none⟩ = some (.int .i64 v) ∧ u.cell? ⟨gz, 0, none⟩ = some (.int .u8 z)) (first | exact ⟨p0, p1, p2, p3, p4⟩ | exact ⟨(cell_step hb1 p0), (cell_step hb1 p1), (cell_step hb1 p2), (cell_step hb1 p3), (cell_step hb1 p4)⟩ | exact ⟨(cell_step hb2 (cell_step hb1 p0)), (cell_step hb2 (cell_step hb1 p1)), (cell_step hb2 (cell_step hb1 p2)), (cell_step hb2 (cell_step hb1 p3)), (cell_step hb2 (cell_step hb1 p4))⟩) (first
    | (go_at_fn g; refine HF.out.mono ?_; rintro e w1 ⟨rfl, hb1⟩)
    | (go_at_call 140; refine (HA.out _ ?_).mono ?_; exact h.out.drew.step hb1; rintro e w2 ⟨rfl, hb2⟩))
  all_goals go_wp2
  all_goals go_ret
  all_goals exact ⟨rfl, below_step (below_of_drew hb1) hb2⟩
theorem ent_sh1 : Ent 207 := enters_of Tryz.func207 (by kernel_rfl) rfl
def shN (v N : Nat) : Nat := if v < N then v else N
def shV (fr : Int → Int → Int) (z : Int) (a b : V) : V := if knL (nrm b).l then ⟨tab (nrm a).l.length fun i => atI (nrm a).l (fr i (shN (num (nrm b).l) (nrm a).l.length)) z, (nrm a).s⟩ else allV 2 (nrm a).l.length (nrm a).s
theorem atI_nn {l : List Int} (h : nnL l) {z : Int} (hz : 0 ≤ z) (k : Int) : 0 ≤ atI l k z := by unfold atI; split; exact h.nth _; exact hz
set_option maxHeartbeats 8000000 in
theorem shift_v (g : Nat) (fr : Int → Int → Int) (z : Int) (A Y : Option Addr) (n m c d : Nat) (s t : Bool) (l k : List Int) (w : World) (h : Rb w A n l) (h' : Rb w Y m k) (eg : Ent g) (hf : FrI g fr) (hz : 0 ≤ z) :
    Calls Tryz.prog 157 #[.agg #[.slice A n c, .bool s], .agg #[.slice Y m d, .bool t], .int .u8 z, .func (.func g) #[] #[]] w (RetV w (shV fr z ⟨l, s⟩ ⟨k, t⟩)) := by
  have O0 := (((((Own.at1 w 24 #[.slice A n c, .bool s] (g := w.heap.size) (by simp)).alloc (.cells #[.slice Y m d, .bool t] 24)).alloc (.cells #[.int .u8 z] 48)).alloc (.cells #[.func (.func g) #[] #[]] 118)).alloc (.cells #[.slice none 0 0, .bool false] 24))
  have O1 := ((((Own.at1 (w.alloc (.cells #[.slice A n c, .bool s] 24)) 24 #[.slice Y m d, .bool t] (g := w.heap.size + 1) (by simp)).alloc (.cells #[.int .u8 z] 48)).alloc (.cells #[.func (.func g) #[] #[]] 118)).alloc (.cells #[.slice none 0 0, .bool false] 24))
  have O2 := (((Own.at1 ((w.alloc (.cells #[.slice A n c, .bool s] 24)).alloc (.cells #[.slice Y m d, .bool t] 24)) 48 #[.int .u8 z] (g := w.heap.size + 1 + 1) (by simp)).alloc (.cells #[.func (.func g) #[] #[]] 118)).alloc (.cells #[.slice none 0 0, .bool false] 24))
  have O3 := ((Own.at1 (((w.alloc (.cells #[.slice A n c, .bool s] 24)).alloc (.cells #[.slice Y m d, .bool t] 24)).alloc (.cells #[.int .u8 z] 48)) 118 #[.func (.func g) #[] #[]] (g := w.heap.size + 1 + 1 + 1) (by simp)).alloc (.cells #[.slice none 0 0, .bool false] 24))
  have O4 := (Own.at1 ((((w.alloc (.cells #[.slice A n c, .bool s] 24)).alloc (.cells #[.slice Y m d, .bool t] 24)).alloc (.cells #[.int .u8 z] 48)).alloc (.cells #[.func (.func g) #[] #[]] 118)) 24 #[.slice none 0 0, .bool false] (g := w.heap.size + 1 + 1 + 1 + 1) (by simp))
  have BB := (below_new (below_new (below_new (below_new (below_new (Below.refl w.heap.size w) (.cells #[.slice A n c, .bool s] 24)) (.cells #[.slice Y m d, .bool t] 24)) (.cells #[.int .u8 z] 48)) (.cells #[.func (.func g) #[] #[]] 118)) (.cells #[.slice none 0 0, .bool false] 24))
  have HA := Lib.hid (fun (u : World) (hb : Below w.heap.size w u) => operand_any A n c s l u (h.step hb))
  have HB := Lib.hid (fun (u : World) (hb : Below w.heap.size w u) => operand_any Y m d t k u (h'.step hb))
  have b1 := nrm_len ⟨l, s⟩
  have b2 := nrm_len ⟨k, t⟩
  have nx := nrm_nn (v := ⟨l, s⟩) h.nn
  have oky := nrm_ok ⟨k, t⟩
  unfold shV
  generalize nrm ⟨l, s⟩ = x at *
  generalize nrm ⟨k, t⟩ = y at *
  obtain ⟨lx, sx⟩ := x
  obtain ⟨ly, sy⟩ := y
  simp only at *
  obtain ⟨N, hN⟩ : ∃ N, lx.length = N := ⟨_, rfl⟩
  obtain ⟨M, hM⟩ : ∃ M, ly.length = M := ⟨_, rfl⟩
  rw [hN] at b1 ⊢
  rw [hM] at b2
  have hlt : num ly < 2 ^ M := num_lt' hM
  have kx := kn_ok (s := sy) oky
  have HY := Lib.hid (fun (u : World) (A1 : Option Addr) (c1 : Nat) (r : Rb u A1 M ly) => kx ▸ known_v A1 M c1 sy ly u r)
  clear h h' kx oky
  replace hN := Lib.hid hN
  replace hM := Lib.hid hM
  cases hy : knL ly
  · rw [hy] at HY
    simp only [Bool.false_eq_true, if_false]
    clear hy
    go_enter Tryz.func157, Tryz.ntmps157
    go_wp2
    haveI : Over w w.heap.size := ⟨Nat.le_refl _⟩
    haveI : Over w (w.heap.size + 1) := ⟨by omega⟩
    haveI : Apart w.heap.size (w.heap.size + 1 + 1) := ⟨by omega⟩
    haveI : Apart w.heap.size (w.heap.size + 1 + 1 + 1) := ⟨by omega⟩
    haveI : Apart w.heap.size (w.heap.size + 1 + 1 + 1 + 1) := ⟨by omega⟩
    haveI : Apart (w.heap.size + 1) (w.heap.size + 1 + 1) := ⟨by omega⟩
    haveI : Apart (w.heap.size + 1) (w.heap.size + 1 + 1 + 1) := ⟨by omega⟩
    haveI : Apart (w.heap.size + 1) (w.heap.size + 1 + 1 + 1 + 1) := ⟨by omega⟩
    refine pair_region (x := ⟨lx, sx⟩) (y := ⟨ly, sy⟩) (fun u => blw w u ∧ (ownT (w.heap.size + 1 + 1) 48 #[.int .u8 z] u ∧ (ownT (w.heap.size + 1 + 1 + 1) 118 #[.func (.func g) #[] #[]] u ∧ owns (w.heap.size + 1 + 1 + 1 + 1) #[.slice none 0 0, .bool false] u))) _ _ _ _ _ _ rfl ⟨rfl, rfl⟩ ⟨rfl, rfl⟩ ⟨rfl, rfl⟩ ⟨rfl, rfl⟩ ⟨rfl, rfl⟩ ⟨rfl, rfl⟩ rfl (by kernel_rfl) (by kernel_rfl) (by kernel_rfl) ⟨by kernel_rfl, by kernel_rfl⟩ (by kernel_rfl) rfl rfl (by omega) ent_operand ent_operand ⟨below_drew BB, O2.drew, O3.drew, O4.drew⟩ O0 O1 (fun u hS => HA.out u hS.1) (fun u hS => HB.out u hS.1) ?_
    intro v0 v1 v2 v3 u A1 c1 A2 c2 hS P0 r1 P1 r2
    simp only [Act.put, List.setIfInBounds_toArray, List.set_cons_zero, List.set_cons_succ]
    obtain ⟨hb, P2, P3, P4⟩ := hS
    replace hb : Below w.heap.size w u := hb
    replace P2 : Own u (w.heap.size + 1 + 1) 48 #[.int .u8 z] := P2
    replace P3 : Own u (w.heap.size + 1 + 1 + 1) 118 #[.func (.func g) #[] #[]] := P3
    replace P4 : Own u (w.heap.size + 1 + 1 + 1 + 1) 24 #[.slice none 0 0, .bool false] := P4
    simp only [hN.out, hM.out] at r1 r2 P0 P1
    clear HA HB O0 O1 O2 O3 O4 BB
    have HB := Lib.hid (fun (u2 : World) (v gn : Nat) (hv : v ≤ 1000) (hb2 : Below u.heap.size u u2) (ON : Own u2 gn 3 #[.int .i64 v]) => build_any N sx 207 #[.pointer (some ⟨w.heap.size, 0, none⟩), .pointer (some ⟨w.heap.size + 1 + 1 + 1, 0, none⟩), .pointer (some ⟨gn, 0, none⟩), .pointer (some ⟨w.heap.size + 1 + 1, 0, none⟩)] (fun i => atI lx (fr i v) z) u2 (by omega) ent_sh1
      (fun W i hi hW => sh1_any _ _ _ _ g fr A1 N c1 i v sx lx z W eg hf ((P0.step hb2).step hW) ((P3.step hb2).step hW) (ON.step hW) ((P2.step hb2).step hW) ((r1.step hb2).step hW) (by omega) hv (by omega)) (fun i _ => atI_nn nx hz _))
    have qP00 := P0.cell 0; have qP01 := P0.cell 1; have fP00 := P0.free 0; have fP01 := P0.free 1; have qP10 := P1.cell 0; have qP11 := P1.cell 1; have fP10 := P1.free 0; have fP11 := P1.free 1
    have l0 := P0.lt
    clear HB
    go_wp2_with (first
      | (go_at_call 31; refine (HY.out _ A2 c2 r2).mono ?_; rintro e w2 ⟨rfl, hb2⟩; replace hb := below_step hb hb2; replace P4 := P4.step hb2; have x0 := (P0.step hb2).cell 0; have x1 := (P0.step hb2).cell 1)
      | (go_at_call 133; refine (unknown_any N sx _ (by omega)).mono ?_; rintro e w9 ⟨A9, c9, rfl, n9, hb9⟩; simp only [allV, tab_len] at n9 ⊢; have L1 := P4.lt; have W2 := P4.step hb9; have qW20 := W2.cell 0; have qW21 := W2.cell 1; have fW20 := W2.free 0; have fW21 := W2.free 1))
    exact ret_vec Tryz.results157 rfl rfl (W2.put2 _ _) (RetV.mk' (v := allV 2 N sx) ((n9.far2 L1 _ _).mono hb.size) (below_set2 (below_step hb hb9) (by omega) _ _))
  · rw [hy] at HY
    simp only [if_true]
    clear hy
    have hcase : (num ly < N ∧ shN (num ly) N = num ly ∧ B.uOk (num ly) = true ∧ B.uVal (num ly) = (num ly : Nat) ∧ decide (((num ly : Nat) : Int) < N) = true) ∨ (shN (num ly) N = N ∧ B.uOk (num ly) = true ∧ B.uVal (num ly) = (num ly : Nat) ∧ decide (num ly < N) = false) ∨ (shN (num ly) N = N ∧ B.uOk (num ly) = false) := by
      unfold shN B.uOk B.uVal
      by_cases e : num ly < 2 ^ 64
      · by_cases e2 : num ly < N
        · left; simp [e, e2]
        · right; left; simp [e, e2]
      · right; right
        simp [e]
        have : ¬ num ly < N := by
          intro h
          exact e (Nat.lt_trans h (Nat.lt_of_le_of_lt b1.2 (by decide)))
        simp [this]
    rcases hcase with ⟨hv0, hv1, hv2, hv3, hv4⟩ | ⟨hv1, hv2, hv3, hv4⟩ | ⟨hv1, hv2⟩
    · rw [hv1]
      have HU := Lib.hid (fun (u : World) (X : Option Addr) (cX : Nat) (r : B.Rd u X M (num ly)) => B.uint_any X M cX (num ly) u r (by omega))
      rw [hv2, hv3] at HU
      clear hv1 hv2
      go_enter Tryz.func157, Tryz.ntmps157
      go_wp2
      haveI : Over w w.heap.size := ⟨Nat.le_refl _⟩
      haveI : Over w (w.heap.size + 1) := ⟨by omega⟩
      haveI : Apart w.heap.size (w.heap.size + 1 + 1) := ⟨by omega⟩
      haveI : Apart w.heap.size (w.heap.size + 1 + 1 + 1) := ⟨by omega⟩
      haveI : Apart w.heap.size (w.heap.size + 1 + 1 + 1 + 1) := ⟨by omega⟩
      haveI : Apart (w.heap.size + 1) (w.heap.size + 1 + 1) := ⟨by omega⟩
      haveI : Apart (w.heap.size + 1) (w.heap.size + 1 + 1 + 1) := ⟨by omega⟩
      haveI : Apart (w.heap.size + 1) (w.heap.size + 1 + 1 + 1 + 1) := ⟨by omega⟩
      refine pair_region (x := ⟨lx, sx⟩) (y := ⟨ly, sy⟩) (fun u => blw w u ∧ (ownT (w.heap.size + 1 + 1) 48 #[.int .u8 z] u ∧ (ownT (w.heap.size + 1 + 1 + 1) 118 #[.func (.func g) #[] #[]] u ∧ owns (w.heap.size + 1 + 1 + 1 + 1) #[.slice none 0 0, .bool false] u))) _ _ _ _ _ _ rfl ⟨rfl, rfl⟩ ⟨rfl, rfl⟩ ⟨rfl, rfl⟩ ⟨rfl, rfl⟩ ⟨rfl, rfl⟩ ⟨rfl, rfl⟩ rfl (by kernel_rfl) (by kernel_rfl) (by kernel_rfl) ⟨by kernel_rfl, by kernel_rfl⟩ (by kernel_rfl) rfl rfl (by omega) ent_operand ent_operand ⟨below_drew BB, O2.drew, O3.drew, O4.drew⟩ O0 O1 (fun u hS => HA.out u hS.1) (fun u hS => HB.out u hS.1) ?_
      intro v0 v1 v2 v3 u A1 c1 A2 c2 hS P0 r1 P1 r2
      simp only [Act.put, List.setIfInBounds_toArray, List.set_cons_zero, List.set_cons_succ]
      obtain ⟨hb, P2, P3, P4⟩ := hS
      replace hb : Below w.heap.size w u := hb
      replace P2 : Own u (w.heap.size + 1 + 1) 48 #[.int .u8 z] := P2
      replace P3 : Own u (w.heap.size + 1 + 1 + 1) 118 #[.func (.func g) #[] #[]] := P3
      replace P4 : Own u (w.heap.size + 1 + 1 + 1 + 1) 24 #[.slice none 0 0, .bool false] := P4
      simp only [hN.out, hM.out] at r1 r2 P0 P1
      clear HA HB O0 O1 O2 O3 O4 BB
      have HB := Lib.hid (fun (u2 : World) (v gn : Nat) (hv : v ≤ 1000) (hb2 : Below u.heap.size u u2) (ON : Own u2 gn 3 #[.int .i64 v]) => build_any N sx 207 #[.pointer (some ⟨w.heap.size, 0, none⟩), .pointer (some ⟨w.heap.size + 1 + 1 + 1, 0, none⟩), .pointer (some ⟨gn, 0, none⟩), .pointer (some ⟨w.heap.size + 1 + 1, 0, none⟩)] (fun i => atI lx (fr i v) z) u2 (by omega) ent_sh1
        (fun W i hi hW => sh1_any _ _ _ _ g fr A1 N c1 i v sx lx z W eg hf ((P0.step hb2).step hW) ((P3.step hb2).step hW) (ON.step hW) ((P2.step hb2).step hW) ((r1.step hb2).step hW) (by omega) hv (by omega)) (fun i _ => atI_nn nx hz _))
      have qP00 := P0.cell 0; have qP01 := P0.cell 1; have fP00 := P0.free 0; have fP01 := P0.free 1; have qP10 := P1.cell 0; have qP11 := P1.cell 1; have fP10 := P1.free 0; have fP11 := P1.free 1
      have l0 := P0.lt
      go_wp2_with (first
        | (go_at_call 31; refine (HY.out _ A2 c2 r2).mono ?_; rintro e w2 ⟨rfl, hb2⟩; clear qP00 qP01 qP10 qP11 fP00 fP01 fP10 fP11; have g2 := below_new hb2 (.cells #[.int .i64 N] 3); have ON := Own.new w2 3 #[.int .i64 (N : Int)]; have x0 := (P1.step g2).cell 0; have x1 := (P1.step g2).cell 1)
        | (go_at_call 112; refine (number_any A2 M c2 sy ly _ (r2.step g2) (by omega)).mono ?_; rintro e w3 ⟨X3, x3, rfl, nn3, hb3⟩; have g3 := below_step g2 hb3; replace ON := ON.step hb3; have y0 := (P0.step g3).cell 0; have y1 := (P0.step g3).cell 1; have on0 := ON.cell 0; have on1 := ON.free 0; have ug := hb2.size)
        | (go_at_call 206; refine (HU.out _ X3 x3 nn3.rd).mono ?_; rintro e w4 ⟨rfl, rfl⟩)
        | (go_at_call 138; have ne0 : w.heap.size + 1 + 1 + 1 + 1 ≠ w2.heap.size := (fun e => absurd (P4.lt) (by omega)); have g4 := below_set (p := ⟨w2.heap.size, 0, none⟩) g3 ug (.int .i64 (num ly : Nat)); have b4 := below_step hb g4; have W4 := (P4.step g3).far (p := ⟨w2.heap.size, 0, none⟩) ne0 (.int .i64 (num ly : Nat)); have O4 := ON.put 0 (.int .i64 (num ly : Nat)); simp only [List.setIfInBounds_toArray, List.set_cons_zero] at O4; refine (HB.out _ (num ly) _ (by omega) g4 O4).mono ?_; rintro e w9 ⟨A9, c9, rfl, n9, hb9⟩; simp only [tab_len] at n9 ⊢; have L1 := W4.lt; have W2 := W4.step hb9; have qW20 := W2.cell 0; have qW21 := W2.cell 1; have fW20 := W2.free 0; have fW21 := W2.free 1))
      exact ret_vec Tryz.results157 rfl rfl (W2.put2 _ _) (RetV.mk' (v := ⟨tab N fun i => atI lx (fr i (num ly)) z, sx⟩) ((n9.far2 L1 _ _).mono b4.size) (below_set2 (below_step b4 hb9) (by omega) _ _))
    · rw [hv1]
      have HU := Lib.hid (fun (u : World) (X : Option Addr) (cX : Nat) (r : B.Rd u X M (num ly)) => B.uint_any X M cX (num ly) u r (by omega))
      rw [hv2, hv3] at HU
      clear hv1 hv2
      go_enter Tryz.func157, Tryz.ntmps157
      go_wp2
      haveI : Over w w.heap.size := ⟨Nat.le_refl _⟩
      haveI : Over w (w.heap.size + 1) := ⟨by omega⟩
      haveI : Apart w.heap.size (w.heap.size + 1 + 1) := ⟨by omega⟩
      haveI : Apart w.heap.size (w.heap.size + 1 + 1 + 1) := ⟨by omega⟩
      haveI : Apart w.heap.size (w.heap.size + 1 + 1 + 1 + 1) := ⟨by omega⟩
      haveI : Apart (w.heap.size + 1) (w.heap.size + 1 + 1) := ⟨by omega⟩
      haveI : Apart (w.heap.size + 1) (w.heap.size + 1 + 1 + 1) := ⟨by omega⟩
      haveI : Apart (w.heap.size + 1) (w.heap.size + 1 + 1 + 1 + 1) := ⟨by omega⟩
      refine pair_region (x := ⟨lx, sx⟩) (y := ⟨ly, sy⟩) (fun u => blw w u ∧ (ownT (w.heap.size + 1 + 1) 48 #[.int .u8 z] u ∧ (ownT (w.heap.size + 1 + 1 + 1) 118 #[.func (.func g) #[] #[]] u ∧ owns (w.heap.size + 1 + 1 + 1 + 1) #[.slice none 0 0, .bool false] u))) _ _ _ _ _ _ rfl ⟨rfl, rfl⟩ ⟨rfl, rfl⟩ ⟨rfl, rfl⟩ ⟨rfl, rfl⟩ ⟨rfl, rfl⟩ ⟨rfl, rfl⟩ rfl (by kernel_rfl) (by kernel_rfl) (by kernel_rfl) ⟨by kernel_rfl, by kernel_rfl⟩ (by kernel_rfl) rfl rfl (by omega) ent_operand ent_operand ⟨below_drew BB, O2.drew, O3.drew, O4.drew⟩ O0 O1 (fun u hS => HA.out u hS.1) (fun u hS => HB.out u hS.1) ?_
      intro v0 v1 v2 v3 u A1 c1 A2 c2 hS P0 r1 P1 r2
      simp only [Act.put, List.setIfInBounds_toArray, List.set_cons_zero, List.set_cons_succ]
      obtain ⟨hb, P2, P3, P4⟩ := hS
      replace hb : Below w.heap.size w u := hb
      replace P2 : Own u (w.heap.size + 1 + 1) 48 #[.int .u8 z] := P2
      replace P3 : Own u (w.heap.size + 1 + 1 + 1) 118 #[.func (.func g) #[] #[]] := P3
      replace P4 : Own u (w.heap.size + 1 + 1 + 1 + 1) 24 #[.slice none 0 0, .bool false] := P4
      simp only [hN.out, hM.out] at r1 r2 P0 P1
      clear HA HB O0 O1 O2 O3 O4 BB
      have HB := Lib.hid (fun (u2 : World) (v gn : Nat) (hv : v ≤ 1000) (hb2 : Below u.heap.size u u2) (ON : Own u2 gn 3 #[.int .i64 v]) => build_any N sx 207 #[.pointer (some ⟨w.heap.size, 0, none⟩), .pointer (some ⟨w.heap.size + 1 + 1 + 1, 0, none⟩), .pointer (some ⟨gn, 0, none⟩), .pointer (some ⟨w.heap.size + 1 + 1, 0, none⟩)] (fun i => atI lx (fr i v) z) u2 (by omega) ent_sh1
        (fun W i hi hW => sh1_any _ _ _ _ g fr A1 N c1 i v sx lx z W eg hf ((P0.step hb2).step hW) ((P3.step hb2).step hW) (ON.step hW) ((P2.step hb2).step hW) ((r1.step hb2).step hW) (by omega) hv (by omega)) (fun i _ => atI_nn nx hz _))
      have qP00 := P0.cell 0; have qP01 := P0.cell 1; have fP00 := P0.free 0; have fP01 := P0.free 1; have qP10 := P1.cell 0; have qP11 := P1.cell 1; have fP10 := P1.free 0; have fP11 := P1.free 1
      have l0 := P0.lt
      go_wp2_with (first
        | (go_at_call 31; refine (HY.out _ A2 c2 r2).mono ?_; rintro e w2 ⟨rfl, hb2⟩; clear qP00 qP01 qP10 qP11 fP00 fP01 fP10 fP11; have g2 := below_new hb2 (.cells #[.int .i64 N] 3); have ON := Own.new w2 3 #[.int .i64 (N : Int)]; have x0 := (P1.step g2).cell 0; have x1 := (P1.step g2).cell 1)
        | (go_at_call 112; refine (number_any A2 M c2 sy ly _ (r2.step g2) (by omega)).mono ?_; rintro e w3 ⟨X3, x3, rfl, nn3, hb3⟩; have g3 := below_step g2 hb3; replace ON := ON.step hb3; have y0 := (P0.step g3).cell 0; have y1 := (P0.step g3).cell 1; have on0 := ON.cell 0; have on1 := ON.free 0; have ug := hb2.size)
        | (go_at_call 206; refine (HU.out _ X3 x3 nn3.rd).mono ?_; rintro e w4 ⟨rfl, rfl⟩)
        | (go_at_call 138; have b4 := below_step hb g3; have W4 := P4.step g3; refine (HB.out _ N _ (by omega) g3 ON).mono ?_; rintro e w9 ⟨A9, c9, rfl, n9, hb9⟩; simp only [tab_len] at n9 ⊢; have L1 := W4.lt; have W2 := W4.step hb9; have qW20 := W2.cell 0; have qW21 := W2.cell 1; have fW20 := W2.free 0; have fW21 := W2.free 1))
      exact ret_vec Tryz.results157 rfl rfl (W2.put2 _ _) (RetV.mk' (v := ⟨tab N fun i => atI lx (fr i N) z, sx⟩) ((n9.far2 L1 _ _).mono b4.size) (below_set2 (below_step b4 hb9) (by omega) _ _))
    · rw [hv1]
      have HU := Lib.hid (fun (u : World) (X : Option Addr) (cX : Nat) (r : B.Rd u X M (num ly)) => B.uint_any X M cX (num ly) u r (by omega))
      rw [hv2] at HU
      clear hv1 hv2
      go_enter Tryz.func157, Tryz.ntmps157
      go_wp2
      haveI : Over w w.heap.size := ⟨Nat.le_refl _⟩
      haveI : Over w (w.heap.size + 1) := ⟨by omega⟩
      haveI : Apart w.heap.size (w.heap.size + 1 + 1) := ⟨by omega⟩
      haveI : Apart w.heap.size (w.heap.size + 1 + 1 + 1) := ⟨by omega⟩
      haveI : Apart w.heap.size (w.heap.size + 1 + 1 + 1 + 1) := ⟨by omega⟩
      haveI : Apart (w.heap.size + 1) (w.heap.size + 1 + 1) := ⟨by omega⟩
      haveI : Apart (w.heap.size + 1) (w.heap.size + 1 + 1 + 1) := ⟨by omega⟩
      haveI : Apart (w.heap.size + 1) (w.heap.size + 1 + 1 + 1 + 1) := ⟨by omega⟩
      refine pair_region (x := ⟨lx, sx⟩) (y := ⟨ly, sy⟩) (fun u => blw w u ∧ (ownT (w.heap.size + 1 + 1) 48 #[.int .u8 z] u ∧ (ownT (w.heap.size + 1 + 1 + 1) 118 #[.func (.func g) #[] #[]] u ∧ owns (w.heap.size + 1 + 1 + 1 + 1) #[.slice none 0 0, .bool false] u))) _ _ _ _ _ _ rfl ⟨rfl, rfl⟩ ⟨rfl, rfl⟩ ⟨rfl, rfl⟩ ⟨rfl, rfl⟩ ⟨rfl, rfl⟩ ⟨rfl, rfl⟩ rfl (by kernel_rfl) (by kernel_rfl) (by kernel_rfl) ⟨by kernel_rfl, by kernel_rfl⟩ (by kernel_rfl) rfl rfl (by omega) ent_operand ent_operand ⟨below_drew BB, O2.drew, O3.drew, O4.drew⟩ O0 O1 (fun u hS => HA.out u hS.1) (fun u hS => HB.out u hS.1) ?_
      intro v0 v1 v2 v3 u A1 c1 A2 c2 hS P0 r1 P1 r2
      simp only [Act.put, List.setIfInBounds_toArray, List.set_cons_zero, List.set_cons_succ]
      obtain ⟨hb, P2, P3, P4⟩ := hS
      replace hb : Below w.heap.size w u := hb
      replace P2 : Own u (w.heap.size + 1 + 1) 48 #[.int .u8 z] := P2
      replace P3 : Own u (w.heap.size + 1 + 1 + 1) 118 #[.func (.func g) #[] #[]] := P3
      replace P4 : Own u (w.heap.size + 1 + 1 + 1 + 1) 24 #[.slice none 0 0, .bool false] := P4
      simp only [hN.out, hM.out] at r1 r2 P0 P1
      clear HA HB O0 O1 O2 O3 O4 BB
      have HB := Lib.hid (fun (u2 : World) (v gn : Nat) (hv : v ≤ 1000) (hb2 : Below u.heap.size u u2) (ON : Own u2 gn 3 #[.int .i64 v]) => build_any N sx 207 #[.pointer (some ⟨w.heap.size, 0, none⟩), .pointer (some ⟨w.heap.size + 1 + 1 + 1, 0, none⟩), .pointer (some ⟨gn, 0, none⟩), .pointer (some ⟨w.heap.size + 1 + 1, 0, none⟩)] (fun i => atI lx (fr i v) z) u2 (by omega) ent_sh1
        (fun W i hi hW => sh1_any _ _ _ _ g fr A1 N c1 i v sx lx z W eg hf ((P0.step hb2).step hW) ((P3.step hb2).step hW) (ON.step hW) ((P2.step hb2).step hW) ((r1.step hb2).step hW) (by omega) hv (by omega)) (fun i _ => atI_nn nx hz _))
      have qP00 := P0.cell 0; have qP01 := P0.cell 1; have fP00 := P0.free 0; have fP01 := P0.free 1; have qP10 := P1.cell 0; have qP11 := P1.cell 1; have fP10 := P1.free 0; have fP11 := P1.free 1
      have l0 := P0.lt
      go_wp2_with (first
        | (go_at_call 31; refine (HY.out _ A2 c2 r2).mono ?_; rintro e w2 ⟨rfl, hb2⟩; clear qP00 qP01 qP10 qP11 fP00 fP01 fP10 fP11; have g2 := below_new hb2 (.cells #[.int .i64 N] 3); have ON := Own.new w2 3 #[.int .i64 (N : Int)]; have x0 := (P1.step g2).cell 0; have x1 := (P1.step g2).cell 1)
        | (go_at_call 112; refine (number_any A2 M c2 sy ly _ (r2.step g2) (by omega)).mono ?_; rintro e w3 ⟨X3, x3, rfl, nn3, hb3⟩; have g3 := below_step g2 hb3; replace ON := ON.step hb3; have y0 := (P0.step g3).cell 0; have y1 := (P0.step g3).cell 1; have on0 := ON.cell 0; have on1 := ON.free 0; have ug := hb2.size)
        | (go_at_call 206; refine (HU.out _ X3 x3 nn3.rd).mono ?_; rintro e w4 ⟨rfl, rfl⟩)
        | (go_at_call 138; have b4 := below_step hb g3; have W4 := P4.step g3; refine (HB.out _ N _ (by omega) g3 ON).mono ?_; rintro e w9 ⟨A9, c9, rfl, n9, hb9⟩; simp only [tab_len] at n9 ⊢; have L1 := W4.lt; have W2 := W4.step hb9; have qW20 := W2.cell 0; have qW21 := W2.cell 1; have fW20 := W2.free 0; have fW21 := W2.free 1))
      exact ret_vec Tryz.results157 rfl rfl (W2.put2 _ _) (RetV.mk' (v := ⟨tab N fun i => atI lx (fr i N) z, sx⟩) ((n9.far2 L1 _ _).mono b4.size) (below_set2 (below_step b4 hb9) (by omega) _ _))
end Go.Proofs.YtognpmggfplekaaGreatDoor

namespace Go.Proofs.YtognpmggfplekaaGreatDoor
open Go Go.RowKit

def frL (i n : Int) : Int := i - n
def frR (i n : Int) : Int := i + n
theorem fri_Shl : FrI 158 frL := by
  intro W i n hi hn
  show Calls _ _ #[.int .i64 i, .int .i64 n] W _
  unfold frL
  go_enter Tryz.func158, Tryz.ntmps158
  go_wp2
  go_ret
  exact ⟨rfl, Below.refl _ _⟩
theorem ent_Shl1 : Ent 158 := enters_of Tryz.func158 (by kernel_rfl) rfl
theorem fri_Shr : FrI 159 frR := by
  intro W i n hi hn
  show Calls _ _ #[.int .i64 i, .int .i64 n] W _
  unfold frR
  go_enter Tryz.func159, Tryz.ntmps159
  go_wp2
  go_ret
  exact ⟨rfl, Below.refl _ _⟩
theorem ent_Shr1 : Ent 159 := enters_of Tryz.func159 (by kernel_rfl) rfl
theorem fri_AShr : FrI 160 frR := by
  intro W i n hi hn
  show Calls _ _ #[.int .i64 i, .int .i64 n] W _
  unfold frR
  go_enter Tryz.func160, Tryz.ntmps160
  go_wp2
  go_ret
  exact ⟨rfl, Below.refl _ _⟩
theorem ent_AShr1 : Ent 160 := enters_of Tryz.func160 (by kernel_rfl) rfl
set_option maxHeartbeats 1000000 in
theorem vShl_any (A Y : Option Addr) (n m c d : Nat) (s t : Bool) (l k : List Int) (w : World) (h : Rb w A n l) (h' : Rb w Y m k) :
    Calls Tryz.prog 62 #[.agg #[.slice A n c, .bool s], .agg #[.slice Y m d, .bool t]] w (RetV w (shV frL 0 ⟨l, s⟩ ⟨k, t⟩)) := by
  have O0 := (((Own.at1 w 24 #[.slice A n c, .bool s] (g := w.heap.size) (by simp)).alloc (.cells #[.slice Y m d, .bool t] 24)).alloc (.cells #[.slice none 0 0, .bool false] 24))
  have O1 := ((Own.at1 (w.alloc (.cells #[.slice A n c, .bool s] 24)) 24 #[.slice Y m d, .bool t] (g := w.heap.size + 1) (by simp)).alloc (.cells #[.slice none 0 0, .bool false] 24))
  have O2 := (Own.at1 ((w.alloc (.cells #[.slice A n c, .bool s] 24)).alloc (.cells #[.slice Y m d, .bool t] 24)) 24 #[.slice none 0 0, .bool false] (g := w.heap.size + 1 + 1) (by simp))
  have BB := (below_new (below_new (below_new (Below.refl w.heap.size w) (.cells #[.slice A n c, .bool s] 24)) (.cells #[.slice Y m d, .bool t] 24)) (.cells #[.slice none 0 0, .bool false] 24))
  have HR := Lib.hid (shift_v 158 frL 0 A Y n m c d s t l k _ (h.step BB) (h'.step BB) ent_Shl1 fri_Shl (by decide))
  generalize shV frL 0 ⟨l, s⟩ ⟨k, t⟩ = z at *
  clear h h'
  go_enter Tryz.func62, Tryz.ntmps62
  go_wp2_with (go_at_call 157; refine HR.out.mono ?_; rintro e w1 ⟨A1, c1, rfl, n1, hb1⟩; have L1 := O2.lt; have U2 := O2.step hb1; have qU20 := U2.cell 0; have qU21 := U2.cell 1; have fU20 := U2.free 0; have fU21 := U2.free 1)
  exact ret_vec Tryz.results62 rfl rfl (U2.put2 _ _) (RetV.mk' (v := z) ((n1.far2 L1 _ _).mono BB.size) (below_set2 (below_step BB hb1) (by omega) _ _))
set_option maxHeartbeats 1000000 in
theorem vShr_any (A Y : Option Addr) (n m c d : Nat) (s t : Bool) (l k : List Int) (w : World) (h : Rb w A n l) (h' : Rb w Y m k) :
    Calls Tryz.prog 63 #[.agg #[.slice A n c, .bool s], .agg #[.slice Y m d, .bool t]] w (RetV w (shV frR 0 ⟨l, s⟩ ⟨k, t⟩)) := by
  have O0 := (((Own.at1 w 24 #[.slice A n c, .bool s] (g := w.heap.size) (by simp)).alloc (.cells #[.slice Y m d, .bool t] 24)).alloc (.cells #[.slice none 0 0, .bool false] 24))
  have O1 := ((Own.at1 (w.alloc (.cells #[.slice A n c, .bool s] 24)) 24 #[.slice Y m d, .bool t] (g := w.heap.size + 1) (by simp)).alloc (.cells #[.slice none 0 0, .bool false] 24))
  have O2 := (Own.at1 ((w.alloc (.cells #[.slice A n c, .bool s] 24)).alloc (.cells #[.slice Y m d, .bool t] 24)) 24 #[.slice none 0 0, .bool false] (g := w.heap.size + 1 + 1) (by simp))
  have BB := (below_new (below_new (below_new (Below.refl w.heap.size w) (.cells #[.slice A n c, .bool s] 24)) (.cells #[.slice Y m d, .bool t] 24)) (.cells #[.slice none 0 0, .bool false] 24))
  have HR := Lib.hid (shift_v 159 frR 0 A Y n m c d s t l k _ (h.step BB) (h'.step BB) ent_Shr1 fri_Shr (by decide))
  generalize shV frR 0 ⟨l, s⟩ ⟨k, t⟩ = z at *
  clear h h'
  go_enter Tryz.func63, Tryz.ntmps63
  go_wp2_with (go_at_call 157; refine HR.out.mono ?_; rintro e w1 ⟨A1, c1, rfl, n1, hb1⟩; have L1 := O2.lt; have U2 := O2.step hb1; have qU20 := U2.cell 0; have qU21 := U2.cell 1; have fU20 := U2.free 0; have fU21 := U2.free 1)
  exact ret_vec Tryz.results63 rfl rfl (U2.put2 _ _) (RetV.mk' (v := z) ((n1.far2 L1 _ _).mono BB.size) (below_set2 (below_step BB hb1) (by omega) _ _))
set_option maxHeartbeats 1000000 in
theorem vAShl_any (A Y : Option Addr) (n m c d : Nat) (s t : Bool) (l k : List Int) (w : World) (h : Rb w A n l) (h' : Rb w Y m k) :
    Calls Tryz.prog 65 #[.agg #[.slice A n c, .bool s], .agg #[.slice Y m d, .bool t]] w (RetV w (shV frL 0 ⟨l, s⟩ ⟨k, t⟩)) := by
  have O0 := (((Own.at1 w 24 #[.slice A n c, .bool s] (g := w.heap.size) (by simp)).alloc (.cells #[.slice Y m d, .bool t] 24)).alloc (.cells #[.slice none 0 0, .bool false] 24))
  have O1 := ((Own.at1 (w.alloc (.cells #[.slice A n c, .bool s] 24)) 24 #[.slice Y m d, .bool t] (g := w.heap.size + 1) (by simp)).alloc (.cells #[.slice none 0 0, .bool false] 24))
  have O2 := (Own.at1 ((w.alloc (.cells #[.slice A n c, .bool s] 24)).alloc (.cells #[.slice Y m d, .bool t] 24)) 24 #[.slice none 0 0, .bool false] (g := w.heap.size + 1 + 1) (by simp))
  have BB := (below_new (below_new (below_new (Below.refl w.heap.size w) (.cells #[.slice A n c, .bool s] 24)) (.cells #[.slice Y m d, .bool t] 24)) (.cells #[.slice none 0 0, .bool false] 24))
  have HR := Lib.hid (vShl_any A Y n m c d s t l k _ (h.step BB) (h'.step BB))
  generalize shV frL 0 ⟨l, s⟩ ⟨k, t⟩ = z at *
  clear h h'
  go_enter Tryz.func65, Tryz.ntmps65
  go_wp2_with (go_at_call 62; refine HR.out.mono ?_; rintro e w1 ⟨A1, c1, rfl, n1, hb1⟩; have L1 := O2.lt; have U2 := O2.step hb1; have qU20 := U2.cell 0; have qU21 := U2.cell 1; have fU20 := U2.free 0; have fU21 := U2.free 1)
  exact ret_vec Tryz.results65 rfl rfl (U2.put2 _ _) (RetV.mk' (v := z) ((n1.far2 L1 _ _).mono BB.size) (below_set2 (below_step BB hb1) (by omega) _ _))
set_option maxHeartbeats 4000000 in
theorem vAShr_any (A Y : Option Addr) (n m c d : Nat) (s t : Bool) (l k : List Int) (w : World) (h : Rb w A n l) (h' : Rb w Y m k) :
    Calls Tryz.prog 64 #[.agg #[.slice A n c, .bool s], .agg #[.slice Y m d, .bool t]] w (RetV w (shV frR (fill (nrm ⟨l, s⟩)) ⟨l, s⟩ ⟨k, t⟩)) := by
  have O0 := (((Own.at1 w 24 #[.slice A n c, .bool s] (g := w.heap.size) (by simp)).alloc (.cells #[.slice Y m d, .bool t] 24)).alloc (.cells #[.slice none 0 0, .bool false] 24))
  have O1 := ((Own.at1 (w.alloc (.cells #[.slice A n c, .bool s] 24)) 24 #[.slice Y m d, .bool t] (g := w.heap.size + 1) (by simp)).alloc (.cells #[.slice none 0 0, .bool false] 24))
  have O2 := (Own.at1 ((w.alloc (.cells #[.slice A n c, .bool s] 24)).alloc (.cells #[.slice Y m d, .bool t] 24)) 24 #[.slice none 0 0, .bool false] (g := w.heap.size + 1 + 1) (by simp))
  have BB := (below_new (below_new (below_new (Below.refl w.heap.size w) (.cells #[.slice A n c, .bool s] 24)) (.cells #[.slice Y m d, .bool t] 24)) (.cells #[.slice none 0 0, .bool false] 24))
  have HA := Lib.hid (fun (u : World) (hb : Below w.heap.size w u) => operand_any A n c s l u (h.step hb))
  have b1 := nrm_len ⟨l, s⟩
  have HF := Lib.hid (fun (u : World) (A1 : Option Addr) (c1 : Nat) (r : Rb u A1 (nrm ⟨l, s⟩).l.length (nrm ⟨l, s⟩).l) => filler_any A1 _ c1 (nrm ⟨l, s⟩).s _ u r (by omega) b1.1)
  have hz : 0 ≤ fill (nrm ⟨l, s⟩) := fill_nn (nrm_nn (v := ⟨l, s⟩) h.nn)
  have HS := Lib.hid (fun (u : World) (hb : Below w.heap.size w u) => shift_v 160 frR (fill (nrm ⟨l, s⟩)) A Y n m c d s t l k u (h.step hb) (h'.step hb) ent_AShr1 fri_AShr hz)
  generalize shV frR (fill (nrm ⟨l, s⟩)) ⟨l, s⟩ ⟨k, t⟩ = v at *
  have hfl : fill ⟨(nrm ⟨l, s⟩).l, (nrm ⟨l, s⟩).s⟩ = fill (nrm ⟨l, s⟩) := rfl
  rw [hfl] at HF
  clear hfl
  generalize fill (nrm ⟨l, s⟩) = z at *
  generalize nrm ⟨l, s⟩ = x at *
  have p0 := O0.cell 0
  have p1 := O0.cell 1
  have p2 := O1.cell 0
  have p3 := O1.cell 1
  simp only [List.getElem?_toArray, List.getElem?_cons_zero, List.getElem?_cons_succ] at p0 p1 p2 p3
  replace BB := Lib.hid BB
  replace O2 := Lib.hid O2
  clear h h' hz O0 O1
  go_enter Tryz.func64, Tryz.ntmps64
  go_wp2
  go_region_held3 (fun u => u.cell? ⟨w.heap.size, 0, none⟩ = some (.slice A n c) ∧ u.cell? ⟨w.heap.size, 1, none⟩ = some (.bool s) ∧ u.cell? ⟨w.heap.size + 1, 0, none⟩ = some (.slice Y m d) ∧ u.cell? ⟨w.heap.size + 1, 1, none⟩ = some (.bool t)) (first | exact ⟨p0, p1, p2, p3⟩ | exact ⟨(cell_step hb1 p0), (cell_step hb1 p1), (cell_step hb1 p2), (cell_step hb1 p3)⟩ | exact ⟨(cell_step hb2 (cell_step hb1 p0)), (cell_step hb2 (cell_step hb1 p1)), (cell_step hb2 (cell_step hb1 p2)), (cell_step hb2 (cell_step hb1 p3))⟩ | exact ⟨(cell_step hb3 (cell_step hb2 (cell_step hb1 p0))), (cell_step hb3 (cell_step hb2 (cell_step hb1 p1))), (cell_step hb3 (cell_step hb2 (cell_step hb1 p2))), (cell_step hb3 (cell_step hb2 (cell_step hb1 p3)))⟩ | exact ⟨(cell_set1 (by omega)).trans ((cell_set1 (by omega)).trans (cell_step hb3 (cell_step hb2 (cell_step hb1 p0)))), (cell_set1 (by omega)).trans ((cell_set1 (by omega)).trans (cell_step hb3 (cell_step hb2 (cell_step hb1 p1)))), (cell_set1 (by omega)).trans ((cell_set1 (by omega)).trans (cell_step hb3 (cell_step hb2 (cell_step hb1 p2)))), (cell_set1 (by omega)).trans ((cell_set1 (by omega)).trans (cell_step hb3 (cell_step hb2 (cell_step hb1 p3))))⟩) (first
    | (go_at_call 117; refine (HA.out _ ?_).mono ?_; exact (below_drew BB.out); rintro e w1 ⟨A1, c1, rfl, r1, hb1⟩)
    | (go_at_call 154; refine (HF.out _ A1 c1 r1).mono ?_; rintro e w2 ⟨rfl, hb2⟩)
    | (go_at_call 157; refine (HS.out _ ?_).mono ?_; exact below_step (below_step (below_drew BB.out) hb1) hb2; rintro e w3 ⟨A3, c3, rfl, n3, hb3⟩; have U3 := (O2.out.drew.step hb1).step hb2; have L1 := U3.lt; have U2 := U3.step hb3; have qU20 := U2.cell 0; have qU21 := U2.cell 1; have fU20 := U2.free 0; have fU21 := U2.free 1))
  all_goals go_wp2
  all_goals exact ret_vec Tryz.results64 rfl rfl (U2.put2 _ _) (RetV.mk' (v := v) ((n3.far2 L1 _ _).mono (below_step (below_step (below_drew BB.out) hb1) hb2).size) (below_set2 (below_step (below_step (below_step (below_drew BB.out) hb1) hb2) hb3) (by omega) _ _))
end Go.Proofs.YtognpmggfplekaaGreatDoor

namespace Go.Proofs.YtognpmggfplekaaGreatDoor
open Go Go.RowKit

theorem kn_true {l : List Int} {s : Bool} (h : kn ⟨l, s⟩ = true) : okB l = true := by
  cases e : okB l
  · unfold kn at h
    rw [nrm_no (v := ⟨l, s⟩) e] at h
    exact absurd h (by decide)
  · rfl
def iVal (v : V) : Int := if kn v then B.iVal ((nrm v).l.length + 1) (num (fitV (nrm v) ((nrm v).l.length + 1)).l) else 0
def iOk (v : V) : Bool := kn v && B.iOk ((nrm v).l.length + 1) (num (fitV (nrm v) ((nrm v).l.length + 1)).l)
set_option maxHeartbeats 2000000 in
theorem int_v (A : Option Addr) (n c : Nat) (s : Bool) (l : List Int) (w : World) (h : Rb w A n l) :
    Calls Tryz.prog 24 #[.agg #[.slice A n c, .bool s]] w fun e w' => e = .returned (.tuple #[.int .i64 (iVal ⟨l, s⟩), .bool (iOk ⟨l, s⟩)]) ∧ Below w.heap.size w w' := by
  have O0 := (Own.at1 w 24 #[.slice A n c, .bool s] (g := w.heap.size) (by simp))
  have BB := (below_new (Below.refl w.heap.size w) (.cells #[.slice A n c, .bool s] 24))
  have HK := Lib.hid (known_v A n c s l _ (h.step BB))
  unfold iVal iOk
  cases hk : kn ⟨l, s⟩
  · rw [hk] at HK
    simp only [Bool.false_eq_true, if_false, Bool.false_and]
    clear hk h
    go_enter Tryz.func24, Tryz.ntmps24
    go_wp2_with (go_at_call 31; refine HK.out.mono ?_; rintro e w1 ⟨rfl, hb1⟩)
    go_ret2
    exact ⟨rfl, below_step BB hb1⟩
  · rw [hk] at HK
    have ok := kn_true hk
    rw [nrm_of (v := ⟨l, s⟩) ok]
    simp only [if_true, Bool.true_and, h.len]
    have hl := ok_len ok
    rw [h.len] at hl
    have HF := Lib.hid (fun (u : World) (hb : Below w.heap.size w u) => fit_any A n c s l (n + 1) u (h.step hb) (by omega) hl.1 (by omega))
    have HL : (fitV ⟨l, s⟩ (n + 1)).l.length = n + 1 := tab_len _ _
    generalize fitV ⟨l, s⟩ (n + 1) = x at *
    obtain ⟨lx, sx⟩ := x
    simp only at HL ⊢
    replace HL := Lib.hid HL
    clear hk h ok
    go_enter Tryz.func24, Tryz.ntmps24
    go_wp2_with (first
      | (go_at_call 31; refine HK.out.mono ?_; rintro e w1 ⟨rfl, hb1⟩; replace BB := below_step BB hb1; replace O0 := O0.step hb1; have q0 := O0.cell 0; have q1 := O0.cell 1)
      | (go_at_call 113; refine (HF.out _ BB).mono ?_; rintro e w2 ⟨A2, c2, rfl, n2, hb2⟩; simp only [HL.out] at n2 ⊢; replace BB := below_step BB hb2)
      | (go_at_call 112; refine (number_any A2 (n + 1) c2 sx lx _ n2.rd (by omega)).mono ?_; rintro e w3 ⟨X3, x3, rfl, nn3, hb3⟩; replace BB := below_step BB hb3)
      | (go_at_call 111; refine (B.int_any X3 (n + 1) x3 (num lx) _ nn3.rd (by omega)).mono ?_; rintro e w4 ⟨rfl, rfl⟩))
    go_ret2
    exact ⟨rfl, BB⟩
theorem neg1_any (i : Int) (w : World) : Calls Tryz.prog 164 #[.int .i64 i] w fun e w' => e = .returned (.int .u8 0) ∧ Below w.heap.size w w' := by
  go_enter Tryz.func164, Tryz.ntmps164
  go_wp2
  go_ret
  exact ⟨rfl, Below.refl _ _⟩
theorem ent_neg1 : Ent 164 := enters_of Tryz.func164 (by kernel_rfl) rfl
def negV (v : V) : V := arV fSub (allV 0 (nrm v).l.length (nrm v).s) (nrm v)
set_option maxHeartbeats 2000000 in
theorem neg_v (A : Option Addr) (n c : Nat) (s : Bool) (l : List Int) (w : World) (h : Rb w A n l) :
    Calls Tryz.prog 75 #[.agg #[.slice A n c, .bool s]] w (RetV w (negV ⟨l, s⟩)) := by
  have O0 := ((Own.at1 w 24 #[.slice A n c, .bool s] (g := w.heap.size) (by simp)).alloc (.cells #[.slice none 0 0, .bool false] 24))
  have O1 := (Own.at1 (w.alloc (.cells #[.slice A n c, .bool s] 24)) 24 #[.slice none 0 0, .bool false] (g := w.heap.size + 1) (by simp))
  have BB := (below_new (below_new (Below.refl w.heap.size w) (.cells #[.slice A n c, .bool s] 24)) (.cells #[.slice none 0 0, .bool false] 24))
  have HA := Lib.hid (operand_any A n c s l _ (h.step BB))
  have hlen := nrm_len ⟨l, s⟩
  unfold negV
  generalize nrm ⟨l, s⟩ = x at *
  obtain ⟨lx, sx⟩ := x
  simp only at *
  obtain ⟨N, hN⟩ : ∃ N, lx.length = N := ⟨_, rfl⟩
  rw [hN] at hlen ⊢
  have HK := Lib.hid (fun (u : World) => build_any N sx 164 #[] (fun _ => 0) u (by omega) ent_neg1 (fun W i hi hW => neg1_any i W) (fun i _ => by decide))
  have HS := Lib.hid (fun (u : World) (A3 A1 : Option Addr) (c3 c1 : Nat) (r3 : Rb u A3 N (tab N fun _ => 0)) (r1 : Rb u A1 N lx) => vSub_any A3 A1 N N c3 c1 sx sx _ lx u r3 r1)
  unfold allV
  generalize arV fSub ⟨tab N fun _ => 0, sx⟩ ⟨lx, sx⟩ = v at *
  clear h hlen
  go_enter Tryz.func75, Tryz.ntmps75
  go_wp2_with (first
    | (go_at_call 117; refine HA.out.mono ?_; rintro e w1 ⟨A1, c1, rfl, r1, hb1⟩; simp only [hN] at r1 ⊢; replace BB := below_step BB hb1; replace O0 := O0.step hb1; replace O1 := O1.step hb1; have qO00 := O0.cell 0; have qO01 := O0.cell 1; have fO00 := O0.free 0; have fO01 := O0.free 1; have B1 := below_set2 BB (Nat.le_refl _) (.slice A1 N c1) (.bool sx); have U0 := O0.put2 (.slice A1 N c1) (.bool sx); have U1 := O1.far2 (Nat.succ_ne_self _) (.slice A1 N c1) (.bool sx); have r2 := r1.set2 O0 (.slice A1 N c1) (.bool sx); have qU00 := U0.cell 0; have qU01 := U0.cell 1)
    | (go_at_call 138; refine (HK.out _).mono ?_; rintro e w2 ⟨A3, c3, rfl, n3, hb2⟩; simp only [tab_len] at n3 ⊢; have W1 := U1.step hb2; have W0 := U0.step hb2; have D2 := below_step B1 hb2; have l0 := W0.lt; have g2 := below_new hb2 (.cells #[.slice A3 N c3, .bool sx] 24); have x0 := W0.cell 0; have x1 := W0.cell 1)
    | (go_at_call 86; refine (HS.out _ A3 A1 c3 c1 (n3.rd.alloc _) (r2.step g2)).mono ?_; rintro e w4 ⟨A4, c4, rfl, n4, hb4⟩; have Y1 := W1.alloc (.cells #[.slice A3 N c3, .bool sx] 24); have L1 := Y1.lt; have E4 := below_step B1 g2; have W4 := Y1.step hb4; have qW40 := W4.cell 0; have qW41 := W4.cell 1; have fW40 := W4.free 0; have fW41 := W4.free 1))
  exact ret_vec Tryz.results75 rfl rfl (W4.put2 _ _) (RetV.mk' (v := v) ((n4.far2 L1 _ _).mono E4.size) (below_set2 (below_step E4 hb4) (by omega) _ _))
end Go.Proofs.YtognpmggfplekaaGreatDoor

namespace Go.Proofs.YtognpmggfplekaaGreatDoor
open Go Go.RowKit

def vwB (m : Int) : Bool := decide (1 ≤ m) && decide (m ≤ 128)
theorem validWidth_any (m : Int) (w : World) : Calls Tryz.prog 128 #[.int .i64 m] w fun e w' => e = .returned (.bool (vwB m)) ∧ w = w' := by
  unfold vwB
  by_cases h1 : 1 ≤ m
  · have d1 : decide (1 ≤ m) = true := by simpa using h1
    rw [d1, Bool.true_and]
    go_enter Tryz.func128, Tryz.ntmps128
    go_wp2
    go_ret
    exact ⟨rfl, rfl⟩
  · have d1 : decide (1 ≤ m) = false := by simpa using h1
    rw [d1, Bool.false_and]
    go_enter Tryz.func128, Tryz.ntmps128
    go_wp2
    go_ret
    exact ⟨rfl, rfl⟩
def nilV : V := ⟨[], false⟩
theorem vw_of {m : Int} (h : vwB m = true) : ∃ k : Nat, m = k ∧ 1 ≤ k ∧ k ≤ 128 := by
  unfold vwB at h
  simp only [Bool.and_eq_true, decide_eq_true_eq] at h
  exact ⟨m.toNat, by omega, by omega, by omega⟩
def unkV (m : Int) (s : Bool) : V := if vwB m then allV 2 m.toNat s else nilV
def vwE (m : Int) : Int := if vwB m then 0 else 12
set_option maxHeartbeats 1000000 in
theorem unknown_v (m : Int) (s : Bool) (w : World) : Calls Tryz.prog 39 #[.int .i64 m, .bool s] w (RetE w (unkV m s) (vwE m)) := by
  have O0 := (Own.at1 w 24 #[.slice none 0 0, .bool false] (g := w.heap.size) (by simp))
  have BB := (below_new (Below.refl w.heap.size w) (.cells #[.slice none 0 0, .bool false] 24))
  have HW := Lib.hid (validWidth_any m (w.alloc (.cells #[.slice none 0 0, .bool false] 24)))
  unfold unkV vwE
  have qO00 := O0.cell 0; have qO01 := O0.cell 1; have fO00 := O0.free 0; have fO01 := O0.free 1
  cases hv : vwB m
  · rw [hv] at HW
    simp only [Bool.false_eq_true, if_false]
    clear hv
    go_enter Tryz.func39, Tryz.ntmps39
    go_wp2_with (go_at_call 128; refine HW.out.mono ?_; rintro e w1 ⟨rfl, rfl⟩)
    exact ret_vecE Tryz.results39 rfl rfl rfl O0 (RetE.mk' (v := nilV) (Nb.nil _ _) BB)
  · rw [hv] at HW
    simp only [if_true]
    obtain ⟨k, rfl, hk1, hk2⟩ := vw_of hv
    clear hv
    simp only [Int.toNat_natCast]
    go_enter Tryz.func39, Tryz.ntmps39
    go_wp2_with (first
      | (go_at_call 128; refine HW.out.mono ?_; rintro e w1 ⟨rfl, rfl⟩)
      | (go_at_call 133; refine (unknown_any k s _ (by omega)).mono ?_; rintro e w9 ⟨A9, c9, rfl, n9, hb9⟩; simp only [allV, tab_len] at n9 ⊢; have L1 := O0.lt; have W2 := O0.step hb9; have qW20 := W2.cell 0; have qW21 := W2.cell 1; have fW20 := W2.free 0; have fW21 := W2.free 1))
    exact ret_vecE Tryz.results39 rfl rfl rfl (W2.put2 _ _) (RetE.mk' (v := allV 2 k s) ((n9.far2 L1 _ _).mono BB.size) (below_set2 (below_step BB hb9) (by omega) _ _))
def fromV (z m : Int) (s : Bool) : V := if vwB m then ⟨frN m.toNat (B.fi z m.toNat), s⟩ else nilV
set_option maxHeartbeats 1000000 in
theorem fromInt_v (z m : Int) (s : Bool) (w : World) (hz : -9223372036854775808 ≤ z ∧ z ≤ 9223372036854775807) : Calls Tryz.prog 37 #[.int .i64 z, .int .i64 m, .bool s] w (RetE w (fromV z m s) (vwE m)) := by
  have O0 := (Own.at1 w 24 #[.slice none 0 0, .bool false] (g := w.heap.size) (by simp))
  have BB := (below_new (Below.refl w.heap.size w) (.cells #[.slice none 0 0, .bool false] 24))
  have HW := Lib.hid (validWidth_any m (w.alloc (.cells #[.slice none 0 0, .bool false] 24)))
  unfold fromV vwE
  have qO00 := O0.cell 0; have qO01 := O0.cell 1; have fO00 := O0.free 0; have fO01 := O0.free 1
  cases hv : vwB m
  · rw [hv] at HW
    simp only [Bool.false_eq_true, if_false]
    clear hv
    go_enter Tryz.func37, Tryz.ntmps37
    go_wp2_with (go_at_call 128; refine HW.out.mono ?_; rintro e w1 ⟨rfl, rfl⟩)
    exact ret_vecE Tryz.results37 rfl rfl rfl O0 (RetE.mk' (v := nilV) (Nb.nil _ _) BB)
  · rw [hv] at HW
    simp only [if_true]
    obtain ⟨k, rfl, hk1, hk2⟩ := vw_of hv
    clear hv
    simp only [Int.toNat_natCast]
    have HF := Lib.hid (fun (u : World) => B.fromInt_any z k u hz hk2)
    generalize B.fi z k = x at *
    clear hz
    go_enter Tryz.func37, Tryz.ntmps37
    go_wp2_with (first
      | (go_at_call 128; refine HW.out.mono ?_; rintro e w1 ⟨rfl, rfl⟩)
      | (go_at_call 129; refine (HF.out _).mono ?_; rintro e w2 ⟨X2, x2, rfl, nn2, hb2⟩; replace BB := below_step BB hb2; replace O0 := O0.step hb2)
      | (go_at_call 130; refine (fromNumber_any X2 k x2 x s _ nn2.rd (by omega)).mono ?_; rintro e w9 ⟨A9, c9, rfl, n9, hb9⟩; simp only [frN_len] at n9 ⊢; have L1 := O0.lt; have W2 := O0.step hb9; have qW20 := W2.cell 0; have qW21 := W2.cell 1; have fW20 := W2.free 0; have fW21 := W2.free 1))
    exact ret_vecE Tryz.results37 rfl rfl rfl (W2.put2 _ _) (RetE.mk' (v := ⟨frN k x, s⟩) ((n9.far2 L1 _ _).mono BB.size) (below_set2 (below_step BB hb9) (by omega) _ _))
def resV (v : V) (m : Int) : V := if vwB m then fitV (nrm v) m.toNat else nilV
set_option maxHeartbeats 1000000 in
theorem resize_v (A : Option Addr) (n c : Nat) (s : Bool) (l : List Int) (m : Int) (w : World) (h : Rb w A n l) : Calls Tryz.prog 41 #[.agg #[.slice A n c, .bool s], .int .i64 m] w (RetE w (resV ⟨l, s⟩ m) (vwE m)) := by
  have O0 := ((Own.at1 w 24 #[.slice A n c, .bool s] (g := w.heap.size) (by simp)).alloc (.cells #[.slice none 0 0, .bool false] 24))
  have O1 := (Own.at1 (w.alloc (.cells #[.slice A n c, .bool s] 24)) 24 #[.slice none 0 0, .bool false] (g := w.heap.size + 1) (by simp))
  have BB := (below_new (below_new (Below.refl w.heap.size w) (.cells #[.slice A n c, .bool s] 24)) (.cells #[.slice none 0 0, .bool false] 24))
  have HW := Lib.hid (validWidth_any m ((w.alloc (.cells #[.slice A n c, .bool s] 24)).alloc (.cells #[.slice none 0 0, .bool false] 24)))
  have HA := Lib.hid (operand_any A n c s l _ (h.step BB))
  have hlen := nrm_len ⟨l, s⟩
  unfold resV vwE
  generalize nrm ⟨l, s⟩ = x at *
  have qO10 := O1.cell 0; have qO11 := O1.cell 1; have fO10 := O1.free 0; have fO11 := O1.free 1
  cases hv : vwB m
  · rw [hv] at HW
    simp only [Bool.false_eq_true, if_false]
    clear hv
    go_enter Tryz.func41, Tryz.ntmps41
    go_wp2_with (go_at_call 128; refine HW.out.mono ?_; rintro e w1 ⟨rfl, rfl⟩)
    exact ret_vecE Tryz.results41 rfl rfl rfl O1 (RetE.mk' (v := nilV) (Nb.nil _ _) BB)
  · rw [hv] at HW
    simp only [if_true]
    obtain ⟨k, rfl, hk1, hk2⟩ := vw_of hv
    clear hv
    simp only [Int.toNat_natCast]
    have HF := Lib.hid (fun (u : World) (A1 : Option Addr) (c1 : Nat) (r : Rb u A1 x.l.length x.l) => fit_any A1 _ c1 x.s x.l k u r (by omega) hlen.1 (by omega))
    have hx : (⟨x.l, x.s⟩ : V) = x := rfl
    rw [hx] at HF
    have HL : (fitV x k).l.length = k := tab_len _ _
    generalize fitV x k = y at *
    replace HL := Lib.hid HL
    clear h hlen hx
    go_enter Tryz.func41, Tryz.ntmps41
    go_wp2_with (first
      | (go_at_call 128; refine HW.out.mono ?_; rintro e w1 ⟨rfl, rfl⟩)
      | (go_at_call 117; refine HA.out.mono ?_; rintro e w1 ⟨A1, c1, rfl, r1, hb1⟩; replace BB := below_step BB hb1; replace O1 := O1.step hb1)
      | (go_at_call 113; refine (HF.out _ A1 c1 r1).mono ?_; rintro e w9 ⟨A9, c9, rfl, n9, hb9⟩; have L1 := O1.lt; have W2 := O1.step hb9; have qW20 := W2.cell 0; have qW21 := W2.cell 1; have fW20 := W2.free 0; have fW21 := W2.free 1))
    exact ret_vecE Tryz.results41 rfl rfl rfl (W2.put2 _ _) (RetE.mk' (v := y) ((n9.far2 L1 _ _).mono BB.size) (below_set2 (below_step BB hb9) (by omega) _ _))
end Go.Proofs.YtognpmggfplekaaGreatDoor
