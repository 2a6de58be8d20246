/-
  Contracts of the reference's shift. Conditions: at most 1000 bits an operand.
-/
import Derived.Test.YtognpmggfplekaaGreatDoorPaWq
set_option maxRecDepth 100000
namespace Go.Proofs.YtognpmggfplekaaGreatDoor
open Go Go.RowKit

theorem atI_in {l : List Int} {x : Int} {p : Nat} {z : Int} (h : x = p) (hp : p < l.length) : atI l x z = nth l p := by
  unfold atI
  rw [h, if_pos ⟨by omega, by omega⟩, Int.toNat_natCast]
theorem atI_out {l : List Int} {x y z : Int} (h : x = y) (hp : ¬ (0 ≤ y ∧ y < (l.length : Int))) : atI l x z = z := by
  unfold atI
  rw [h, if_neg hp]
theorem wr_frL {j D : Nat} {z : Int} (h : frL j D = z) (hj : j ≤ 1000) (hD : D ≤ 1000) : IntKind.i64.wrap ((j : Int) - (D : Int)) = z := by
  rw [IntWalk.i64_in _ (by omega)]; exact h
theorem wr_frR {j D : Nat} {z : Int} (h : frR j D = z) (hj : j ≤ 1000) (hD : D ≤ 1000) : IntKind.i64.wrap ((j : Int) + (D : Int)) = z := by
  rw [IntWalk.i64_in _ (by omega)]; exact h
theorem nb_cell {w : World} {B0 g n c k : Nat} {l : List Int} (h : Nb w B0 (some ⟨g, 0, none⟩) n c l) (hk : k < n) : w.cell? ⟨g, k, none⟩ = some (.int .u8 (nth l k)) := by
  have := row_cell h hk rfl
  rwa [Nat.zero_add] at this
def frW (op : Int) : Int → Int → Int := if op = 41 ∨ op = 43 then frL else frR
def zfW (op : Int) (x : V) : Int := if op = 44 then fill x else 0
def shW (op : Int) (x y : V) : V := if knL y.l then ⟨tab x.l.length fun i => atI x.l (frW op i (shN (num y.l) x.l.length)) (zfW op x), x.s⟩ else allV 2 x.l.length x.s
theorem sh_ways (v N : Nat) (hN : N ≤ 128) : ∃ (uo : Bool) (ui : Int) (D : Nat), (B.uOk v = uo ∧ B.uVal v = ui) ∧ D ≤ 128 ∧ shN v N = D ∧ ((uo = true ∧ decide (ui < (N : Int)) = true ∧ IntKind.i64.wrap ui = (D : Int)) ∨ (uo = true ∧ decide (ui < (N : Int)) = false ∧ (N : Int) = (D : Int)) ∨ (uo = false ∧ (N : Int) = (D : Int))) := by
  unfold B.uOk B.uVal shN
  have hp : (2 : Nat) ^ 64 = 18446744073709551616 := by decide
  by_cases h1 : v < N
  · have h2 : v < 2 ^ 64 := by omega
    refine ⟨true, v, v, ⟨by simp [h2], if_pos h2⟩, by omega, if_pos h1, .inl ⟨rfl, by simpa using h1, IntWalk.i64_in _ (by omega)⟩⟩
  · by_cases h2 : v < 2 ^ 64
    · exact ⟨true, v, N, ⟨by simp [h2], if_pos h2⟩, hN, if_neg h1, .inr (.inl ⟨rfl, by simpa using h1, rfl⟩)⟩
    · exact ⟨false, 0, N, ⟨by simp [h2], if_neg h2⟩, hN, if_neg h1, .inr (.inr ⟨rfl, rfl⟩)⟩
set_option maxHeartbeats 8000000 in
theorem rShift_any (op : Int) (hop : (op = 41 ∨ op = 43) ∨ op = 42 ∨ op = 44) (A Y : Option Addr) (n m c d : Nat) (s t : Bool) (l k : List Int) (w : World) (h : Rb w A n l) (h' : Rb w Y m k) (hn : n ≤ 1000) (hm : m ≤ 1000) :
    Calls Tryz.prog 102 #[.int .u8 op, .agg #[.slice A n c, .bool s], .agg #[.slice Y m d, .bool t]] w (RetV w (shW op (nrm ⟨l, s⟩) (nrm ⟨k, t⟩))) := by
  have O0 := (((Own.at1 w 24 #[.slice A n c, .bool s] (g := w.heap.size) (by simp)).alloc (.cells #[.slice Y m d, .bool t] 24)).alloc (.cells #[.slice none 0 0, .bool false] 24))
  have O1 := ((Own.at1 (w.alloc (.cells #[.slice A n c, .bool s] 24)) 24 #[.slice Y m d, .bool t] (g := w.heap.size + 1) (by simp)).alloc (.cells #[.slice none 0 0, .bool false] 24))
  have O2 := (Own.at1 ((w.alloc (.cells #[.slice A n c, .bool s] 24)).alloc (.cells #[.slice Y m d, .bool t] 24)) 24 #[.slice none 0 0, .bool false] (g := w.heap.size + 1 + 1) (by simp))
  have BB := (below_new (below_new (below_new (Below.refl w.heap.size w) (.cells #[.slice A n c, .bool s] 24)) (.cells #[.slice Y m d, .bool t] 24)) (.cells #[.slice none 0 0, .bool false] 24))
  have HNx := Lib.hid (fun (u : World) (h : Rb u A n l) => rNorm_any_w A n c s l u h (by omega))
  have HNy := Lib.hid (fun (u : World) (h : Rb u Y m k) => rNorm_any_w Y m d t k u h (by omega))
  have hlxx := nrm_len ⟨l, s⟩
  have hlyy := nrm_len ⟨k, t⟩
  have oky := nrm_ok ⟨k, t⟩
  have hnn := nrm_nn (v := ⟨l, s⟩) h.nn
  have r1 := h.step BB
  have r2 := h'.step BB
  clear h h'
  generalize nrm ⟨l, s⟩ = x at *
  generalize nrm ⟨k, t⟩ = y at *
  obtain ⟨lx, sx⟩ := x
  obtain ⟨ly, sy⟩ := y
  obtain ⟨N, hlx⟩ : ∃ N, lx.length = N := ⟨_, rfl⟩
  obtain ⟨M, hly⟩ : ∃ M, ly.length = M := ⟨_, rfl⟩
  simp only [hlx] at hlxx
  simp only [hly] at hlyy
  simp only at hnn
  obtain ⟨h0, hN⟩ := hlxx
  obtain ⟨h0M, hM⟩ := hlyy
  have HF := Lib.hid (fun (u : World) (b : Int) (hb : 0 ≤ b) => rFill_n b N sx u hb (by omega))
  haveI : Apart w.heap.size (w.heap.size + 1) := ⟨by omega⟩
  haveI : Apart (w.heap.size + 1) w.heap.size := ⟨by omega⟩
  haveI : Apart w.heap.size (w.heap.size + 1 + 1) := ⟨by omega⟩
  haveI : Apart (w.heap.size + 1) (w.heap.size + 1 + 1) := ⟨by omega⟩
  haveI : Over w w.heap.size := ⟨by omega⟩
  haveI : Over w (w.heap.size + 1) := ⟨by omega⟩
  replace hop := Lib.hid hop
  replace hnn := Lib.hid hnn
  go_enter Tryz.func102, Tryz.ntmps102
  go_wp2
  refine region_y (by kernel_rfl) (fun u => owns (w.heap.size + 1 + 1) #[.slice none 0 0, .bool false] u ∧ (rds A n l u ∧ (rds Y m k u ∧ blw w u))) [tru, tru, tru, tru, owns w.heap.size #[.slice A n c, .bool s], owns (w.heap.size + 1) #[.slice Y m d, .bool t]] [isV (.agg #[.slice A n c, .bool s]), isNX w.heap.size (⟨lx, sx⟩ : V), isV (.agg #[.slice Y m d, .bool t]), isNX w.heap.size (⟨ly, sy⟩ : V), didX w.heap.size w.heap.size (⟨lx, sx⟩ : V), didX w.heap.size (w.heap.size + 1) (⟨ly, sy⟩ : V)] [some 14, some 15, some 16, some 17, none, none] [[], [0], [], [2, 1], [1, 3, 0, 1], [3, 4, 0, 1, 2, 3, 4]] (by kernel_rfl) (by kernel_rfl) rfl (by kernel_rfl) (by kernel_rfl) (by kernel_rfl) ⟨O2.drew, r1.drew, r2.drew, below_drew BB⟩ (by
    intro U hU
    simp only [List.mem_cons, List.not_mem_nil, or_false] at hU
    rcases hU with rfl | rfl | rfl | rfl | rfl | rfl
    all_goals first | trivial | exact O0.drew | exact O1.drew) ?_ ?_
  · refine ⟨?_, ?_, ?_, ?_, ?_, ?_, trivial⟩
    · intro a w' hS hO hF' hP K hK; have ha := hO 4 (by rfl); refine if_ok (by rfl) ?_; refine wp_load_row 24 (.tmp 4) rfl w.heap.size (ev ha) _ _ (0, 0) _ (hP 4 _ rfl rfl) Tryz.underlying24 rfl (by kernel_rfl) ?_; exact hK _ w' nofun (keep_same hS) rfl
    · intro a w' hS hO hF' hP K hK; obtain ⟨_, f0, rfl⟩ := (hF' 0 rfl).1 14 _ rfl rfl; refine if_ok (by rfl) ?_; refine wp_calls rfl (enters_of Tryz.func93 (by kernel_rfl) rfl) (args := #[(.agg #[.slice A n c, .bool s])]) (by simp [Act.eval, f0]) ?_; obtain ⟨O2, r1, r2, BB⟩ := id hS; have hz := BB.size; refine (HNx.out _ r1).mono ?_; rintro e w2 ⟨A, n, c, rfl, hc, hn, hN, hb⟩; exact ⟨_, rfl, hK _ w2 nofun (keep_below hb hS) ⟨A, n, c, rfl, hc, hn, hN.mono hz⟩⟩
    · intro a w' hS hO hF' hP K hK; have ha := hO 5 (by rfl); refine if_ok (by rfl) ?_; refine wp_load_row 24 (.tmp 5) rfl (w.heap.size + 1) (ev ha) _ _ (0, 0) _ (hP 5 _ rfl rfl) Tryz.underlying24 rfl (by kernel_rfl) ?_; exact hK _ w' nofun (keep_same hS) rfl
    · intro a w' hS hO hF' hP K hK; obtain ⟨_, f0, rfl⟩ := (hF' 2 rfl).1 16 _ rfl rfl; refine if_ok (by rfl) ?_; refine wp_calls rfl (enters_of Tryz.func93 (by kernel_rfl) rfl) (args := #[(.agg #[.slice Y m d, .bool t])]) (by simp [Act.eval, f0]) ?_; obtain ⟨O2, r1, r2, BB⟩ := id hS; have hz := BB.size; refine (HNy.out _ r2).mono ?_; rintro e w2 ⟨A, n, c, rfl, hc, hn, hN, hb⟩; exact ⟨_, rfl, hK _ w2 nofun (keep_below hb hS) ⟨A, n, c, rfl, hc, hn, hN.mono hz⟩⟩
    · intro a w' hS hO hF' hP K hK; have O := hP 4 _ rfl rfl; have ha := hO 4 (by rfl); obtain ⟨_, f0, A0, n0, c0, rfl, hc0, hn0, hr0⟩ := (hF' 1 rfl).1 15 _ rfl rfl; refine if_ok (by rfl) ?_; refine wp_store_row _ _ _ rfl w.heap.size _ (ev ha) (ev f0) _ _ O vec_size rfl (by simp [Value.oneCell']) ?_; exact hK _ _ (fun _ => rfl) (keep_store O inferInstance ⟨inferInstance, inferInstance, inferInstance, inferInstance, inferInstance, trivial⟩ ⟨inferInstance, inferInstance, inferInstance, inferInstance, inferInstance, trivial⟩ hS) ⟨A0, n0, c0, Own.row O, hc0, hn0, hr0.row O⟩
    · intro a w' hS hO hF' hP K hK; have O := hP 5 _ rfl rfl; have ha := hO 5 (by rfl); obtain ⟨_, f0, A0, n0, c0, rfl, hc0, hn0, hr0⟩ := (hF' 3 rfl).1 17 _ rfl rfl; refine if_ok (by rfl) ?_; refine wp_store_row _ _ _ rfl (w.heap.size + 1) _ (ev ha) (ev f0) _ _ O vec_size rfl (by simp [Value.oneCell']) ?_; exact hK _ _ (fun _ => rfl) (keep_store O inferInstance ⟨inferInstance, inferInstance, inferInstance, inferInstance, inferInstance, trivial⟩ ⟨inferInstance, inferInstance, inferInstance, inferInstance, inferInstance, trivial⟩ hS) ⟨A0, n0, c0, Own.row O, hc0, hn0, hr0.row O⟩
  · intro vs u hl hS hV
    match vs, hl, hV with
    | [v0, v1, v2, v3, v4, v5], _, hV =>
      obtain rfl := hV 0 _ rfl
      obtain ⟨A1, nn1, c1, rfl, hc1, hnn1, hN1⟩ := hV 1 _ rfl
      obtain rfl := hV 2 _ rfl
      obtain ⟨A3, nn3, c3, rfl, hc3, hnn3, hN3⟩ := hV 3 _ rfl
      obtain ⟨A4, nn4, c4, O4, hc4, hnn4, hN4⟩ := hV 4 _ rfl
      obtain ⟨A5, nn5, c5, O5, hc5, hnn5, hN5⟩ := hV 5 _ rfl
      simp only [puts, Act.put, List.setIfInBounds_toArray, List.set_cons_zero, List.set_cons_succ]
      obtain ⟨O2, r1, r2, BB⟩ := hS
      clear hV
      replace O2 : Own u (w.heap.size + 1 + 1) 24 #[.slice none 0 0, .bool false] := O2
      replace r1 : Rb u A n l := r1
      replace r2 : Rb u Y m k := r2
      replace BB : Below w.heap.size w u := BB
      have e4 : N = nn4 := hlx.symm.trans hN4.len
      subst e4
      have e5 : M = nn5 := hly.symm.trans hN5.len
      subst e5
      have N4 := hN4
      have N5 := hN5
      clear hN4 hN5 hN1 hN3 r1 r2 HNx HNy
      replace O4 : Own u w.heap.size 24 #[.slice A4 N c4, .bool sx] := O4
      replace O5 : Own u (w.heap.size + 1) 24 #[.slice A5 M c5, .bool sy] := O5
      replace N4 : Nb u w.heap.size A4 N c4 lx := N4
      replace N5 : Nb u w.heap.size A5 M c5 ly := N5
      have zO40 := O4.cell 0
      have zO41 := O4.cell 1
      have yO40 := O4.free 0
      have yO41 := O4.free 1
      have zO50 := O5.cell 0
      have zO51 := O5.cell 1
      have yO50 := O5.free 0
      have yO51 := O5.free 1
      have zO20 := O2.cell 0
      have zO21 := O2.cell 1
      have yO20 := O2.free 0
      have yO21 := O2.free 1
      cases hky : knL ly
      · have e9 := Lib.hid (show allV 2 N sx = shW op ⟨lx, sx⟩ ⟨ly, sy⟩ from by unfold shW; rw [hky]; subst hlx; rfl)
        have HL := Lib.hid (fun (u : World) (h : Rb u A5 M ly) => ((kn_of (s := sy) oky).trans hky) ▸ rKnown_any A5 M c5 sy ly u h (by omega))
        clear hky oky
        go_wp2_with (first | (go_at_call 32; (with_reducible refine (HL.out _ N5.rd).mono ?_); rintro e w1 ⟨rfl, hb⟩; replace BB := below_step BB hb; replace O4 := O4.step hb; replace O5 := O5.step hb; replace O2 := O2.step hb; replace N4 := N4.step hb; replace N5 := N5.step hb; (try clear zO40 zO41 yO40 yO41 zO50 zO51 yO50 yO51 zO20 zO21 yO20 yO21); have zO40 := O4.cell 0; have zO41 := O4.cell 1; have yO40 := O4.free 0; have yO41 := O4.free 1; have zO50 := O5.cell 0; have zO51 := O5.cell 1; have yO50 := O5.free 0; have yO51 := O5.free 1; have zO20 := O2.cell 0; have zO21 := O2.cell 1; have yO20 := O2.free 0; have yO21 := O2.free 1) | (go_at_call 53; refine (HF.out _ _ (by decide)).mono ?_; rintro e w9 ⟨A9, c9, rfl, n9, hb9⟩; have L1 := O2.lt; have W2 := O2.step hb9; have qW20 := W2.cell 0; have qW21 := W2.cell 1; have fW20 := W2.free 0; have fW21 := W2.free 1))
        exact ret_vec Tryz.results102 rfl rfl (W2.put2 _ _) (e9.out ▸ mk_ret (v := allV 2 N sx) ((n9.far2 L1 _ _).mono BB.size) (below_set2 (below_step BB hb9) (by omega) _ _))
      have HL := Lib.hid (fun (u : World) (h : Rb u A5 M ly) => ((kn_of (s := sy) oky).trans hky) ▸ rKnown_any A5 M c5 sy ly u h (by omega))
      have e8 : shW op ⟨lx, sx⟩ ⟨ly, sy⟩ = ⟨tab N fun i => atI lx (frW op i (shN (num ly) N)) (zfW op ⟨lx, sx⟩), sx⟩ := by unfold shW; rw [hky]; subst hlx; rfl
      have HU0 := Lib.hid (fun (X : Option Addr) (cX : Nat) (u : World) (h : B.Rd u X M (num ly)) (hc : M ≤ cX) => B.rUint_any X M cX (num ly) u h (by omega) hc)
      clear hky oky
      obtain ⟨uo, ui, D, hu, hDN, hsh, htest⟩ : ∃ (uo : Bool) (ui : Int) (D : Nat), (B.uOk (num ly) = uo ∧ B.uVal (num ly) = ui) ∧ D ≤ 128 ∧ shN (num ly) N = D ∧ ((uo = true ∧ decide (ui < (N : Int)) = true ∧ IntKind.i64.wrap ui = (D : Int)) ∨ (uo = true ∧ decide (ui < (N : Int)) = false ∧ (N : Int) = (D : Int)) ∨ (uo = false ∧ (N : Int) = (D : Int))) := sh_ways (num ly) N hN
      rw [hsh] at e8
      have HU := Lib.hid (fun (X : Option Addr) (cX : Nat) (u : World) (h : B.Rd u X M (num ly)) (hc : M ≤ cX) => hu.2 ▸ hu.1 ▸ HU0.out X cX u h hc)
      have hw64 : IntKind.u64.wrap (N : Int) = (N : Int) := IntWalk.u64_in _ (by omega)
      clear HU0 hu hsh
      rcases hop.out with hl | rfl | rfl
      · have e9 := Lib.hid (show (⟨tab N fun i => atI lx (frL i D) 0, sx⟩ : V) = shW op ⟨lx, sx⟩ ⟨ly, sy⟩ from by rcases hl with rfl | rfl <;> exact e8.symm)
        clear e8 hop
        have hzn : (0 : Int) ≤ 0 := by decide
        rcases hl with rfl | rfl <;> rcases htest with ⟨rfl, ht, hd⟩ | ⟨rfl, ht, hq⟩ | ⟨rfl, hq⟩
        all_goals
          try replace hq := Lib.hid hq
          go_wp2_with (first | (go_at_call 32; (with_reducible refine (HL.out _ N5.rd).mono ?_); rintro e w1 ⟨rfl, hb⟩; replace BB := below_step BB hb; replace O4 := O4.step hb; replace O5 := O5.step hb; replace O2 := O2.step hb; replace N4 := N4.step hb; replace N5 := N5.step hb; (try clear zO40 zO41 yO40 yO41 zO50 zO51 yO50 yO51 zO20 zO21 yO20 yO21); have zO40 := O4.cell 0; have zO41 := O4.cell 1; have yO40 := O4.free 0; have yO41 := O4.free 1; have zO50 := O5.cell 0; have zO51 := O5.cell 1; have yO50 := O5.free 0; have yO51 := O5.free 1; have zO20 := O2.cell 0; have zO21 := O2.cell 1; have yO20 := O2.free 0; have yO21 := O2.free 1) | (go_at_call 114; refine (rBools_any _ _ _ _ _ _ N5.rd (by omega)).mono ?_; rintro e w1 ⟨X5, cX5, rfl, hX5, hb⟩; replace BB := below_step BB hb; replace O4 := O4.step hb; replace O5 := O5.step hb; replace O2 := O2.step hb; replace N4 := N4.step hb; replace N5 := N5.step hb; (try clear zO40 zO41 yO40 yO41 zO50 zO51 yO50 yO51 zO20 zO21 yO20 yO21); have zO40 := O4.cell 0; have zO41 := O4.cell 1; have yO40 := O4.free 0; have yO41 := O4.free 1; have zO50 := O5.cell 0; have zO51 := O5.cell 1; have yO50 := O5.free 0; have yO51 := O5.free 1; have zO20 := O2.cell 0; have zO21 := O2.cell 1; have yO20 := O2.free 0; have yO21 := O2.free 1) | (go_at_call 181; refine (HU.out _ _ _ hX5.rd hX5.le).mono ?_; rintro e w1 ⟨rfl, hb⟩; clear hX5; replace BB := below_step BB hb; replace O4 := O4.step hb; replace O5 := O5.step hb; replace O2 := O2.step hb; replace N4 := N4.step hb; replace N5 := N5.step hb; (try clear zO40 zO41 yO40 yO41 zO50 zO51 yO50 yO51 zO20 zO21 yO20 yO21); have zO40 := O4.cell 0; have zO41 := O4.cell 1; have yO40 := O4.free 0; have yO41 := O4.free 1; have zO50 := O5.cell 0; have zO51 := O5.cell 1; have yO50 := O5.free 0; have yO51 := O5.free 1; have zO20 := O2.cell 0; have zO21 := O2.cell 1; have yO20 := O2.free 0; have yO21 := O2.free 1))
          try rw [hq.out]
          have L1 := BB.size
          have LN := N4.own h0
          obtain ⟨b1, cs1, rfl, _, _, _⟩ := LN
          have hr9 : rdo w1.heap.size (some ⟨b1, 0, none⟩) N lx (w1.alloc (.cells #[.slice none 0 0, .bool sx] 24)) := rdo.of N4.rd (below_new (Below.refl _ _) (.cells #[.slice none 0 0, .bool sx] 24))
          have V0 := O4.alloc (.cells #[.slice none 0 0, .bool sx] 24)
          have V1 := O2.alloc (.cells #[.slice none 0 0, .bool sx] 24)
          have V9 := Own.at1 w1 24 #[.slice none 0 0, .bool sx] (g := w1.heap.size) rfl
          have B2 := below_new BB (.cells #[.slice none 0 0, .bool sx] 24)
          have hz0 : w1.heap.size ≤ (w1.alloc (.cells #[.slice none 0 0, .bool sx] 24)).heap.size := by simp
          have L2 := O2.lt
          replace hlx := Lib.hid hlx
          clear O4 O5 O2 N4 N5 BB zO40 zO41 yO40 yO41 zO50 zO51 yO50 yO51 zO20 zO21 yO20 yO21
          generalize w1.alloc (.cells #[.slice none 0 0, .bool sx] 24) = W0 at *
          generalize w1.heap.size = g9 at *
          go_loopw [12] (fun i wr => ∃ (j : Nat) (A' : Option Addr) (c' : Nat), j ≤ N ∧ i = .int .i64 j ∧ Hid (Own wr w.heap.size 24 #[.slice (some ⟨b1, 0, none⟩) N c4, .bool sx]) ∧ Hid (Own wr (w.heap.size + 1 + 1) 24 #[.slice none 0 0, .bool false]) ∧ Hid (Own wr g9 24 #[.slice A' j c', .bool sx]) ∧ Hid (Nb wr g9 A' j c' (tab j (fun i => atI lx (frL i D) 0))) ∧ Hid (rdo g9 (some ⟨b1, 0, none⟩) N lx wr ∧ g9 ≤ wr.heap.size ∧ Below w.heap.size w wr)) (fun i _ => N - (intOf i).toNat)
          case atStart => exact ⟨0, none, 0, Nat.zero_le _, rfl, Lib.hid V0, Lib.hid V1, Lib.hid V9, Lib.hid (Nb.nil _ _), Lib.hid ⟨hr9, hz0, B2⟩⟩
          case round =>
            clear V0 V1 V9 hr9 B2 hz0
            obtain ⟨j, A', c', hj, rfl, H0, H1, H9, HN9, HB⟩ := hrel
            have p0 := H0.out.cell 0
            have p1 := H0.out.cell 1
            by_cases hlt : j < N
            · have i1 : (j : Int) < N := by omega
              have hS0 : owns w.heap.size #[.slice (some ⟨b1, 0, none⟩) N c4, .bool sx] wr.drew ∧ (owns (w.heap.size + 1 + 1) #[.slice none 0 0, .bool false] wr.drew ∧ (rdo g9 (some ⟨b1, 0, none⟩) N lx wr.drew ∧ (szW g9 wr.drew ∧ blw w wr.drew))) := ⟨H0.out, H1.out, HB.out.1, HB.out.2.1, HB.out.2.2.drew⟩
              have hP1 : nbs g9 A' j c' (tab j (fun i => atI lx (frL i D) 0)) wr.drew := HN9.out
              have hP2 : owns g9 #[.slice A' j c', .bool sx] wr.drew := H9.out
              haveI : Over w g9 := ⟨by omega⟩
              haveI : LeB w g9 := ⟨by omega⟩
              haveI : Apart g9 w.heap.size := ⟨by omega⟩
              haveI : Apart g9 (w.heap.size + 1 + 1) := ⟨by omega⟩
              obtain ⟨z, hzz⟩ : ∃ z, (frL (j : Int) D) = z := ⟨_, rfl⟩
              have hz := wr_frL (j := j) (D := D) hzz (by omega) (by omega)
              by_cases hin : 0 ≤ z ∧ z < N
              · obtain ⟨p, rfl⟩ : ∃ p : Nat, z = p := ⟨z.toNat, by omega⟩
                have hpN : p < N := by omega
                have d2 : (0 : Int) ≤ p := by omega
                have d3 : (p : Int) < N := by omega
                have hext := Lib.hid (show atI lx (frL (j : Int) D) 0 = nth lx p from atI_in hzz (by rw [hlx.out]; exact hpN))
                replace hzz := Lib.hid hzz
                clear H0 H1 H9 HN9 HB hin
                go_wp2
                refine region_k (by kernel_rfl) (fun u => owns w.heap.size #[.slice (some ⟨b1, 0, none⟩) N c4, .bool sx] u ∧ (owns (w.heap.size + 1 + 1) #[.slice none 0 0, .bool false] u ∧ (rdo g9 (some ⟨b1, 0, none⟩) N lx u ∧ (szW g9 u ∧ blw w u)))) [tru, tru, tru, tru, tru, tru, tru, tru, nbs g9 A' j c' (tab j (fun i => atI lx (frL i D) 0)), tru, owns g9 #[.slice A' j c', .bool sx]] [isV (.pointer (some ⟨g9, 0, none⟩)), isV (.slice A' j c'), isV (.pointer (some ⟨w.heap.size, 0, none⟩)), isV (.slice (some ⟨b1, 0, none⟩) N c4), isV (.int .i64 p), isV (.pointer (some ⟨b1, 0 + p, none⟩)), isV (.int .u8 (nth lx p)), isOne g9 (nth lx p), isNbL g9 (j + 1) (tab j (fun i => atI lx (frL i D) 0) ++ [(nth lx p)]), isV (.pointer (some ⟨g9, 0, none⟩)), didL g9 g9 (j + 1) (tab j (fun i => atI lx (frL i D) 0) ++ [(nth lx p)]) sx] [some 90, some 91, some 92, some 93, some 94, some 95, some 96, some 97, some 98, some 99, none] [[], [0], [], [2], [], [3, 4], [5], [6], [1, 7], [0, 1, 2, 3, 4, 5, 6, 7, 8], [9, 8, 8, 0, 1, 2, 3, 4, 5, 6, 7, 8]] [[], [0], [], [2], [], [3, 4], [5], [6], [1, 7], [], [9, 8]] [[], [], [], [], [], [], [], [], [7], [], []] [[], [], [], [], [], [], [], [], [7, 10], [], []] (by kernel_rfl) (by kernel_rfl) (by kernel_rfl) (by kernel_rfl) (by kernel_rfl) rfl (by kernel_rfl) (by kernel_rfl) (by kernel_rfl) hS0 (by
                  intro U hU
                  simp only [List.mem_cons, List.not_mem_nil, or_false] at hU
                  rcases hU with rfl | rfl | rfl | rfl | rfl | rfl | rfl | rfl | rfl | rfl | rfl
                  all_goals first | trivial | exact hP1 | exact hP2) ?_ ?_
                · refine ⟨?_, ?_, ?_, ?_, ?_, ?_, ?_, ?_, ?_, ?_, ?_, trivial⟩
                  · intro a w' hS hO hF' hP K hK; have ha := hO 11 (by rfl); refine if_ok (by rfl) ?_; refine wp_fa0 _ rfl (ev ha) ?_; exact hK _ w' nofun (keepK_same hS) rfl
                  · intro a w' hS hO hF' hP K hK; have O := hP 10 _ (by rfl) rfl; obtain ⟨_, f0, rfl⟩ := (hF' 0 rfl).1 90 _ rfl rfl; refine if_ok (by rfl) ?_; refine wp_ldS _ rfl (ev f0) (O.cell 0) ?_; exact hK _ w' nofun (keepK_same hS) rfl
                  · intro a w' hS hO hF' hP K hK; have ha := hO 4 (by rfl); refine if_ok (by rfl) ?_; refine wp_fa0 _ rfl (ev ha) ?_; exact hK _ w' nofun (keepK_same hS) rfl
                  · intro a w' hS hO hF' hP K hK; obtain ⟨_, f0, rfl⟩ := (hF' 2 rfl).1 92 _ rfl rfl; refine if_ok (by rfl) ?_; refine wp_ldS _ rfl (ev f0) (hS.1.cell 0) ?_; exact hK _ w' nofun (keepK_same hS) rfl
                  · intro a w' hS hO hF' hP K hK; have ha := hO 13 (by rfl); refine if_ok (by rfl) ?_; unfold Oper.wp execOp; simp only [Sem.run_pure, ev ha]; exact hK _ w' nofun (keepK_same hS) rfl
                  · intro a w' hS hO hF' hP K hK; obtain ⟨_, f0, rfl⟩ := (hF' 3 rfl).1 93 _ rfl rfl; obtain ⟨_, f1, rfl⟩ := (hF' 4 rfl).1 94 _ rfl rfl; refine if_ok (by rfl) ?_; refine wp_ix _ _ rfl (ev f0) (ev f1) hpN ?_; exact hK _ w' nofun (keepK_same hS) rfl
                  · intro a w' hS hO hF' hP K hK; obtain ⟨_, f0, rfl⟩ := (hF' 5 rfl).1 95 _ rfl rfl; refine if_ok (by rfl) ?_; refine wp_ldU _ rfl (ev f0) (rdo_cell hS.2.2.1 (k := p) hpN) ?_; exact hK _ w' nofun (keepK_same hS) rfl
                  · intro a w' hS hO hF' hP K hK; obtain ⟨_, f0, rfl⟩ := (hF' 6 rfl).1 96 _ rfl rfl; have hsz := hS.2.2.2.1; refine if_ok (by rfl) ?_; refine wp_bs1 _ rfl (ev f0) ?_; exact hK _ _ nofun (keepK_below (below_new (Below.refl _ _) _) hS) ⟨_, rfl, Own.new _ _ _, hsz⟩
                  · intro a w' hS hO hF' hP K hK; obtain ⟨_, f0, rfl⟩ := (hF' 1 rfl).1 91 _ rfl rfl; obtain ⟨_, f1, g0, rfl, hO1, hg1⟩ := (hF' 7 rfl).1 97 _ rfl rfl; have hN := hP 8 _ (by rfl) rfl; have hsz := hS.2.2.2.1; refine if_ok (by rfl) ?_; refine wp_cat _ _ rfl rfl hsz (ev f0) hN (ev f1) (Rb.of_own hO1 (nnL_one (hnn.nth _)) rfl) (by omega) ?_; intro A9 c9 w9 hN9 hg9; exact hK _ w9 nofun (keepK_grown hN.rowB hg9 hsz inferInstance ⟨inferInstance, inferInstance, inferInstance, inferInstance, inferInstance, inferInstance, inferInstance, inferInstance, inferInstance, inferInstance, trivial⟩ ⟨.inr inferInstance, .inr inferInstance, .inr inferInstance, .inr inferInstance, .inr inferInstance, .inr inferInstance, .inr inferInstance, .inl rfl, .inl rfl, .inr inferInstance, .inl rfl, trivial⟩ hS) ⟨A9, c9, rfl, hN9⟩
                  · intro a w' hS hO hF' hP K hK; have ha := hO 11 (by rfl); refine if_ok (by rfl) ?_; refine wp_fa0 _ rfl (ev ha) ?_; exact hK _ w' nofun (keepK_same hS) rfl
                  · intro a w' hS hO hF' hP K hK; obtain ⟨_, f0, rfl⟩ := (hF' 9 rfl).1 99 _ rfl rfl; obtain ⟨_, f1, A9, c9, rfl, hN⟩ := (hF' 8 rfl).1 98 _ rfl rfl; have O := hP 10 _ (by rfl) rfl; refine if_ok (by rfl) ?_; refine wp_st0 _ _ rfl (ev f0) (ev f1) O ?_; exact hK _ _ (fun _ => rfl) (keepK_store O inferInstance ⟨inferInstance, inferInstance, inferInstance, inferInstance, inferInstance, inferInstance, inferInstance, inferInstance, inferInstance, inferInstance, trivial⟩ ⟨inferInstance, inferInstance, inferInstance, inferInstance, inferInstance, inferInstance, inferInstance, inferInstance, inferInstance, inferInstance, trivial⟩ hS) ⟨A9, c9, O.row, hN.row O⟩
                · intro vs u hl hS hV
                  match vs, hl, hV with
                  | [v0, v1, v2, v3, v4, v5, v6, v7, v8, v9, v10], _, hV =>
                    simp only [puts, Act.put, List.setIfInBounds_toArray, List.set_cons_zero, List.set_cons_succ]
                    obtain ⟨A9, c9, OU, hN9⟩ := hV 10 _ rfl rfl
                    have hbx := hS.2.2.2.2
                    have hsz := hS.2.2.2.1
                    have hrd := hS.2.2.1
                    have h0 := hS.1
                    have h1 := hS.2.1
                    clear hV hS
                    go_wp2
                    go_roundw
                    case rel => exact ⟨j + 1, A9, c9, by omega, by go_num, Lib.hid h0, Lib.hid h1, Lib.hid OU, Lib.hid (by rw [tab_snoc, hext.out]; exact hN9), Lib.hid ⟨hrd, hsz, hbx⟩⟩
                    case measure => simp [intOf]; omega
              · have hext := Lib.hid (show atI lx (frL (j : Int) D) 0 = 0 from atI_out hzz (by rw [hlx.out]; omega))
                have k0 := H9.out.cell 0
                have U9 := H9.out.alloc (.cells #[.int .u8 0] 48)
                have U1 := H1.out.alloc (.cells #[.int .u8 0] 48)
                have U0 := H0.out.alloc (.cells #[.int .u8 0] 48)
                have UN := HN9.out.alloc (.cells #[.int .u8 0] 48)
                have RB : Rb (wr.alloc (.cells #[.int .u8 0] 48)) (some ⟨wr.heap.size, 0, none⟩) 1 [0] := Rb.of_own (Own.new wr _ _) (nnL_one hzn) rfl
                have hB1 := below_new HB.out.2.2 (.cells #[.int .u8 0] 48)
                have hr1 := (show Stb (rdo g9 (some ⟨b1, 0, none⟩) N lx) from inferInstance).st _ _ (below_new (Below.refl _ _) (.cells #[.int .u8 0] 48)) HB.out.1
                have hsz : g9 ≤ (wr.alloc (.cells #[.int .u8 0] 48)).heap.size := Nat.le_trans HB.out.2.1 (by simp)
                have L9 := L1
                clear hS0 hP1 hP2 H0 H1 H9 HN9 HB
                replace hzz := Lib.hid hzz
                have hgg : ∀ A9 c9 w9, Nb w9 g9 A9 (j + 1) c9 (tab j (fun i => atI lx (frL i D) 0) ++ [0]) → (wr.alloc (.cells #[.int .u8 0] 48)).grownBy w9 (Value.slice A' j c').ownBlock → Own w9 w.heap.size 24 #[.slice (some ⟨b1, 0, none⟩) N c4, .bool sx] ∧ Own w9 (w.heap.size + 1 + 1) 24 #[.slice none 0 0, .bool false] ∧ Own w9 g9 24 #[.slice A' j c', .bool sx] ∧ rdo g9 (some ⟨b1, 0, none⟩) N lx w9 ∧ g9 ≤ w9.heap.size ∧ Below w.heap.size w w9 := fun A9 c9 w9 hN9 hg9 =>
                  ⟨U0.catG (by decide) UN hg9, U1.catG (by decide) UN hg9, U9.catG (by decide) UN hg9, (show Sgr g9 (rdo g9 (some ⟨b1, 0, none⟩) N lx) from inferInstance).st _ _ _ UN.rowB hg9 hsz hr1, Nat.le_trans hsz hg9.size, Below.grown hB1 hg9 hB1.size (fun k hk => Nat.le_trans (by omega) (UN.rowB k hk).1)⟩
                replace hgg := Lib.hid hgg
                clear U0 U1 hr1 hB1 L9
                rcases (show z < 0 ∨ (0 ≤ z ∧ (N : Int) ≤ z) by omega) with hz1 | ⟨hz1, hz2⟩
                · have d2 : decide (0 ≤ z) = false := by simp; omega
                  clear hin hz1
                  go_wp2_with (at_builtin; refine wpList_catG rfl (.tmp 101) (.tmp 103) rfl rfl hsz rfl UN rfl RB (by omega) ?_; intro A9 c9 w9 hN9 hg9; obtain ⟨V0, V1, V9, hr9, hs9, hb9⟩ := hgg.out _ _ _ hN9 hg9; have v0 := V9.cell 0; have v1 := V9.free 0)
                  rw [set0_row V9]
                  go_roundw
                  case rel =>
                    haveI : Over w g9 := ⟨by omega⟩
                    exact ⟨j + 1, A9, c9, by omega, by go_num, Lib.hid (V0.rowFar (by omega)), Lib.hid (V1.rowFar (by omega)), Lib.hid V9.row, Lib.hid (by rw [tab_snoc, hext.out]; exact hN9.row V9), Lib.hid ⟨(show Sst g9 (rdo g9 (some ⟨b1, 0, none⟩) N lx) from inferInstance).st _ _ _ _ _ _ V9 hr9, by simpa [World.setRow] using hs9, below_row hb9 (by omega) _⟩⟩
                  case measure => simp [intOf]; omega
                · have d2 : decide (0 ≤ z) = true := by simpa using hz1
                  have d3 : decide (z < (N : Int)) = false := by simp; omega
                  clear hin hz1 hz2
                  go_wp2_with (at_builtin; refine wpList_catG rfl (.tmp 101) (.tmp 103) rfl rfl hsz rfl UN rfl RB (by omega) ?_; intro A9 c9 w9 hN9 hg9; obtain ⟨V0, V1, V9, hr9, hs9, hb9⟩ := hgg.out _ _ _ hN9 hg9; have v0 := V9.cell 0; have v1 := V9.free 0)
                  rw [set0_row V9]
                  go_roundw
                  case rel =>
                    haveI : Over w g9 := ⟨by omega⟩
                    exact ⟨j + 1, A9, c9, by omega, by go_num, Lib.hid (V0.rowFar (by omega)), Lib.hid (V1.rowFar (by omega)), Lib.hid V9.row, Lib.hid (by rw [tab_snoc, hext.out]; exact hN9.row V9), Lib.hid ⟨(show Sst g9 (rdo g9 (some ⟨b1, 0, none⟩) N lx) from inferInstance).st _ _ _ _ _ _ V9 hr9, by simpa [World.setRow] using hs9, below_row hb9 (by omega) _⟩⟩
                  case measure => simp [intOf]; omega
            · obtain rfl : j = N := by omega
              have g0 := H1.out.cell 0
              have g1 := H1.out.cell 1
              have g2 := H1.out.free 0
              have g3 := H1.out.free 1
              have k0 := H9.out.cell 0
              have k1 := H9.out.cell 1
              have HBo := HB.out.2.2
              clear hlt
              go_wp2
              exact ret_vec Tryz.results102 rfl rfl (H1.out.put2 _ _) (e9.out ▸ mk_ret (v := ⟨tab j (fun i => atI lx (frL i D) 0), sx⟩) (((HN9.out.setT H1.out (by decide) 0 _).setT (H1.out.put 0 _) (by decide) 1 _).mono (by omega)) (below_set2 HBo (by omega) _ _))
      · have e9 := Lib.hid (show (⟨tab N fun i => atI lx (frR i D) 0, sx⟩ : V) = shW 42 ⟨lx, sx⟩ ⟨ly, sy⟩ from e8.symm)
        clear e8 hop
        have hzn : (0 : Int) ≤ 0 := by decide
        rcases htest with ⟨rfl, ht, hd⟩ | ⟨rfl, ht, hq⟩ | ⟨rfl, hq⟩
        all_goals
          try replace hq := Lib.hid hq
          go_wp2_with (first | (go_at_call 32; (with_reducible refine (HL.out _ N5.rd).mono ?_); rintro e w1 ⟨rfl, hb⟩; replace BB := below_step BB hb; replace O4 := O4.step hb; replace O5 := O5.step hb; replace O2 := O2.step hb; replace N4 := N4.step hb; replace N5 := N5.step hb; (try clear zO40 zO41 yO40 yO41 zO50 zO51 yO50 yO51 zO20 zO21 yO20 yO21); have zO40 := O4.cell 0; have zO41 := O4.cell 1; have yO40 := O4.free 0; have yO41 := O4.free 1; have zO50 := O5.cell 0; have zO51 := O5.cell 1; have yO50 := O5.free 0; have yO51 := O5.free 1; have zO20 := O2.cell 0; have zO21 := O2.cell 1; have yO20 := O2.free 0; have yO21 := O2.free 1) | (go_at_call 114; refine (rBools_any _ _ _ _ _ _ N5.rd (by omega)).mono ?_; rintro e w1 ⟨X5, cX5, rfl, hX5, hb⟩; replace BB := below_step BB hb; replace O4 := O4.step hb; replace O5 := O5.step hb; replace O2 := O2.step hb; replace N4 := N4.step hb; replace N5 := N5.step hb; (try clear zO40 zO41 yO40 yO41 zO50 zO51 yO50 yO51 zO20 zO21 yO20 yO21); have zO40 := O4.cell 0; have zO41 := O4.cell 1; have yO40 := O4.free 0; have yO41 := O4.free 1; have zO50 := O5.cell 0; have zO51 := O5.cell 1; have yO50 := O5.free 0; have yO51 := O5.free 1; have zO20 := O2.cell 0; have zO21 := O2.cell 1; have yO20 := O2.free 0; have yO21 := O2.free 1) | (go_at_call 181; refine (HU.out _ _ _ hX5.rd hX5.le).mono ?_; rintro e w1 ⟨rfl, hb⟩; clear hX5; replace BB := below_step BB hb; replace O4 := O4.step hb; replace O5 := O5.step hb; replace O2 := O2.step hb; replace N4 := N4.step hb; replace N5 := N5.step hb; (try clear zO40 zO41 yO40 yO41 zO50 zO51 yO50 yO51 zO20 zO21 yO20 yO21); have zO40 := O4.cell 0; have zO41 := O4.cell 1; have yO40 := O4.free 0; have yO41 := O4.free 1; have zO50 := O5.cell 0; have zO51 := O5.cell 1; have yO50 := O5.free 0; have yO51 := O5.free 1; have zO20 := O2.cell 0; have zO21 := O2.cell 1; have yO20 := O2.free 0; have yO21 := O2.free 1))
          try rw [hq.out]
          have L1 := BB.size
          have LN := N4.own h0
          obtain ⟨b1, cs1, rfl, _, _, _⟩ := LN
          have hr9 : rdo w1.heap.size (some ⟨b1, 0, none⟩) N lx (w1.alloc (.cells #[.slice none 0 0, .bool sx] 24)) := rdo.of N4.rd (below_new (Below.refl _ _) (.cells #[.slice none 0 0, .bool sx] 24))
          have V0 := O4.alloc (.cells #[.slice none 0 0, .bool sx] 24)
          have V1 := O2.alloc (.cells #[.slice none 0 0, .bool sx] 24)
          have V9 := Own.at1 w1 24 #[.slice none 0 0, .bool sx] (g := w1.heap.size) rfl
          have B2 := below_new BB (.cells #[.slice none 0 0, .bool sx] 24)
          have hz0 : w1.heap.size ≤ (w1.alloc (.cells #[.slice none 0 0, .bool sx] 24)).heap.size := by simp
          have L2 := O2.lt
          replace hlx := Lib.hid hlx
          clear O4 O5 O2 N4 N5 BB zO40 zO41 yO40 yO41 zO50 zO51 yO50 yO51 zO20 zO21 yO20 yO21
          generalize w1.alloc (.cells #[.slice none 0 0, .bool sx] 24) = W0 at *
          generalize w1.heap.size = g9 at *
          go_loopw [12] (fun i wr => ∃ (j : Nat) (A' : Option Addr) (c' : Nat), j ≤ N ∧ i = .int .i64 j ∧ Hid (Own wr w.heap.size 24 #[.slice (some ⟨b1, 0, none⟩) N c4, .bool sx]) ∧ Hid (Own wr (w.heap.size + 1 + 1) 24 #[.slice none 0 0, .bool false]) ∧ Hid (Own wr g9 24 #[.slice A' j c', .bool sx]) ∧ Hid (Nb wr g9 A' j c' (tab j (fun i => atI lx (frR i D) 0))) ∧ Hid (rdo g9 (some ⟨b1, 0, none⟩) N lx wr ∧ g9 ≤ wr.heap.size ∧ Below w.heap.size w wr)) (fun i _ => N - (intOf i).toNat)
          case atStart => exact ⟨0, none, 0, Nat.zero_le _, rfl, Lib.hid V0, Lib.hid V1, Lib.hid V9, Lib.hid (Nb.nil _ _), Lib.hid ⟨hr9, hz0, B2⟩⟩
          case round =>
            clear V0 V1 V9 hr9 B2 hz0
            obtain ⟨j, A', c', hj, rfl, H0, H1, H9, HN9, HB⟩ := hrel
            have p0 := H0.out.cell 0
            have p1 := H0.out.cell 1
            by_cases hlt : j < N
            · have i1 : (j : Int) < N := by omega
              have hS0 : owns w.heap.size #[.slice (some ⟨b1, 0, none⟩) N c4, .bool sx] wr.drew ∧ (owns (w.heap.size + 1 + 1) #[.slice none 0 0, .bool false] wr.drew ∧ (rdo g9 (some ⟨b1, 0, none⟩) N lx wr.drew ∧ (szW g9 wr.drew ∧ blw w wr.drew))) := ⟨H0.out, H1.out, HB.out.1, HB.out.2.1, HB.out.2.2.drew⟩
              have hP1 : nbs g9 A' j c' (tab j (fun i => atI lx (frR i D) 0)) wr.drew := HN9.out
              have hP2 : owns g9 #[.slice A' j c', .bool sx] wr.drew := H9.out
              haveI : Over w g9 := ⟨by omega⟩
              haveI : LeB w g9 := ⟨by omega⟩
              haveI : Apart g9 w.heap.size := ⟨by omega⟩
              haveI : Apart g9 (w.heap.size + 1 + 1) := ⟨by omega⟩
              obtain ⟨z, hzz⟩ : ∃ z, (frR (j : Int) D) = z := ⟨_, rfl⟩
              have hz := wr_frR (j := j) (D := D) hzz (by omega) (by omega)
              by_cases hin : 0 ≤ z ∧ z < N
              · obtain ⟨p, rfl⟩ : ∃ p : Nat, z = p := ⟨z.toNat, by omega⟩
                have hpN : p < N := by omega
                have d2 : (0 : Int) ≤ p := by omega
                have d3 : (p : Int) < N := by omega
                have hext := Lib.hid (show atI lx (frR (j : Int) D) 0 = nth lx p from atI_in hzz (by rw [hlx.out]; exact hpN))
                replace hzz := Lib.hid hzz
                clear H0 H1 H9 HN9 HB hin
                go_wp2
                refine region_k (by kernel_rfl) (fun u => owns w.heap.size #[.slice (some ⟨b1, 0, none⟩) N c4, .bool sx] u ∧ (owns (w.heap.size + 1 + 1) #[.slice none 0 0, .bool false] u ∧ (rdo g9 (some ⟨b1, 0, none⟩) N lx u ∧ (szW g9 u ∧ blw w u)))) [tru, tru, tru, tru, tru, tru, tru, tru, nbs g9 A' j c' (tab j (fun i => atI lx (frR i D) 0)), tru, owns g9 #[.slice A' j c', .bool sx]] [isV (.pointer (some ⟨g9, 0, none⟩)), isV (.slice A' j c'), isV (.pointer (some ⟨w.heap.size, 0, none⟩)), isV (.slice (some ⟨b1, 0, none⟩) N c4), isV (.int .i64 p), isV (.pointer (some ⟨b1, 0 + p, none⟩)), isV (.int .u8 (nth lx p)), isOne g9 (nth lx p), isNbL g9 (j + 1) (tab j (fun i => atI lx (frR i D) 0) ++ [(nth lx p)]), isV (.pointer (some ⟨g9, 0, none⟩)), didL g9 g9 (j + 1) (tab j (fun i => atI lx (frR i D) 0) ++ [(nth lx p)]) sx] [some 90, some 91, some 92, some 93, some 94, some 95, some 96, some 97, some 98, some 99, none] [[], [0], [], [2], [], [3, 4], [5], [6], [1, 7], [0, 1, 2, 3, 4, 5, 6, 7, 8], [9, 8, 8, 0, 1, 2, 3, 4, 5, 6, 7, 8]] [[], [0], [], [2], [], [3, 4], [5], [6], [1, 7], [], [9, 8]] [[], [], [], [], [], [], [], [], [7], [], []] [[], [], [], [], [], [], [], [], [7, 10], [], []] (by kernel_rfl) (by kernel_rfl) (by kernel_rfl) (by kernel_rfl) (by kernel_rfl) rfl (by kernel_rfl) (by kernel_rfl) (by kernel_rfl) hS0 (by
                  intro U hU
                  simp only [List.mem_cons, List.not_mem_nil, or_false] at hU
                  rcases hU with rfl | rfl | rfl | rfl | rfl | rfl | rfl | rfl | rfl | rfl | rfl
                  all_goals first | trivial | exact hP1 | exact hP2) ?_ ?_
                · refine ⟨?_, ?_, ?_, ?_, ?_, ?_, ?_, ?_, ?_, ?_, ?_, trivial⟩
                  · intro a w' hS hO hF' hP K hK; have ha := hO 11 (by rfl); refine if_ok (by rfl) ?_; refine wp_fa0 _ rfl (ev ha) ?_; exact hK _ w' nofun (keepK_same hS) rfl
                  · intro a w' hS hO hF' hP K hK; have O := hP 10 _ (by rfl) rfl; obtain ⟨_, f0, rfl⟩ := (hF' 0 rfl).1 90 _ rfl rfl; refine if_ok (by rfl) ?_; refine wp_ldS _ rfl (ev f0) (O.cell 0) ?_; exact hK _ w' nofun (keepK_same hS) rfl
                  · intro a w' hS hO hF' hP K hK; have ha := hO 4 (by rfl); refine if_ok (by rfl) ?_; refine wp_fa0 _ rfl (ev ha) ?_; exact hK _ w' nofun (keepK_same hS) rfl
                  · intro a w' hS hO hF' hP K hK; obtain ⟨_, f0, rfl⟩ := (hF' 2 rfl).1 92 _ rfl rfl; refine if_ok (by rfl) ?_; refine wp_ldS _ rfl (ev f0) (hS.1.cell 0) ?_; exact hK _ w' nofun (keepK_same hS) rfl
                  · intro a w' hS hO hF' hP K hK; have ha := hO 13 (by rfl); refine if_ok (by rfl) ?_; unfold Oper.wp execOp; simp only [Sem.run_pure, ev ha]; exact hK _ w' nofun (keepK_same hS) rfl
                  · intro a w' hS hO hF' hP K hK; obtain ⟨_, f0, rfl⟩ := (hF' 3 rfl).1 93 _ rfl rfl; obtain ⟨_, f1, rfl⟩ := (hF' 4 rfl).1 94 _ rfl rfl; refine if_ok (by rfl) ?_; refine wp_ix _ _ rfl (ev f0) (ev f1) hpN ?_; exact hK _ w' nofun (keepK_same hS) rfl
                  · intro a w' hS hO hF' hP K hK; obtain ⟨_, f0, rfl⟩ := (hF' 5 rfl).1 95 _ rfl rfl; refine if_ok (by rfl) ?_; refine wp_ldU _ rfl (ev f0) (rdo_cell hS.2.2.1 (k := p) hpN) ?_; exact hK _ w' nofun (keepK_same hS) rfl
                  · intro a w' hS hO hF' hP K hK; obtain ⟨_, f0, rfl⟩ := (hF' 6 rfl).1 96 _ rfl rfl; have hsz := hS.2.2.2.1; refine if_ok (by rfl) ?_; refine wp_bs1 _ rfl (ev f0) ?_; exact hK _ _ nofun (keepK_below (below_new (Below.refl _ _) _) hS) ⟨_, rfl, Own.new _ _ _, hsz⟩
                  · intro a w' hS hO hF' hP K hK; obtain ⟨_, f0, rfl⟩ := (hF' 1 rfl).1 91 _ rfl rfl; obtain ⟨_, f1, g0, rfl, hO1, hg1⟩ := (hF' 7 rfl).1 97 _ rfl rfl; have hN := hP 8 _ (by rfl) rfl; have hsz := hS.2.2.2.1; refine if_ok (by rfl) ?_; refine wp_cat _ _ rfl rfl hsz (ev f0) hN (ev f1) (Rb.of_own hO1 (nnL_one (hnn.nth _)) rfl) (by omega) ?_; intro A9 c9 w9 hN9 hg9; exact hK _ w9 nofun (keepK_grown hN.rowB hg9 hsz inferInstance ⟨inferInstance, inferInstance, inferInstance, inferInstance, inferInstance, inferInstance, inferInstance, inferInstance, inferInstance, inferInstance, trivial⟩ ⟨.inr inferInstance, .inr inferInstance, .inr inferInstance, .inr inferInstance, .inr inferInstance, .inr inferInstance, .inr inferInstance, .inl rfl, .inl rfl, .inr inferInstance, .inl rfl, trivial⟩ hS) ⟨A9, c9, rfl, hN9⟩
                  · intro a w' hS hO hF' hP K hK; have ha := hO 11 (by rfl); refine if_ok (by rfl) ?_; refine wp_fa0 _ rfl (ev ha) ?_; exact hK _ w' nofun (keepK_same hS) rfl
                  · intro a w' hS hO hF' hP K hK; obtain ⟨_, f0, rfl⟩ := (hF' 9 rfl).1 99 _ rfl rfl; obtain ⟨_, f1, A9, c9, rfl, hN⟩ := (hF' 8 rfl).1 98 _ rfl rfl; have O := hP 10 _ (by rfl) rfl; refine if_ok (by rfl) ?_; refine wp_st0 _ _ rfl (ev f0) (ev f1) O ?_; exact hK _ _ (fun _ => rfl) (keepK_store O inferInstance ⟨inferInstance, inferInstance, inferInstance, inferInstance, inferInstance, inferInstance, inferInstance, inferInstance, inferInstance, inferInstance, trivial⟩ ⟨inferInstance, inferInstance, inferInstance, inferInstance, inferInstance, inferInstance, inferInstance, inferInstance, inferInstance, inferInstance, trivial⟩ hS) ⟨A9, c9, O.row, hN.row O⟩
                · intro vs u hl hS hV
                  match vs, hl, hV with
                  | [v0, v1, v2, v3, v4, v5, v6, v7, v8, v9, v10], _, hV =>
                    simp only [puts, Act.put, List.setIfInBounds_toArray, List.set_cons_zero, List.set_cons_succ]
                    obtain ⟨A9, c9, OU, hN9⟩ := hV 10 _ rfl rfl
                    have hbx := hS.2.2.2.2
                    have hsz := hS.2.2.2.1
                    have hrd := hS.2.2.1
                    have h0 := hS.1
                    have h1 := hS.2.1
                    clear hV hS
                    go_wp2
                    go_roundw
                    case rel => exact ⟨j + 1, A9, c9, by omega, by go_num, Lib.hid h0, Lib.hid h1, Lib.hid OU, Lib.hid (by rw [tab_snoc, hext.out]; exact hN9), Lib.hid ⟨hrd, hsz, hbx⟩⟩
                    case measure => simp [intOf]; omega
              · have hext := Lib.hid (show atI lx (frR (j : Int) D) 0 = 0 from atI_out hzz (by rw [hlx.out]; omega))
                have k0 := H9.out.cell 0
                have U9 := H9.out.alloc (.cells #[.int .u8 0] 48)
                have U1 := H1.out.alloc (.cells #[.int .u8 0] 48)
                have U0 := H0.out.alloc (.cells #[.int .u8 0] 48)
                have UN := HN9.out.alloc (.cells #[.int .u8 0] 48)
                have RB : Rb (wr.alloc (.cells #[.int .u8 0] 48)) (some ⟨wr.heap.size, 0, none⟩) 1 [0] := Rb.of_own (Own.new wr _ _) (nnL_one hzn) rfl
                have hB1 := below_new HB.out.2.2 (.cells #[.int .u8 0] 48)
                have hr1 := (show Stb (rdo g9 (some ⟨b1, 0, none⟩) N lx) from inferInstance).st _ _ (below_new (Below.refl _ _) (.cells #[.int .u8 0] 48)) HB.out.1
                have hsz : g9 ≤ (wr.alloc (.cells #[.int .u8 0] 48)).heap.size := Nat.le_trans HB.out.2.1 (by simp)
                have L9 := L1
                clear hS0 hP1 hP2 H0 H1 H9 HN9 HB
                replace hzz := Lib.hid hzz
                have hgg : ∀ A9 c9 w9, Nb w9 g9 A9 (j + 1) c9 (tab j (fun i => atI lx (frR i D) 0) ++ [0]) → (wr.alloc (.cells #[.int .u8 0] 48)).grownBy w9 (Value.slice A' j c').ownBlock → Own w9 w.heap.size 24 #[.slice (some ⟨b1, 0, none⟩) N c4, .bool sx] ∧ Own w9 (w.heap.size + 1 + 1) 24 #[.slice none 0 0, .bool false] ∧ Own w9 g9 24 #[.slice A' j c', .bool sx] ∧ rdo g9 (some ⟨b1, 0, none⟩) N lx w9 ∧ g9 ≤ w9.heap.size ∧ Below w.heap.size w w9 := fun A9 c9 w9 hN9 hg9 =>
                  ⟨U0.catG (by decide) UN hg9, U1.catG (by decide) UN hg9, U9.catG (by decide) UN hg9, (show Sgr g9 (rdo g9 (some ⟨b1, 0, none⟩) N lx) from inferInstance).st _ _ _ UN.rowB hg9 hsz hr1, Nat.le_trans hsz hg9.size, Below.grown hB1 hg9 hB1.size (fun k hk => Nat.le_trans (by omega) (UN.rowB k hk).1)⟩
                replace hgg := Lib.hid hgg
                clear U0 U1 hr1 hB1 L9
                rcases (show z < 0 ∨ (0 ≤ z ∧ (N : Int) ≤ z) by omega) with hz1 | ⟨hz1, hz2⟩
                · have d2 : decide (0 ≤ z) = false := by simp; omega
                  clear hin hz1
                  go_wp2_with (at_builtin; refine wpList_catG rfl (.tmp 101) (.tmp 103) rfl rfl hsz rfl UN rfl RB (by omega) ?_; intro A9 c9 w9 hN9 hg9; obtain ⟨V0, V1, V9, hr9, hs9, hb9⟩ := hgg.out _ _ _ hN9 hg9; have v0 := V9.cell 0; have v1 := V9.free 0)
                  rw [set0_row V9]
                  go_roundw
                  case rel =>
                    haveI : Over w g9 := ⟨by omega⟩
                    exact ⟨j + 1, A9, c9, by omega, by go_num, Lib.hid (V0.rowFar (by omega)), Lib.hid (V1.rowFar (by omega)), Lib.hid V9.row, Lib.hid (by rw [tab_snoc, hext.out]; exact hN9.row V9), Lib.hid ⟨(show Sst g9 (rdo g9 (some ⟨b1, 0, none⟩) N lx) from inferInstance).st _ _ _ _ _ _ V9 hr9, by simpa [World.setRow] using hs9, below_row hb9 (by omega) _⟩⟩
                  case measure => simp [intOf]; omega
                · have d2 : decide (0 ≤ z) = true := by simpa using hz1
                  have d3 : decide (z < (N : Int)) = false := by simp; omega
                  clear hin hz1 hz2
                  go_wp2_with (at_builtin; refine wpList_catG rfl (.tmp 101) (.tmp 103) rfl rfl hsz rfl UN rfl RB (by omega) ?_; intro A9 c9 w9 hN9 hg9; obtain ⟨V0, V1, V9, hr9, hs9, hb9⟩ := hgg.out _ _ _ hN9 hg9; have v0 := V9.cell 0; have v1 := V9.free 0)
                  rw [set0_row V9]
                  go_roundw
                  case rel =>
                    haveI : Over w g9 := ⟨by omega⟩
                    exact ⟨j + 1, A9, c9, by omega, by go_num, Lib.hid (V0.rowFar (by omega)), Lib.hid (V1.rowFar (by omega)), Lib.hid V9.row, Lib.hid (by rw [tab_snoc, hext.out]; exact hN9.row V9), Lib.hid ⟨(show Sst g9 (rdo g9 (some ⟨b1, 0, none⟩) N lx) from inferInstance).st _ _ _ _ _ _ V9 hr9, by simpa [World.setRow] using hs9, below_row hb9 (by omega) _⟩⟩
                  case measure => simp [intOf]; omega
            · obtain rfl : j = N := by omega
              have g0 := H1.out.cell 0
              have g1 := H1.out.cell 1
              have g2 := H1.out.free 0
              have g3 := H1.out.free 1
              have k0 := H9.out.cell 0
              have k1 := H9.out.cell 1
              have HBo := HB.out.2.2
              clear hlt
              go_wp2
              exact ret_vec Tryz.results102 rfl rfl (H1.out.put2 _ _) (e9.out ▸ mk_ret (v := ⟨tab j (fun i => atI lx (frR i D) 0), sx⟩) (((HN9.out.setT H1.out (by decide) 0 _).setT (H1.out.put 0 _) (by decide) 1 _).mono (by omega)) (below_set2 HBo (by omega) _ _))
      cases sx
      · have e9 := Lib.hid (show (⟨tab N fun i => atI lx (frR i D) 0, false⟩ : V) = shW 44 ⟨lx, false⟩ ⟨ly, sy⟩ from e8.symm)
        clear e8 hop
        have hzn : (0 : Int) ≤ 0 := by decide
        rcases htest with ⟨rfl, ht, hd⟩ | ⟨rfl, ht, hq⟩ | ⟨rfl, hq⟩
        all_goals
          try replace hq := Lib.hid hq
          go_wp2_with (first | (go_at_call 32; (with_reducible refine (HL.out _ N5.rd).mono ?_); rintro e w1 ⟨rfl, hb⟩; replace BB := below_step BB hb; replace O4 := O4.step hb; replace O5 := O5.step hb; replace O2 := O2.step hb; replace N4 := N4.step hb; replace N5 := N5.step hb; (try clear zO40 zO41 yO40 yO41 zO50 zO51 yO50 yO51 zO20 zO21 yO20 yO21); have zO40 := O4.cell 0; have zO41 := O4.cell 1; have yO40 := O4.free 0; have yO41 := O4.free 1; have zO50 := O5.cell 0; have zO51 := O5.cell 1; have yO50 := O5.free 0; have yO51 := O5.free 1; have zO20 := O2.cell 0; have zO21 := O2.cell 1; have yO20 := O2.free 0; have yO21 := O2.free 1) | (go_at_call 114; refine (rBools_any _ _ _ _ _ _ N5.rd (by omega)).mono ?_; rintro e w1 ⟨X5, cX5, rfl, hX5, hb⟩; replace BB := below_step BB hb; replace O4 := O4.step hb; replace O5 := O5.step hb; replace O2 := O2.step hb; replace N4 := N4.step hb; replace N5 := N5.step hb; (try clear zO40 zO41 yO40 yO41 zO50 zO51 yO50 yO51 zO20 zO21 yO20 yO21); have zO40 := O4.cell 0; have zO41 := O4.cell 1; have yO40 := O4.free 0; have yO41 := O4.free 1; have zO50 := O5.cell 0; have zO51 := O5.cell 1; have yO50 := O5.free 0; have yO51 := O5.free 1; have zO20 := O2.cell 0; have zO21 := O2.cell 1; have yO20 := O2.free 0; have yO21 := O2.free 1) | (go_at_call 181; refine (HU.out _ _ _ hX5.rd hX5.le).mono ?_; rintro e w1 ⟨rfl, hb⟩; clear hX5; replace BB := below_step BB hb; replace O4 := O4.step hb; replace O5 := O5.step hb; replace O2 := O2.step hb; replace N4 := N4.step hb; replace N5 := N5.step hb; (try clear zO40 zO41 yO40 yO41 zO50 zO51 yO50 yO51 zO20 zO21 yO20 yO21); have zO40 := O4.cell 0; have zO41 := O4.cell 1; have yO40 := O4.free 0; have yO41 := O4.free 1; have zO50 := O5.cell 0; have zO51 := O5.cell 1; have yO50 := O5.free 0; have yO51 := O5.free 1; have zO20 := O2.cell 0; have zO21 := O2.cell 1; have yO20 := O2.free 0; have yO21 := O2.free 1))
          try rw [hq.out]
          have L1 := BB.size
          have LN := N4.own h0
          obtain ⟨b1, cs1, rfl, _, _, _⟩ := LN
          have hr9 : rdo w1.heap.size (some ⟨b1, 0, none⟩) N lx (w1.alloc (.cells #[.slice none 0 0, .bool false] 24)) := rdo.of N4.rd (below_new (Below.refl _ _) (.cells #[.slice none 0 0, .bool false] 24))
          have V0 := O4.alloc (.cells #[.slice none 0 0, .bool false] 24)
          have V1 := O2.alloc (.cells #[.slice none 0 0, .bool false] 24)
          have V9 := Own.at1 w1 24 #[.slice none 0 0, .bool false] (g := w1.heap.size) rfl
          have B2 := below_new BB (.cells #[.slice none 0 0, .bool false] 24)
          have hz0 : w1.heap.size ≤ (w1.alloc (.cells #[.slice none 0 0, .bool false] 24)).heap.size := by simp
          have L2 := O2.lt
          replace hlx := Lib.hid hlx
          clear O4 O5 O2 N4 N5 BB zO40 zO41 yO40 yO41 zO50 zO51 yO50 yO51 zO20 zO21 yO20 yO21
          generalize w1.alloc (.cells #[.slice none 0 0, .bool false] 24) = W0 at *
          generalize w1.heap.size = g9 at *
          go_loopw [12] (fun i wr => ∃ (j : Nat) (A' : Option Addr) (c' : Nat), j ≤ N ∧ i = .int .i64 j ∧ Hid (Own wr w.heap.size 24 #[.slice (some ⟨b1, 0, none⟩) N c4, .bool false]) ∧ Hid (Own wr (w.heap.size + 1 + 1) 24 #[.slice none 0 0, .bool false]) ∧ Hid (Own wr g9 24 #[.slice A' j c', .bool false]) ∧ Hid (Nb wr g9 A' j c' (tab j (fun i => atI lx (frR i D) 0))) ∧ Hid (rdo g9 (some ⟨b1, 0, none⟩) N lx wr ∧ g9 ≤ wr.heap.size ∧ Below w.heap.size w wr)) (fun i _ => N - (intOf i).toNat)
          case atStart => exact ⟨0, none, 0, Nat.zero_le _, rfl, Lib.hid V0, Lib.hid V1, Lib.hid V9, Lib.hid (Nb.nil _ _), Lib.hid ⟨hr9, hz0, B2⟩⟩
          case round =>
            clear V0 V1 V9 hr9 B2 hz0
            obtain ⟨j, A', c', hj, rfl, H0, H1, H9, HN9, HB⟩ := hrel
            have p0 := H0.out.cell 0
            have p1 := H0.out.cell 1
            by_cases hlt : j < N
            · have i1 : (j : Int) < N := by omega
              have hS0 : owns w.heap.size #[.slice (some ⟨b1, 0, none⟩) N c4, .bool false] wr.drew ∧ (owns (w.heap.size + 1 + 1) #[.slice none 0 0, .bool false] wr.drew ∧ (rdo g9 (some ⟨b1, 0, none⟩) N lx wr.drew ∧ (szW g9 wr.drew ∧ blw w wr.drew))) := ⟨H0.out, H1.out, HB.out.1, HB.out.2.1, HB.out.2.2.drew⟩
              have hP1 : nbs g9 A' j c' (tab j (fun i => atI lx (frR i D) 0)) wr.drew := HN9.out
              have hP2 : owns g9 #[.slice A' j c', .bool false] wr.drew := H9.out
              haveI : Over w g9 := ⟨by omega⟩
              haveI : LeB w g9 := ⟨by omega⟩
              haveI : Apart g9 w.heap.size := ⟨by omega⟩
              haveI : Apart g9 (w.heap.size + 1 + 1) := ⟨by omega⟩
              obtain ⟨z, hzz⟩ : ∃ z, (frR (j : Int) D) = z := ⟨_, rfl⟩
              have hz := wr_frR (j := j) (D := D) hzz (by omega) (by omega)
              by_cases hin : 0 ≤ z ∧ z < N
              · obtain ⟨p, rfl⟩ : ∃ p : Nat, z = p := ⟨z.toNat, by omega⟩
                have hpN : p < N := by omega
                have d2 : (0 : Int) ≤ p := by omega
                have d3 : (p : Int) < N := by omega
                have hext := Lib.hid (show atI lx (frR (j : Int) D) 0 = nth lx p from atI_in hzz (by rw [hlx.out]; exact hpN))
                replace hzz := Lib.hid hzz
                clear H0 H1 H9 HN9 HB hin
                go_wp2
                refine region_k (by kernel_rfl) (fun u => owns w.heap.size #[.slice (some ⟨b1, 0, none⟩) N c4, .bool false] u ∧ (owns (w.heap.size + 1 + 1) #[.slice none 0 0, .bool false] u ∧ (rdo g9 (some ⟨b1, 0, none⟩) N lx u ∧ (szW g9 u ∧ blw w u)))) [tru, tru, tru, tru, tru, tru, tru, tru, nbs g9 A' j c' (tab j (fun i => atI lx (frR i D) 0)), tru, owns g9 #[.slice A' j c', .bool false]] [isV (.pointer (some ⟨g9, 0, none⟩)), isV (.slice A' j c'), isV (.pointer (some ⟨w.heap.size, 0, none⟩)), isV (.slice (some ⟨b1, 0, none⟩) N c4), isV (.int .i64 p), isV (.pointer (some ⟨b1, 0 + p, none⟩)), isV (.int .u8 (nth lx p)), isOne g9 (nth lx p), isNbL g9 (j + 1) (tab j (fun i => atI lx (frR i D) 0) ++ [(nth lx p)]), isV (.pointer (some ⟨g9, 0, none⟩)), didL g9 g9 (j + 1) (tab j (fun i => atI lx (frR i D) 0) ++ [(nth lx p)]) false] [some 90, some 91, some 92, some 93, some 94, some 95, some 96, some 97, some 98, some 99, none] [[], [0], [], [2], [], [3, 4], [5], [6], [1, 7], [0, 1, 2, 3, 4, 5, 6, 7, 8], [9, 8, 8, 0, 1, 2, 3, 4, 5, 6, 7, 8]] [[], [0], [], [2], [], [3, 4], [5], [6], [1, 7], [], [9, 8]] [[], [], [], [], [], [], [], [], [7], [], []] [[], [], [], [], [], [], [], [], [7, 10], [], []] (by kernel_rfl) (by kernel_rfl) (by kernel_rfl) (by kernel_rfl) (by kernel_rfl) rfl (by kernel_rfl) (by kernel_rfl) (by kernel_rfl) hS0 (by
                  intro U hU
                  simp only [List.mem_cons, List.not_mem_nil, or_false] at hU
                  rcases hU with rfl | rfl | rfl | rfl | rfl | rfl | rfl | rfl | rfl | rfl | rfl
                  all_goals first | trivial | exact hP1 | exact hP2) ?_ ?_
                · refine ⟨?_, ?_, ?_, ?_, ?_, ?_, ?_, ?_, ?_, ?_, ?_, trivial⟩
                  · intro a w' hS hO hF' hP K hK; have ha := hO 11 (by rfl); refine if_ok (by rfl) ?_; refine wp_fa0 _ rfl (ev ha) ?_; exact hK _ w' nofun (keepK_same hS) rfl
                  · intro a w' hS hO hF' hP K hK; have O := hP 10 _ (by rfl) rfl; obtain ⟨_, f0, rfl⟩ := (hF' 0 rfl).1 90 _ rfl rfl; refine if_ok (by rfl) ?_; refine wp_ldS _ rfl (ev f0) (O.cell 0) ?_; exact hK _ w' nofun (keepK_same hS) rfl
                  · intro a w' hS hO hF' hP K hK; have ha := hO 4 (by rfl); refine if_ok (by rfl) ?_; refine wp_fa0 _ rfl (ev ha) ?_; exact hK _ w' nofun (keepK_same hS) rfl
                  · intro a w' hS hO hF' hP K hK; obtain ⟨_, f0, rfl⟩ := (hF' 2 rfl).1 92 _ rfl rfl; refine if_ok (by rfl) ?_; refine wp_ldS _ rfl (ev f0) (hS.1.cell 0) ?_; exact hK _ w' nofun (keepK_same hS) rfl
                  · intro a w' hS hO hF' hP K hK; have ha := hO 13 (by rfl); refine if_ok (by rfl) ?_; unfold Oper.wp execOp; simp only [Sem.run_pure, ev ha]; exact hK _ w' nofun (keepK_same hS) rfl
                  · intro a w' hS hO hF' hP K hK; obtain ⟨_, f0, rfl⟩ := (hF' 3 rfl).1 93 _ rfl rfl; obtain ⟨_, f1, rfl⟩ := (hF' 4 rfl).1 94 _ rfl rfl; refine if_ok (by rfl) ?_; refine wp_ix _ _ rfl (ev f0) (ev f1) hpN ?_; exact hK _ w' nofun (keepK_same hS) rfl
                  · intro a w' hS hO hF' hP K hK; obtain ⟨_, f0, rfl⟩ := (hF' 5 rfl).1 95 _ rfl rfl; refine if_ok (by rfl) ?_; refine wp_ldU _ rfl (ev f0) (rdo_cell hS.2.2.1 (k := p) hpN) ?_; exact hK _ w' nofun (keepK_same hS) rfl
                  · intro a w' hS hO hF' hP K hK; obtain ⟨_, f0, rfl⟩ := (hF' 6 rfl).1 96 _ rfl rfl; have hsz := hS.2.2.2.1; refine if_ok (by rfl) ?_; refine wp_bs1 _ rfl (ev f0) ?_; exact hK _ _ nofun (keepK_below (below_new (Below.refl _ _) _) hS) ⟨_, rfl, Own.new _ _ _, hsz⟩
                  · intro a w' hS hO hF' hP K hK; obtain ⟨_, f0, rfl⟩ := (hF' 1 rfl).1 91 _ rfl rfl; obtain ⟨_, f1, g0, rfl, hO1, hg1⟩ := (hF' 7 rfl).1 97 _ rfl rfl; have hN := hP 8 _ (by rfl) rfl; have hsz := hS.2.2.2.1; refine if_ok (by rfl) ?_; refine wp_cat _ _ rfl rfl hsz (ev f0) hN (ev f1) (Rb.of_own hO1 (nnL_one (hnn.nth _)) rfl) (by omega) ?_; intro A9 c9 w9 hN9 hg9; exact hK _ w9 nofun (keepK_grown hN.rowB hg9 hsz inferInstance ⟨inferInstance, inferInstance, inferInstance, inferInstance, inferInstance, inferInstance, inferInstance, inferInstance, inferInstance, inferInstance, trivial⟩ ⟨.inr inferInstance, .inr inferInstance, .inr inferInstance, .inr inferInstance, .inr inferInstance, .inr inferInstance, .inr inferInstance, .inl rfl, .inl rfl, .inr inferInstance, .inl rfl, trivial⟩ hS) ⟨A9, c9, rfl, hN9⟩
                  · intro a w' hS hO hF' hP K hK; have ha := hO 11 (by rfl); refine if_ok (by rfl) ?_; refine wp_fa0 _ rfl (ev ha) ?_; exact hK _ w' nofun (keepK_same hS) rfl
                  · intro a w' hS hO hF' hP K hK; obtain ⟨_, f0, rfl⟩ := (hF' 9 rfl).1 99 _ rfl rfl; obtain ⟨_, f1, A9, c9, rfl, hN⟩ := (hF' 8 rfl).1 98 _ rfl rfl; have O := hP 10 _ (by rfl) rfl; refine if_ok (by rfl) ?_; refine wp_st0 _ _ rfl (ev f0) (ev f1) O ?_; exact hK _ _ (fun _ => rfl) (keepK_store O inferInstance ⟨inferInstance, inferInstance, inferInstance, inferInstance, inferInstance, inferInstance, inferInstance, inferInstance, inferInstance, inferInstance, trivial⟩ ⟨inferInstance, inferInstance, inferInstance, inferInstance, inferInstance, inferInstance, inferInstance, inferInstance, inferInstance, inferInstance, trivial⟩ hS) ⟨A9, c9, O.row, hN.row O⟩
                · intro vs u hl hS hV
                  match vs, hl, hV with
                  | [v0, v1, v2, v3, v4, v5, v6, v7, v8, v9, v10], _, hV =>
                    simp only [puts, Act.put, List.setIfInBounds_toArray, List.set_cons_zero, List.set_cons_succ]
                    obtain ⟨A9, c9, OU, hN9⟩ := hV 10 _ rfl rfl
                    have hbx := hS.2.2.2.2
                    have hsz := hS.2.2.2.1
                    have hrd := hS.2.2.1
                    have h0 := hS.1
                    have h1 := hS.2.1
                    clear hV hS
                    go_wp2
                    go_roundw
                    case rel => exact ⟨j + 1, A9, c9, by omega, by go_num, Lib.hid h0, Lib.hid h1, Lib.hid OU, Lib.hid (by rw [tab_snoc, hext.out]; exact hN9), Lib.hid ⟨hrd, hsz, hbx⟩⟩
                    case measure => simp [intOf]; omega
              · have hext := Lib.hid (show atI lx (frR (j : Int) D) 0 = 0 from atI_out hzz (by rw [hlx.out]; omega))
                have k0 := H9.out.cell 0
                have U9 := H9.out.alloc (.cells #[.int .u8 0] 48)
                have U1 := H1.out.alloc (.cells #[.int .u8 0] 48)
                have U0 := H0.out.alloc (.cells #[.int .u8 0] 48)
                have UN := HN9.out.alloc (.cells #[.int .u8 0] 48)
                have RB : Rb (wr.alloc (.cells #[.int .u8 0] 48)) (some ⟨wr.heap.size, 0, none⟩) 1 [0] := Rb.of_own (Own.new wr _ _) (nnL_one hzn) rfl
                have hB1 := below_new HB.out.2.2 (.cells #[.int .u8 0] 48)
                have hr1 := (show Stb (rdo g9 (some ⟨b1, 0, none⟩) N lx) from inferInstance).st _ _ (below_new (Below.refl _ _) (.cells #[.int .u8 0] 48)) HB.out.1
                have hsz : g9 ≤ (wr.alloc (.cells #[.int .u8 0] 48)).heap.size := Nat.le_trans HB.out.2.1 (by simp)
                have L9 := L1
                clear hS0 hP1 hP2 H0 H1 H9 HN9 HB
                replace hzz := Lib.hid hzz
                have hgg : ∀ A9 c9 w9, Nb w9 g9 A9 (j + 1) c9 (tab j (fun i => atI lx (frR i D) 0) ++ [0]) → (wr.alloc (.cells #[.int .u8 0] 48)).grownBy w9 (Value.slice A' j c').ownBlock → Own w9 w.heap.size 24 #[.slice (some ⟨b1, 0, none⟩) N c4, .bool false] ∧ Own w9 (w.heap.size + 1 + 1) 24 #[.slice none 0 0, .bool false] ∧ Own w9 g9 24 #[.slice A' j c', .bool false] ∧ rdo g9 (some ⟨b1, 0, none⟩) N lx w9 ∧ g9 ≤ w9.heap.size ∧ Below w.heap.size w w9 := fun A9 c9 w9 hN9 hg9 =>
                  ⟨U0.catG (by decide) UN hg9, U1.catG (by decide) UN hg9, U9.catG (by decide) UN hg9, (show Sgr g9 (rdo g9 (some ⟨b1, 0, none⟩) N lx) from inferInstance).st _ _ _ UN.rowB hg9 hsz hr1, Nat.le_trans hsz hg9.size, Below.grown hB1 hg9 hB1.size (fun k hk => Nat.le_trans (by omega) (UN.rowB k hk).1)⟩
                replace hgg := Lib.hid hgg
                clear U0 U1 hr1 hB1 L9
                rcases (show z < 0 ∨ (0 ≤ z ∧ (N : Int) ≤ z) by omega) with hz1 | ⟨hz1, hz2⟩
                · have d2 : decide (0 ≤ z) = false := by simp; omega
                  clear hin hz1
                  go_wp2_with (at_builtin; refine wpList_catG rfl (.tmp 101) (.tmp 103) rfl rfl hsz rfl UN rfl RB (by omega) ?_; intro A9 c9 w9 hN9 hg9; obtain ⟨V0, V1, V9, hr9, hs9, hb9⟩ := hgg.out _ _ _ hN9 hg9; have v0 := V9.cell 0; have v1 := V9.free 0)
                  rw [set0_row V9]
                  go_roundw
                  case rel =>
                    haveI : Over w g9 := ⟨by omega⟩
                    exact ⟨j + 1, A9, c9, by omega, by go_num, Lib.hid (V0.rowFar (by omega)), Lib.hid (V1.rowFar (by omega)), Lib.hid V9.row, Lib.hid (by rw [tab_snoc, hext.out]; exact hN9.row V9), Lib.hid ⟨(show Sst g9 (rdo g9 (some ⟨b1, 0, none⟩) N lx) from inferInstance).st _ _ _ _ _ _ V9 hr9, by simpa [World.setRow] using hs9, below_row hb9 (by omega) _⟩⟩
                  case measure => simp [intOf]; omega
                · have d2 : decide (0 ≤ z) = true := by simpa using hz1
                  have d3 : decide (z < (N : Int)) = false := by simp; omega
                  clear hin hz1 hz2
                  go_wp2_with (at_builtin; refine wpList_catG rfl (.tmp 101) (.tmp 103) rfl rfl hsz rfl UN rfl RB (by omega) ?_; intro A9 c9 w9 hN9 hg9; obtain ⟨V0, V1, V9, hr9, hs9, hb9⟩ := hgg.out _ _ _ hN9 hg9; have v0 := V9.cell 0; have v1 := V9.free 0)
                  rw [set0_row V9]
                  go_roundw
                  case rel =>
                    haveI : Over w g9 := ⟨by omega⟩
                    exact ⟨j + 1, A9, c9, by omega, by go_num, Lib.hid (V0.rowFar (by omega)), Lib.hid (V1.rowFar (by omega)), Lib.hid V9.row, Lib.hid (by rw [tab_snoc, hext.out]; exact hN9.row V9), Lib.hid ⟨(show Sst g9 (rdo g9 (some ⟨b1, 0, none⟩) N lx) from inferInstance).st _ _ _ _ _ _ V9 hr9, by simpa [World.setRow] using hs9, below_row hb9 (by omega) _⟩⟩
                  case measure => simp [intOf]; omega
            · obtain rfl : j = N := by omega
              have g0 := H1.out.cell 0
              have g1 := H1.out.cell 1
              have g2 := H1.out.free 0
              have g3 := H1.out.free 1
              have k0 := H9.out.cell 0
              have k1 := H9.out.cell 1
              have HBo := HB.out.2.2
              clear hlt
              go_wp2
              exact ret_vec Tryz.results102 rfl rfl (H1.out.put2 _ _) (e9.out ▸ mk_ret (v := ⟨tab j (fun i => atI lx (frR i D) 0), false⟩) (((HN9.out.setT H1.out (by decide) 0 _).setT (H1.out.put 0 _) (by decide) 1 _).mono (by omega)) (below_set2 HBo (by omega) _ _))
      · obtain ⟨q, hqN⟩ : ∃ q : Nat, q + 1 = N := ⟨N - 1, by omega⟩
        have e9 := Lib.hid (show (⟨tab N fun i => atI lx (frR i D) (nth lx q), true⟩ : V) = shW 44 ⟨lx, true⟩ ⟨ly, sy⟩ from by
          rw [e8]
          have : zfW 44 ⟨lx, true⟩ = nth lx q := by
            show fill ⟨lx, true⟩ = nth lx q
            unfold fill
            rw [if_pos rfl]
            show nth lx (lx.length - 1) = nth lx q
            rw [hlx, ← hqN, Nat.add_sub_cancel]
          rw [this]
          rfl)
        clear e8 hop
        have hzn : (0 : Int) ≤ nth lx q := hnn.out.nth _
        have u1 : IntKind.i64.wrap ((N : Int) - 1) = (q : Int) := by rw [IntWalk.i64_in _ (by omega)]; omega
        have u2 : (0 : Int) ≤ q := by omega
        have u3 : (q : Int) < N := by omega
        obtain ⟨b1, cs1, rfl, _, _, _⟩ := N4.own h0
        replace hqN := Lib.hid hqN
        rcases htest with ⟨rfl, ht, hd⟩ | ⟨rfl, ht, hq⟩ | ⟨rfl, hq⟩
        all_goals
          try replace hq := Lib.hid hq
          go_wp2_with (first | (go_at_call 32; (with_reducible refine (HL.out _ N5.rd).mono ?_); rintro e w1 ⟨rfl, hb⟩; replace BB := below_step BB hb; replace O4 := O4.step hb; replace O5 := O5.step hb; replace O2 := O2.step hb; replace N4 := N4.step hb; replace N5 := N5.step hb; (try clear zO40 zO41 yO40 yO41 zO50 zO51 yO50 yO51 zO20 zO21 yO20 yO21); have zO40 := O4.cell 0; have zO41 := O4.cell 1; have yO40 := O4.free 0; have yO41 := O4.free 1; have zO50 := O5.cell 0; have zO51 := O5.cell 1; have yO50 := O5.free 0; have yO51 := O5.free 1; have zO20 := O2.cell 0; have zO21 := O2.cell 1; have yO20 := O2.free 0; have yO21 := O2.free 1) | (go_at_call 114; refine (rBools_any _ _ _ _ _ _ N5.rd (by omega)).mono ?_; rintro e w1 ⟨X5, cX5, rfl, hX5, hb⟩; replace BB := below_step BB hb; replace O4 := O4.step hb; replace O5 := O5.step hb; replace O2 := O2.step hb; replace N4 := N4.step hb; replace N5 := N5.step hb; (try clear zO40 zO41 yO40 yO41 zO50 zO51 yO50 yO51 zO20 zO21 yO20 yO21); have zO40 := O4.cell 0; have zO41 := O4.cell 1; have yO40 := O4.free 0; have yO41 := O4.free 1; have zO50 := O5.cell 0; have zO51 := O5.cell 1; have yO50 := O5.free 0; have yO51 := O5.free 1; have zO20 := O2.cell 0; have zO21 := O2.cell 1; have yO20 := O2.free 0; have yO21 := O2.free 1) | (go_at_call 181; refine (HU.out _ _ _ hX5.rd hX5.le).mono ?_; rintro e w1 ⟨rfl, hb⟩; clear hX5; have kq := nb_cell (N4.step hb) (k := q) (by have := hqN.out; omega); replace BB := below_step BB hb; replace O4 := O4.step hb; replace O5 := O5.step hb; replace O2 := O2.step hb; replace N4 := N4.step hb; replace N5 := N5.step hb; (try clear zO40 zO41 yO40 yO41 zO50 zO51 yO50 yO51 zO20 zO21 yO20 yO21); have zO40 := O4.cell 0; have zO41 := O4.cell 1; have yO40 := O4.free 0; have yO41 := O4.free 1; have zO50 := O5.cell 0; have zO51 := O5.cell 1; have yO50 := O5.free 0; have yO51 := O5.free 1; have zO20 := O2.cell 0; have zO21 := O2.cell 1; have yO20 := O2.free 0; have yO21 := O2.free 1))
          try rw [hq.out]
          clear kq u1 u2 u3
          have L1 := BB.size
          have hr9 : rdo w1.heap.size (some ⟨b1, 0, none⟩) N lx (w1.alloc (.cells #[.slice none 0 0, .bool true] 24)) := rdo.of N4.rd (below_new (Below.refl _ _) (.cells #[.slice none 0 0, .bool true] 24))
          have V0 := O4.alloc (.cells #[.slice none 0 0, .bool true] 24)
          have V1 := O2.alloc (.cells #[.slice none 0 0, .bool true] 24)
          have V9 := Own.at1 w1 24 #[.slice none 0 0, .bool true] (g := w1.heap.size) rfl
          have B2 := below_new BB (.cells #[.slice none 0 0, .bool true] 24)
          have hz0 : w1.heap.size ≤ (w1.alloc (.cells #[.slice none 0 0, .bool true] 24)).heap.size := by simp
          have L2 := O2.lt
          replace hlx := Lib.hid hlx
          clear O4 O5 O2 N4 N5 BB zO40 zO41 yO40 yO41 zO50 zO51 yO50 yO51 zO20 zO21 yO20 yO21
          generalize w1.alloc (.cells #[.slice none 0 0, .bool true] 24) = W0 at *
          generalize w1.heap.size = g9 at *
          go_loopw [12] (fun i wr => ∃ (j : Nat) (A' : Option Addr) (c' : Nat), j ≤ N ∧ i = .int .i64 j ∧ Hid (Own wr w.heap.size 24 #[.slice (some ⟨b1, 0, none⟩) N c4, .bool true]) ∧ Hid (Own wr (w.heap.size + 1 + 1) 24 #[.slice none 0 0, .bool false]) ∧ Hid (Own wr g9 24 #[.slice A' j c', .bool true]) ∧ Hid (Nb wr g9 A' j c' (tab j (fun i => atI lx (frR i D) (nth lx q)))) ∧ Hid (rdo g9 (some ⟨b1, 0, none⟩) N lx wr ∧ g9 ≤ wr.heap.size ∧ Below w.heap.size w wr)) (fun i _ => N - (intOf i).toNat)
          case atStart => exact ⟨0, none, 0, Nat.zero_le _, rfl, Lib.hid V0, Lib.hid V1, Lib.hid V9, Lib.hid (Nb.nil _ _), Lib.hid ⟨hr9, hz0, B2⟩⟩
          case round =>
            clear V0 V1 V9 hr9 B2 hz0
            obtain ⟨j, A', c', hj, rfl, H0, H1, H9, HN9, HB⟩ := hrel
            have p0 := H0.out.cell 0
            have p1 := H0.out.cell 1
            by_cases hlt : j < N
            · have i1 : (j : Int) < N := by omega
              have hS0 : owns w.heap.size #[.slice (some ⟨b1, 0, none⟩) N c4, .bool true] wr.drew ∧ (owns (w.heap.size + 1 + 1) #[.slice none 0 0, .bool false] wr.drew ∧ (rdo g9 (some ⟨b1, 0, none⟩) N lx wr.drew ∧ (szW g9 wr.drew ∧ blw w wr.drew))) := ⟨H0.out, H1.out, HB.out.1, HB.out.2.1, HB.out.2.2.drew⟩
              have hP1 : nbs g9 A' j c' (tab j (fun i => atI lx (frR i D) (nth lx q))) wr.drew := HN9.out
              have hP2 : owns g9 #[.slice A' j c', .bool true] wr.drew := H9.out
              haveI : Over w g9 := ⟨by omega⟩
              haveI : LeB w g9 := ⟨by omega⟩
              haveI : Apart g9 w.heap.size := ⟨by omega⟩
              haveI : Apart g9 (w.heap.size + 1 + 1) := ⟨by omega⟩
              obtain ⟨z, hzz⟩ : ∃ z, (frR (j : Int) D) = z := ⟨_, rfl⟩
              have hz := wr_frR (j := j) (D := D) hzz (by omega) (by omega)
              by_cases hin : 0 ≤ z ∧ z < N
              · obtain ⟨p, rfl⟩ : ∃ p : Nat, z = p := ⟨z.toNat, by omega⟩
                have hpN : p < N := by omega
                have d2 : (0 : Int) ≤ p := by omega
                have d3 : (p : Int) < N := by omega
                have hext := Lib.hid (show atI lx (frR (j : Int) D) (nth lx q) = nth lx p from atI_in hzz (by rw [hlx.out]; exact hpN))
                replace hzz := Lib.hid hzz
                clear H0 H1 H9 HN9 HB hin
                go_wp2
                refine region_k (by kernel_rfl) (fun u => owns w.heap.size #[.slice (some ⟨b1, 0, none⟩) N c4, .bool true] u ∧ (owns (w.heap.size + 1 + 1) #[.slice none 0 0, .bool false] u ∧ (rdo g9 (some ⟨b1, 0, none⟩) N lx u ∧ (szW g9 u ∧ blw w u)))) [tru, tru, tru, tru, tru, tru, tru, tru, nbs g9 A' j c' (tab j (fun i => atI lx (frR i D) (nth lx q))), tru, owns g9 #[.slice A' j c', .bool true]] [isV (.pointer (some ⟨g9, 0, none⟩)), isV (.slice A' j c'), isV (.pointer (some ⟨w.heap.size, 0, none⟩)), isV (.slice (some ⟨b1, 0, none⟩) N c4), isV (.int .i64 p), isV (.pointer (some ⟨b1, 0 + p, none⟩)), isV (.int .u8 (nth lx p)), isOne g9 (nth lx p), isNbL g9 (j + 1) (tab j (fun i => atI lx (frR i D) (nth lx q)) ++ [(nth lx p)]), isV (.pointer (some ⟨g9, 0, none⟩)), didL g9 g9 (j + 1) (tab j (fun i => atI lx (frR i D) (nth lx q)) ++ [(nth lx p)]) true] [some 90, some 91, some 92, some 93, some 94, some 95, some 96, some 97, some 98, some 99, none] [[], [0], [], [2], [], [3, 4], [5], [6], [1, 7], [0, 1, 2, 3, 4, 5, 6, 7, 8], [9, 8, 8, 0, 1, 2, 3, 4, 5, 6, 7, 8]] [[], [0], [], [2], [], [3, 4], [5], [6], [1, 7], [], [9, 8]] [[], [], [], [], [], [], [], [], [7], [], []] [[], [], [], [], [], [], [], [], [7, 10], [], []] (by kernel_rfl) (by kernel_rfl) (by kernel_rfl) (by kernel_rfl) (by kernel_rfl) rfl (by kernel_rfl) (by kernel_rfl) (by kernel_rfl) hS0 (by
                  intro U hU
                  simp only [List.mem_cons, List.not_mem_nil, or_false] at hU
                  rcases hU with rfl | rfl | rfl | rfl | rfl | rfl | rfl | rfl | rfl | rfl | rfl
                  all_goals first | trivial | exact hP1 | exact hP2) ?_ ?_
                · refine ⟨?_, ?_, ?_, ?_, ?_, ?_, ?_, ?_, ?_, ?_, ?_, trivial⟩
                  · intro a w' hS hO hF' hP K hK; have ha := hO 11 (by rfl); refine if_ok (by rfl) ?_; refine wp_fa0 _ rfl (ev ha) ?_; exact hK _ w' nofun (keepK_same hS) rfl
                  · intro a w' hS hO hF' hP K hK; have O := hP 10 _ (by rfl) rfl; obtain ⟨_, f0, rfl⟩ := (hF' 0 rfl).1 90 _ rfl rfl; refine if_ok (by rfl) ?_; refine wp_ldS _ rfl (ev f0) (O.cell 0) ?_; exact hK _ w' nofun (keepK_same hS) rfl
                  · intro a w' hS hO hF' hP K hK; have ha := hO 4 (by rfl); refine if_ok (by rfl) ?_; refine wp_fa0 _ rfl (ev ha) ?_; exact hK _ w' nofun (keepK_same hS) rfl
                  · intro a w' hS hO hF' hP K hK; obtain ⟨_, f0, rfl⟩ := (hF' 2 rfl).1 92 _ rfl rfl; refine if_ok (by rfl) ?_; refine wp_ldS _ rfl (ev f0) (hS.1.cell 0) ?_; exact hK _ w' nofun (keepK_same hS) rfl
                  · intro a w' hS hO hF' hP K hK; have ha := hO 13 (by rfl); refine if_ok (by rfl) ?_; unfold Oper.wp execOp; simp only [Sem.run_pure, ev ha]; exact hK _ w' nofun (keepK_same hS) rfl
                  · intro a w' hS hO hF' hP K hK; obtain ⟨_, f0, rfl⟩ := (hF' 3 rfl).1 93 _ rfl rfl; obtain ⟨_, f1, rfl⟩ := (hF' 4 rfl).1 94 _ rfl rfl; refine if_ok (by rfl) ?_; refine wp_ix _ _ rfl (ev f0) (ev f1) hpN ?_; exact hK _ w' nofun (keepK_same hS) rfl
                  · intro a w' hS hO hF' hP K hK; obtain ⟨_, f0, rfl⟩ := (hF' 5 rfl).1 95 _ rfl rfl; refine if_ok (by rfl) ?_; refine wp_ldU _ rfl (ev f0) (rdo_cell hS.2.2.1 (k := p) hpN) ?_; exact hK _ w' nofun (keepK_same hS) rfl
                  · intro a w' hS hO hF' hP K hK; obtain ⟨_, f0, rfl⟩ := (hF' 6 rfl).1 96 _ rfl rfl; have hsz := hS.2.2.2.1; refine if_ok (by rfl) ?_; refine wp_bs1 _ rfl (ev f0) ?_; exact hK _ _ nofun (keepK_below (below_new (Below.refl _ _) _) hS) ⟨_, rfl, Own.new _ _ _, hsz⟩
                  · intro a w' hS hO hF' hP K hK; obtain ⟨_, f0, rfl⟩ := (hF' 1 rfl).1 91 _ rfl rfl; obtain ⟨_, f1, g0, rfl, hO1, hg1⟩ := (hF' 7 rfl).1 97 _ rfl rfl; have hN := hP 8 _ (by rfl) rfl; have hsz := hS.2.2.2.1; refine if_ok (by rfl) ?_; refine wp_cat _ _ rfl rfl hsz (ev f0) hN (ev f1) (Rb.of_own hO1 (nnL_one (hnn.nth _)) rfl) (by omega) ?_; intro A9 c9 w9 hN9 hg9; exact hK _ w9 nofun (keepK_grown hN.rowB hg9 hsz inferInstance ⟨inferInstance, inferInstance, inferInstance, inferInstance, inferInstance, inferInstance, inferInstance, inferInstance, inferInstance, inferInstance, trivial⟩ ⟨.inr inferInstance, .inr inferInstance, .inr inferInstance, .inr inferInstance, .inr inferInstance, .inr inferInstance, .inr inferInstance, .inl rfl, .inl rfl, .inr inferInstance, .inl rfl, trivial⟩ hS) ⟨A9, c9, rfl, hN9⟩
                  · intro a w' hS hO hF' hP K hK; have ha := hO 11 (by rfl); refine if_ok (by rfl) ?_; refine wp_fa0 _ rfl (ev ha) ?_; exact hK _ w' nofun (keepK_same hS) rfl
                  · intro a w' hS hO hF' hP K hK; obtain ⟨_, f0, rfl⟩ := (hF' 9 rfl).1 99 _ rfl rfl; obtain ⟨_, f1, A9, c9, rfl, hN⟩ := (hF' 8 rfl).1 98 _ rfl rfl; have O := hP 10 _ (by rfl) rfl; refine if_ok (by rfl) ?_; refine wp_st0 _ _ rfl (ev f0) (ev f1) O ?_; exact hK _ _ (fun _ => rfl) (keepK_store O inferInstance ⟨inferInstance, inferInstance, inferInstance, inferInstance, inferInstance, inferInstance, inferInstance, inferInstance, inferInstance, inferInstance, trivial⟩ ⟨inferInstance, inferInstance, inferInstance, inferInstance, inferInstance, inferInstance, inferInstance, inferInstance, inferInstance, inferInstance, trivial⟩ hS) ⟨A9, c9, O.row, hN.row O⟩
                · intro vs u hl hS hV
                  match vs, hl, hV with
                  | [v0, v1, v2, v3, v4, v5, v6, v7, v8, v9, v10], _, hV =>
                    simp only [puts, Act.put, List.setIfInBounds_toArray, List.set_cons_zero, List.set_cons_succ]
                    obtain ⟨A9, c9, OU, hN9⟩ := hV 10 _ rfl rfl
                    have hbx := hS.2.2.2.2
                    have hsz := hS.2.2.2.1
                    have hrd := hS.2.2.1
                    have h0 := hS.1
                    have h1 := hS.2.1
                    clear hV hS
                    go_wp2
                    go_roundw
                    case rel => exact ⟨j + 1, A9, c9, by omega, by go_num, Lib.hid h0, Lib.hid h1, Lib.hid OU, Lib.hid (by rw [tab_snoc, hext.out]; exact hN9), Lib.hid ⟨hrd, hsz, hbx⟩⟩
                    case measure => simp [intOf]; omega
              · have hext := Lib.hid (show atI lx (frR (j : Int) D) (nth lx q) = (nth lx q) from atI_out hzz (by rw [hlx.out]; omega))
                have k0 := H9.out.cell 0
                have U9 := H9.out.alloc (.cells #[.int .u8 (nth lx q)] 48)
                have U1 := H1.out.alloc (.cells #[.int .u8 (nth lx q)] 48)
                have U0 := H0.out.alloc (.cells #[.int .u8 (nth lx q)] 48)
                have UN := HN9.out.alloc (.cells #[.int .u8 (nth lx q)] 48)
                have RB : Rb (wr.alloc (.cells #[.int .u8 (nth lx q)] 48)) (some ⟨wr.heap.size, 0, none⟩) 1 [(nth lx q)] := Rb.of_own (Own.new wr _ _) (nnL_one hzn) rfl
                have hB1 := below_new HB.out.2.2 (.cells #[.int .u8 (nth lx q)] 48)
                have hr1 := (show Stb (rdo g9 (some ⟨b1, 0, none⟩) N lx) from inferInstance).st _ _ (below_new (Below.refl _ _) (.cells #[.int .u8 (nth lx q)] 48)) HB.out.1
                have hsz : g9 ≤ (wr.alloc (.cells #[.int .u8 (nth lx q)] 48)).heap.size := Nat.le_trans HB.out.2.1 (by simp)
                have L9 := L1
                clear hS0 hP1 hP2 H0 H1 H9 HN9 HB
                replace hzz := Lib.hid hzz
                have hgg : ∀ A9 c9 w9, Nb w9 g9 A9 (j + 1) c9 (tab j (fun i => atI lx (frR i D) (nth lx q)) ++ [(nth lx q)]) → (wr.alloc (.cells #[.int .u8 (nth lx q)] 48)).grownBy w9 (Value.slice A' j c').ownBlock → Own w9 w.heap.size 24 #[.slice (some ⟨b1, 0, none⟩) N c4, .bool true] ∧ Own w9 (w.heap.size + 1 + 1) 24 #[.slice none 0 0, .bool false] ∧ Own w9 g9 24 #[.slice A' j c', .bool true] ∧ rdo g9 (some ⟨b1, 0, none⟩) N lx w9 ∧ g9 ≤ w9.heap.size ∧ Below w.heap.size w w9 := fun A9 c9 w9 hN9 hg9 =>
                  ⟨U0.catG (by decide) UN hg9, U1.catG (by decide) UN hg9, U9.catG (by decide) UN hg9, (show Sgr g9 (rdo g9 (some ⟨b1, 0, none⟩) N lx) from inferInstance).st _ _ _ UN.rowB hg9 hsz hr1, Nat.le_trans hsz hg9.size, Below.grown hB1 hg9 hB1.size (fun k hk => Nat.le_trans (by omega) (UN.rowB k hk).1)⟩
                replace hgg := Lib.hid hgg
                clear U0 U1 hr1 hB1 L9
                rcases (show z < 0 ∨ (0 ≤ z ∧ (N : Int) ≤ z) by omega) with hz1 | ⟨hz1, hz2⟩
                · have d2 : decide (0 ≤ z) = false := by simp; omega
                  clear hin hz1
                  go_wp2_with (at_builtin; refine wpList_catG rfl (.tmp 101) (.tmp 103) rfl rfl hsz rfl UN rfl RB (by omega) ?_; intro A9 c9 w9 hN9 hg9; obtain ⟨V0, V1, V9, hr9, hs9, hb9⟩ := hgg.out _ _ _ hN9 hg9; have v0 := V9.cell 0; have v1 := V9.free 0)
                  rw [set0_row V9]
                  go_roundw
                  case rel =>
                    haveI : Over w g9 := ⟨by omega⟩
                    exact ⟨j + 1, A9, c9, by omega, by go_num, Lib.hid (V0.rowFar (by omega)), Lib.hid (V1.rowFar (by omega)), Lib.hid V9.row, Lib.hid (by rw [tab_snoc, hext.out]; exact hN9.row V9), Lib.hid ⟨(show Sst g9 (rdo g9 (some ⟨b1, 0, none⟩) N lx) from inferInstance).st _ _ _ _ _ _ V9 hr9, by simpa [World.setRow] using hs9, below_row hb9 (by omega) _⟩⟩
                  case measure => simp [intOf]; omega
                · have d2 : decide (0 ≤ z) = true := by simpa using hz1
                  have d3 : decide (z < (N : Int)) = false := by simp; omega
                  clear hin hz1 hz2
                  go_wp2_with (at_builtin; refine wpList_catG rfl (.tmp 101) (.tmp 103) rfl rfl hsz rfl UN rfl RB (by omega) ?_; intro A9 c9 w9 hN9 hg9; obtain ⟨V0, V1, V9, hr9, hs9, hb9⟩ := hgg.out _ _ _ hN9 hg9; have v0 := V9.cell 0; have v1 := V9.free 0)
                  rw [set0_row V9]
                  go_roundw
                  case rel =>
                    haveI : Over w g9 := ⟨by omega⟩
                    exact ⟨j + 1, A9, c9, by omega, by go_num, Lib.hid (V0.rowFar (by omega)), Lib.hid (V1.rowFar (by omega)), Lib.hid V9.row, Lib.hid (by rw [tab_snoc, hext.out]; exact hN9.row V9), Lib.hid ⟨(show Sst g9 (rdo g9 (some ⟨b1, 0, none⟩) N lx) from inferInstance).st _ _ _ _ _ _ V9 hr9, by simpa [World.setRow] using hs9, below_row hb9 (by omega) _⟩⟩
                  case measure => simp [intOf]; omega
            · obtain rfl : j = N := by omega
              have g0 := H1.out.cell 0
              have g1 := H1.out.cell 1
              have g2 := H1.out.free 0
              have g3 := H1.out.free 1
              have k0 := H9.out.cell 0
              have k1 := H9.out.cell 1
              have HBo := HB.out.2.2
              clear hlt
              go_wp2
              exact ret_vec Tryz.results102 rfl rfl (H1.out.put2 _ _) (e9.out ▸ mk_ret (v := ⟨tab j (fun i => atI lx (frR i D) (nth lx q)), true⟩) (((HN9.out.setT H1.out (by decide) 0 _).setT (H1.out.put 0 _) (by decide) 1 _).mono (by omega)) (below_set2 HBo (by omega) _ _))
end Go.Proofs.YtognpmggfplekaaGreatDoor
