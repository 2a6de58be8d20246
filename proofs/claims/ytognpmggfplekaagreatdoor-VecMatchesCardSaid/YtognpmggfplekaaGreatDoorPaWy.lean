/-
  The walk of VecMatches: it returns true. Conditions: the tables of package bit read as the program lays them.
-/
import Derived.Test.YtognpmggfplekaaGreatDoorPaWw
set_option maxRecDepth 100000
namespace Go.Proofs.YtognpmggfplekaaGreatDoor
open Go Go.RowKit

theorem rMatch_f (A Y : Option Addr) (n m c d : Nat) (s t : Bool) (l k : List Int) (w : World) (h : Rb w A n l) (h' : Rb w Y m k) (hn : n ≤ 1000) (hm : m ≤ 1000) :
    Calls Tryz.prog 22 #[.agg #[.slice A n c, .bool s], .agg #[.slice Y m d, .bool t], .bool false] w fun e w' => e = .returned (.bool (mtB zW ⟨l, s⟩ ⟨k, t⟩)) ∧ Below w.heap.size w w' := rMatch_any A Y n m c d s t false l k w h h' (by omega) (by omega)
theorem rMatch_t (A Y : Option Addr) (n m c d : Nat) (s t : Bool) (l k : List Int) (w : World) (h : Rb w A n l) (h' : Rb w Y m k) (hn : n ≤ 1000) (hm : m ≤ 1000) :
    Calls Tryz.prog 22 #[.agg #[.slice A n c, .bool s], .agg #[.slice Y m d, .bool t], .bool true] w fun e w' => e = .returned (.bool (mtB unkB ⟨l, s⟩ ⟨k, t⟩)) ∧ Below w.heap.size w w' := rMatch_any A Y n m c d s t true l k w h h' (by omega) (by omega)
set_option maxHeartbeats 16000000 in
theorem walk_VecMatches (A0 : Option Addr) (n0 c0 : Nat) (s0 : Bool) (l0 : List Int) (A1 : Option Addr) (n1 c1 : Nat) (s1 : Bool) (l1 : List Int) (w : World) (h0 : Rb w A0 n0 l0) (_hc0 : n0 ≤ c0) (h1 : Rb w A1 n1 l1) (_hc1 : n1 ≤ c1) (TT : Tabs w) : Calls Tryz.prog 3 #[.agg #[.slice A0 n0 c0, .bool s0], .agg #[.slice A1 n1 c1, .bool s1]] w fun e w' => e = .returned (.bool true) ∧ Below w.heap.size w w' := by
  have O0 := ((Own.at1 w 24 #[.slice A0 n0 c0, .bool s0] (g := w.heap.size) (by simp)).alloc (.cells #[.slice A1 n1 c1, .bool s1] 24))
  have O1 := (Own.at1 (w.alloc (.cells #[.slice A0 n0 c0, .bool s0] 24)) 24 #[.slice A1 n1 c1, .bool s1] (g := w.heap.size + 1) (by simp))
  have BB := (below_new (below_new (Below.refl w.heap.size w) (.cells #[.slice A0 n0 c0, .bool s0] 24)) (.cells #[.slice A1 n1 c1, .bool s1] 24))
  have X2 := O0
  have X3 := O1
  clear O0
  clear O1
  have O2 := X2
  clear X2
  have O3 := X3
  clear X3
  replace TT := TT.step BB
  have r0 := h0.step BB
  have r1 := h1.step BB
  clear h0 h1
  replace BB := Lib.hid BB
  cases hl : lngB [n0, n1]
  · skip
    have hn := lng_no hl
    have hn0 : n0 ≤ 140 := hn n0 (by simp)
    have hn1 : n1 ≤ 140 := hn n1 (by simp)
    have HL := Lib.hid (long2_b _ A0 A1 n0 c0 n1 c1 s0 s1 hl)
    clear hl hn
    have q20 := O2.cell 0
    have q21 := O2.cell 1
    have q30 := O3.cell 0
    have q31 := O3.cell 1
    have hBase : w.heap.size + 1 + 1 ≥ w.heap.size := by omega
    go_enter Tryz.func3, Tryz.ntmps3
    go_wp2_with (first | (go_at_call 12; refine (HL.out _ _ (by simp)).mono ?_; rintro e wn ⟨rfl, rfl⟩; replace O2 := O2.alloc (.cells #[.slice A0 n0 c0, .bool s0, .slice A1 n1 c1, .bool s1] 24); replace O3 := O3.alloc (.cells #[.slice A0 n0 c0, .bool s0, .slice A1 n1 c1, .bool s1] 24); replace r0 := r0.alloc (.cells #[.slice A0 n0 c0, .bool s0, .slice A1 n1 c1, .bool s1] 24); replace r1 := r1.alloc (.cells #[.slice A0 n0 c0, .bool s0, .slice A1 n1 c1, .bool s1] 24); replace TT := TT.alloc (.cells #[.slice A0 n0 c0, .bool s0, .slice A1 n1 c1, .bool s1] 24); replace BB := Lib.hid (below_new BB.out (.cells #[.slice A0 n0 c0, .bool s0, .slice A1 n1 c1, .bool s1] 24))))
    refine region_l (by kernel_rfl) (fun u => owns w.heap.size #[.slice A0 n0 c0, .bool s0] u ∧ (owns (w.heap.size + 1) #[.slice A1 n1 c1, .bool s1] u ∧ (rds A0 n0 l0 u ∧ (rds A1 n1 l1 u ∧ (szW (w.heap.size + 1 + 1) u ∧ (tbs u ∧ blw w u)))))) [un (isV (.agg #[.slice A0 n0 c0, .bool s0])), un (isW (⟨l0, s0⟩ : V)), un (isV (.agg #[.slice A1 n1 c1, .bool s1])), un (isW (⟨l1, s1⟩ : V)), un (isFr (w.heap.size + 1 + 1)), un (isFr (w.heap.size + 1 + 1)), filled (w.heap.size + 1 + 1) (⟨l0, s0⟩ : V), filled (w.heap.size + 1 + 1) (⟨l1, s1⟩ : V)] [some 19, some 20, some 21, some 22, some 5, some 6, none, none] [0, 1, 2, 3, 4, 5, 4, 5] [4, 5] [[], [0], [], [2, 1], [], [], [4, 1, 3, 0, 1, 4, 5], [5, 3, 6, 0, 1, 2, 3, 4, 5, 6]] (by kernel_rfl) (by kernel_rfl) rfl (by kernel_rfl) (by kernel_rfl) (by kernel_rfl) (by kernel_rfl) ⟨O2.drew, O3.drew, r0.drew, r1.drew, (by simp [szW, World.drew]), TT.drew, below_drew BB.out⟩ ?_ ?_
    · refine ⟨?_, ?_, ?_, ?_, ?_, ?_, ?_, ?_, trivial⟩
      · intro a w' hS hO hF hD K hK; have ha := hO 2 (by rfl); refine if_ok (by rfl) ?_; refine wp_load_row 24 (.tmp 2) rfl w.heap.size (ev ha) _ _ (0, 0) _ hS.1 Tryz.underlying24 rfl (by kernel_rfl) ?_; exact hK _ w' nofun (Nat.le_refl _) (fun h => absurd h (by decide)) hS (fun _ _ _ _ h => h) (fun V hV => by obtain rfl := Option.some.inj hV; exact rfl)
      · intro a w' hS hO hF hD K hK; have j0 := hF 0 rfl; have f0 := j0.2 19 rfl; rw [show valD _ _ 0 = _ from j0.1 _ rfl] at f0; refine if_ok (by rfl) ?_; refine wp_calls rfl (enters_of Tryz.func14 (by kernel_rfl) rfl) (args := #[(.agg #[.slice A0 n0 c0, .bool s0])]) (by simp [Act.eval, f0]) ?_; obtain ⟨O2, O3, r0, r1, BZ, TT, BB⟩ := id hS; apply Calls.mono; (with_reducible apply own_w); (repeat (first | assumption | (with_reducible (apply Nb.rd; assumption)) | (with_reducible (apply Rb.at_later; assumption)) | (with_reducible (apply Tabs.at_later; assumption)) | (with_reducible apply Rb.alloc) | (with_reducible apply Tabs.alloc) | (with_reducible apply Rb.drew) | (with_reducible apply Tabs.drew) | (show I64 _; unfold I64; omega) | omega)); rintro e w2 ⟨A, n, c, rfl, hc, hn, hv, hb⟩; exact ⟨_, rfl, hK _ w2 nofun hb.size (fun h => absurd h (by decide)) ((show Stb (fun u => owns w.heap.size #[.slice A0 n0 c0, .bool s0] u ∧ (owns (w.heap.size + 1) #[.slice A1 n1 c1, .bool s1] u ∧ (rds A0 n0 l0 u ∧ (rds A1 n1 l1 u ∧ (szW (w.heap.size + 1 + 1) u ∧ (tbs u ∧ blw w u)))))) from inferInstance).st _ _ hb hS) (keepL_below hb) (fun V hV => by obtain rfl := Option.some.inj hV; exact ⟨A, n, c, rfl, hc, hn, hv.rd⟩)⟩
      · intro a w' hS hO hF hD K hK; have ha := hO 3 (by rfl); refine if_ok (by rfl) ?_; refine wp_load_row 24 (.tmp 3) rfl (w.heap.size + 1) (ev ha) _ _ (0, 0) _ hS.2.1 Tryz.underlying24 rfl (by kernel_rfl) ?_; exact hK _ w' nofun (Nat.le_refl _) (fun h => absurd h (by decide)) hS (fun _ _ _ _ h => h) (fun V hV => by obtain rfl := Option.some.inj hV; exact rfl)
      · intro a w' hS hO hF hD K hK; have j0 := hF 2 rfl; have f0 := j0.2 21 rfl; rw [show valD _ _ 2 = _ from j0.1 _ rfl] at f0; refine if_ok (by rfl) ?_; refine wp_calls rfl (enters_of Tryz.func14 (by kernel_rfl) rfl) (args := #[(.agg #[.slice A1 n1 c1, .bool s1])]) (by simp [Act.eval, f0]) ?_; obtain ⟨O2, O3, r0, r1, BZ, TT, BB⟩ := id hS; apply Calls.mono; (with_reducible apply own_w); (repeat (first | assumption | (with_reducible (apply Nb.rd; assumption)) | (with_reducible (apply Rb.at_later; assumption)) | (with_reducible (apply Tabs.at_later; assumption)) | (with_reducible apply Rb.alloc) | (with_reducible apply Tabs.alloc) | (with_reducible apply Rb.drew) | (with_reducible apply Tabs.drew) | (show I64 _; unfold I64; omega) | omega)); rintro e w2 ⟨A, n, c, rfl, hc, hn, hv, hb⟩; exact ⟨_, rfl, hK _ w2 nofun hb.size (fun h => absurd h (by decide)) ((show Stb (fun u => owns w.heap.size #[.slice A0 n0 c0, .bool s0] u ∧ (owns (w.heap.size + 1) #[.slice A1 n1 c1, .bool s1] u ∧ (rds A0 n0 l0 u ∧ (rds A1 n1 l1 u ∧ (szW (w.heap.size + 1 + 1) u ∧ (tbs u ∧ blw w u)))))) from inferInstance).st _ _ hb hS) (keepL_below hb) (fun V hV => by obtain rfl := Option.some.inj hV; exact ⟨A, n, c, rfl, hc, hn, hv.rd⟩)⟩
      · intro a w' hS hO hF hD K hK; refine if_ok (by rfl) ?_; refine wp_alloc rfl ?_; have hb := below_new (Below.refl w'.heap.size w') (.cells #[.slice none 0 0, .bool false] 24); have hBz := hS.2.2.2.2.1; exact hK _ _ nofun hb.size (fun _ => ⟨rfl, by simp⟩) ((show Stb (fun u => owns w.heap.size #[.slice A0 n0 c0, .bool s0] u ∧ (owns (w.heap.size + 1) #[.slice A1 n1 c1, .bool s1] u ∧ (rds A0 n0 l0 u ∧ (rds A1 n1 l1 u ∧ (szW (w.heap.size + 1 + 1) u ∧ (tbs u ∧ blw w u)))))) from inferInstance).st _ _ hb hS) (keepL_below hb) (fun V hV => by obtain rfl := Option.some.inj hV; exact ⟨_, rfl, hBz, _, _, _, _, Own.new w' 24 _⟩)
      · intro a w' hS hO hF hD K hK; refine if_ok (by rfl) ?_; refine wp_alloc rfl ?_; have hb := below_new (Below.refl w'.heap.size w') (.cells #[.slice none 0 0, .bool false] 24); have hBz := hS.2.2.2.2.1; exact hK _ _ nofun hb.size (fun _ => ⟨rfl, by simp⟩) ((show Stb (fun u => owns w.heap.size #[.slice A0 n0 c0, .bool s0] u ∧ (owns (w.heap.size + 1) #[.slice A1 n1 c1, .bool s1] u ∧ (rds A0 n0 l0 u ∧ (rds A1 n1 l1 u ∧ (szW (w.heap.size + 1 + 1) u ∧ (tbs u ∧ blw w u)))))) from inferInstance).st _ _ hb hS) (keepL_below hb) (fun V hV => by obtain rfl := Option.some.inj hV; exact ⟨_, rfl, hBz, _, _, _, _, Own.new w' 24 _⟩)
      · intro a w' hS hO hF hD K hK; have j0 := hF 1 rfl; have f0 := j0.2 20 rfl; obtain ⟨Ay0, ny0, cy0, e0, hc0, hn0, hr0⟩ := j0.1 _ rfl; rw [e0] at f0; have jp := hF 4 rfl; have fp := jp.2 5 rfl; obtain ⟨g, eg, hg, X, q1, q2, q3, O⟩ := jp.1 _ rfl; have hgx := eg; rw [eg] at fp; have hB0 := hBase
        haveI : Over w g := ⟨Nat.le_trans (show w.heap.size ≤ _ from hB0) hg⟩
        haveI : Apart g w.heap.size := ⟨fun e => by subst e; have := hB0; omega⟩
        haveI : Apart g (w.heap.size + 1) := ⟨fun e => by subst e; have := hB0; omega⟩
        refine if_ok (by rfl) ?_; refine wp_store_row _ _ _ rfl g _ (ev fp) (ev f0) _ _ O vec_size rfl (by simp [Value.oneCell']) ?_
        exact hK _ _ (fun _ => rfl) (by simp [World.setRow]) (fun h => absurd h (by decide)) ((show Sst g (fun u => owns w.heap.size #[.slice A0 n0 c0, .bool s0] u ∧ (owns (w.heap.size + 1) #[.slice A1 n1 c1, .bool s1] u ∧ (rds A0 n0 l0 u ∧ (rds A1 n1 l1 u ∧ (szW (w.heap.size + 1 + 1) u ∧ (tbs u ∧ blw w u)))))) from inferInstance).st _ _ _ _ _ _ O hS) (keepL_store O (fun j V hj hV => by
          match j, hj, hV with
          | 0, _, hV => obtain rfl := Option.some.inj hV; exact ssx_un
          | 1, _, hV => obtain rfl := Option.some.inj hV; exact ssx_un
          | 2, _, hV => obtain rfl := Option.some.inj hV; exact ssx_un
          | 3, _, hV => obtain rfl := Option.some.inj hV; exact ssx_un
          | 4, _, hV => obtain rfl := Option.some.inj hV; exact ssx_fr
          | 5, _, hV => obtain rfl := Option.some.inj hV; exact ssx_fr
          | 6, hj, _ => exact absurd rfl hj
          | 7, _, hV => obtain rfl := Option.some.inj hV; exact ssx_filled (fun e => hD 5 4 (by decide) rfl rfl rfl rfl (e.trans hgx.symm))
          | q + 8, _, hV => simp at hV)) (fun V hV => by obtain rfl := Option.some.inj hV; rw [if_neg (by decide)]; exact ⟨g, Ay0, ny0, cy0, hgx, hg, O.row, hc0, hn0, hr0.row O⟩)
      · intro a w' hS hO hF hD K hK; have j0 := hF 3 rfl; have f0 := j0.2 22 rfl; obtain ⟨Ay0, ny0, cy0, e0, hc0, hn0, hr0⟩ := j0.1 _ rfl; rw [e0] at f0; have jp := hF 5 rfl; have fp := jp.2 6 rfl; obtain ⟨g, eg, hg, X, q1, q2, q3, O⟩ := jp.1 _ rfl; have hgx := eg; rw [eg] at fp; have hB0 := hBase
        haveI : Over w g := ⟨Nat.le_trans (show w.heap.size ≤ _ from hB0) hg⟩
        haveI : Apart g w.heap.size := ⟨fun e => by subst e; have := hB0; omega⟩
        haveI : Apart g (w.heap.size + 1) := ⟨fun e => by subst e; have := hB0; omega⟩
        refine if_ok (by rfl) ?_; refine wp_store_row _ _ _ rfl g _ (ev fp) (ev f0) _ _ O vec_size rfl (by simp [Value.oneCell']) ?_
        exact hK _ _ (fun _ => rfl) (by simp [World.setRow]) (fun h => absurd h (by decide)) ((show Sst g (fun u => owns w.heap.size #[.slice A0 n0 c0, .bool s0] u ∧ (owns (w.heap.size + 1) #[.slice A1 n1 c1, .bool s1] u ∧ (rds A0 n0 l0 u ∧ (rds A1 n1 l1 u ∧ (szW (w.heap.size + 1 + 1) u ∧ (tbs u ∧ blw w u)))))) from inferInstance).st _ _ _ _ _ _ O hS) (keepL_store O (fun j V hj hV => by
          match j, hj, hV with
          | 0, _, hV => obtain rfl := Option.some.inj hV; exact ssx_un
          | 1, _, hV => obtain rfl := Option.some.inj hV; exact ssx_un
          | 2, _, hV => obtain rfl := Option.some.inj hV; exact ssx_un
          | 3, _, hV => obtain rfl := Option.some.inj hV; exact ssx_un
          | 4, _, hV => obtain rfl := Option.some.inj hV; exact ssx_fr
          | 5, _, hV => obtain rfl := Option.some.inj hV; exact ssx_fr
          | 6, _, hV => obtain rfl := Option.some.inj hV; exact ssx_filled (fun e => hD 4 5 (by decide) rfl rfl rfl rfl (e.trans hgx.symm))
          | 7, hj, _ => exact absurd rfl hj
          | q + 8, _, hV => simp at hV)) (fun V hV => by obtain rfl := Option.some.inj hV; rw [if_neg (by decide)]; exact ⟨g, Ay0, ny0, cy0, hgx, hg, O.row, hc0, hn0, hr0.row O⟩)
    · intro vs u hl hS hV
      match vs, hl, hV with
      | [v0, v1, v2, v3, v4, v5, v6, v7], _, hV =>
        obtain ⟨g5, A5, n5, c5, e5, hB5, O5, hcc5, hnn5, r5⟩ := hV 6 _ rfl
        replace e5 : v4 = .pointer (some ⟨g5, 0, none⟩) := e5
        subst e5
        obtain ⟨g6, A6, n6, c6, e6, hB6, O6, hcc6, hnn6, r6⟩ := hV 7 _ rfl
        replace e6 : v5 = .pointer (some ⟨g6, 0, none⟩) := e6
        subst e6
        obtain rfl := hV 0 _ rfl
        obtain ⟨_, _, _, rfl, _, _, _⟩ := hV 1 _ rfl
        obtain rfl := hV 2 _ rfl
        obtain ⟨_, _, _, rfl, _, _, _⟩ := hV 3 _ rfl
        simp only [puts, Act.put, List.setIfInBounds_toArray, List.set_cons_zero, List.set_cons_succ]
        obtain ⟨O2, O3, r0, r1, BZ, TT, BB⟩ := hS
        clear hV
        replace O2 : Own u w.heap.size 24 #[.slice A0 n0 c0, .bool s0] := O2
        replace O3 : Own u (w.heap.size + 1) 24 #[.slice A1 n1 c1, .bool s1] := O3
        replace r0 : Rb u A0 n0 l0 := r0
        replace r1 : Rb u A1 n1 l1 := r1
        replace TT : Tabs u := TT
        replace BB : Below w.heap.size w u := BB
        clear hB5 hB6 hBase BZ HL
        replace O5 : Own u g5 24 #[.slice A5 n5 c5, .bool s0] := O5
        replace O6 : Own u g6 24 #[.slice A6 n6 c6, .bool s1] := O6
        have hc5 := hcc5
        have hc6 := hcc6
        replace O2 := Lib.hid O2
        replace O3 := Lib.hid O3
        replace O5 := Lib.hid O5
        replace O6 := Lib.hid O6
        replace r0 := Lib.hid r0
        replace r1 := Lib.hid r1
        replace r5 := Lib.hid r5
        replace r6 := Lib.hid r6
        replace TT := Lib.hid TT
        replace BB := Lib.hid BB
        go_wp2
        go_loopw [7] (fun q wr => ∃ k : Nat, k ≤ 2 ∧ q = .int .i64 k ∧ Hid (Below u.heap.size u wr)) (fun q _ => 2 - (intOf q).toNat)
        case atStart => exact ⟨0, by decide, rfl, Lib.hid (Below.refl _ _)⟩
        case round =>
          obtain ⟨k, hk, rfl, Bw⟩ := hrel
          by_cases hlk : k < 2
          · have dk : decide ((k : Int) < 2) = true := by simp; omega
            obtain ⟨wv, rfl⟩ : ∃ wv : World, wv = wr := ⟨_, rfl⟩
            go_wp2_with (go_at_call 15; refine (ones_any _).mono ?_; rintro e wx ⟨rfl, rfl⟩)
            have OR := Own.new wv 31 oneRow
            replace Bw := Lib.hid (below_new Bw.out (.cells oneRow 31))
            generalize wv.heap.size = gR at *
            generalize wv.alloc (.cells oneRow 31) = v at *
            replace OR := Lib.hid OR
            go_loopw [29] (fun q wr => ∃ i : Nat, i ≤ 9 ∧ q = .int .i64 i ∧ Hid (Below v.heap.size v wr)) (fun q _ => 9 - (intOf q).toNat)
            case atStart => exact ⟨0, by decide, rfl, Lib.hid (Below.refl _ _)⟩
            case round =>
              obtain ⟨i, hi, rfl, Bx⟩ := hrel
              by_cases hlt : i < 9
              · skip
                have hrow := one_row i hlt
                have OR' := OR.out.step Bx.out
                have e0 : wr.cell? ⟨gR, i * 2, none⟩ = some (.int .u8 (oneOp i)) := (OR'.cell (i * 2)).trans hrow.1
                have e1 : wr.cell? ⟨gR, i * 2 + 1, none⟩ = some (.func (.func (oneFn i)) #[] #[]) := (OR'.cell (i * 2 + 1)).trans hrow.2
                have e2 : wr.cell? ⟨gR, 0 + i * 2, none⟩ = some (.int .u8 (oneOp i)) := by rw [Nat.zero_add]; exact e0
                have e3 : wr.cell? ⟨gR, 0 + i * 2 + 1, none⟩ = some (.func (.func (oneFn i)) #[] #[]) := by rw [Nat.zero_add]; exact e1
                have d1 : decide ((i : Int) < 9) = true := by simp; omega
                have d2 : (0 : Int) ≤ i := by omega
                clear hrow OR'
                obtain ⟨eF, HF⟩ := one_fn i hlt
                have HX := fun A n c s l w h hn => rUn_ix i hlt A n c s l w h hn
                have hBi := Lib.hid (show i + 1 ≤ 9 from by omega)
                obtain ⟨C, hC⟩ : ∃ C, C = (oneV i (⟨l0, s0⟩ : V)) := ⟨_, rfl⟩
                replace HF := HF A5 n5 c5 s0 l0
                replace HX := HX A0 n0 c0 s0 l0
                rw [← hC] at HF HX
                generalize oneFn i = fn at *
                generalize oneOp i = op at *
                clear hC
                unfold Ent at eF
                replace HF := Lib.hid HF
                replace HX := Lib.hid HX
                have O2q := (O2.out.step (below_step Bw.out Bx.out)).alloc (.cells #[.int .u8 op, .func (.func fn) #[] #[]] 31)
                have O3q := (O3.out.step (below_step Bw.out Bx.out)).alloc (.cells #[.int .u8 op, .func (.func fn) #[] #[]] 31)
                have O5q := (O5.out.step (below_step Bw.out Bx.out)).alloc (.cells #[.int .u8 op, .func (.func fn) #[] #[]] 31)
                have O6q := (O6.out.step (below_step Bw.out Bx.out)).alloc (.cells #[.int .u8 op, .func (.func fn) #[] #[]] 31)
                have r0q := (r0.out.step (below_step Bw.out Bx.out)).alloc (.cells #[.int .u8 op, .func (.func fn) #[] #[]] 31)
                have r1q := (r1.out.step (below_step Bw.out Bx.out)).alloc (.cells #[.int .u8 op, .func (.func fn) #[] #[]] 31)
                have r5q := (r5.out.step (below_step Bw.out Bx.out)).alloc (.cells #[.int .u8 op, .func (.func fn) #[] #[]] 31)
                have r6q := (r6.out.step (below_step Bw.out Bx.out)).alloc (.cells #[.int .u8 op, .func (.func fn) #[] #[]] 31)
                have TTq := (TT.out.step (below_step Bw.out Bx.out)).alloc (.cells #[.int .u8 op, .func (.func fn) #[] #[]] 31)
                have OQ := Own.new wr 31 #[.int .u8 op, .func (.func fn) #[] #[]]
                have BBq := below_new (below_step BB.out (below_step Bw.out Bx.out)) (.cells #[.int .u8 op, .func (.func fn) #[] #[]] 31)
                have BXq := Lib.hid (below_new Bx.out (.cells #[.int .u8 op, .func (.func fn) #[] #[]] 31))
                have k50 := O5q.cell 0
                have k51 := O5q.cell 1
                have k60 := O6q.cell 0
                have k61 := O6q.cell 1
                have kQ0 := OQ.cell 0
                have kQ1 := OQ.cell 1
                go_wp2_with (go_at_fn fn; refine (HF.out _ r5q hc5 TTq).mono ?_; rintro e w9 ⟨A9, n9, c9, rfl, hc9, hn9, hv, hb⟩; have kb := hb; replace O2q := (O2q.step kb).alloc (.cells #[.slice A9 n9 c9, .bool C.s] 24); replace O3q := (O3q.step kb).alloc (.cells #[.slice A9 n9 c9, .bool C.s] 24); replace O5q := (O5q.step kb).alloc (.cells #[.slice A9 n9 c9, .bool C.s] 24); replace O6q := (O6q.step kb).alloc (.cells #[.slice A9 n9 c9, .bool C.s] 24); replace r0q := (r0q.step kb).alloc (.cells #[.slice A9 n9 c9, .bool C.s] 24); replace r1q := (r1q.step kb).alloc (.cells #[.slice A9 n9 c9, .bool C.s] 24); replace r5q := (r5q.step kb).alloc (.cells #[.slice A9 n9 c9, .bool C.s] 24); replace r6q := (r6q.step kb).alloc (.cells #[.slice A9 n9 c9, .bool C.s] 24); replace TTq := (TTq.step kb).alloc (.cells #[.slice A9 n9 c9, .bool C.s] 24); replace BBq := below_new (below_step BBq kb) (.cells #[.slice A9 n9 c9, .bool C.s] 24); have OQ2 := (OQ.step kb).alloc (.cells #[.slice A9 n9 c9, .bool C.s] 24); have B8 := below_new kb (.cells #[.slice A9 n9 c9, .bool C.s] 24); have O10q := Own.new w9 24 #[.slice A9 n9 c9, .bool C.s]; have r9q := hv.rd.alloc (.cells #[.slice A9 n9 c9, .bool C.s] 24); have N9 := hv.alloc (.cells #[.slice A9 n9 c9, .bool C.s] 24))
                clear k50 k51 k60 k61 kQ0 kQ1 e0 e1 e2 e3 d1 d2
                refine region_y (by kernel_rfl) (fun u => owns w.heap.size #[.slice A0 n0 c0, .bool s0] u ∧ (owns (w.heap.size + 1) #[.slice A1 n1 c1, .bool s1] u ∧ (owns g5 #[.slice A5 n5 c5, .bool s0] u ∧ (owns g6 #[.slice A6 n6 c6, .bool s1] u ∧ (owns w9.heap.size #[.slice A9 n9 c9, .bool C.s] u ∧ (rds A0 n0 l0 u ∧ (rds A1 n1 l1 u ∧ (rds A5 n5 l0 u ∧ (rds A6 n6 l1 u ∧ (rds A9 n9 C.l u ∧ (ownT wr.heap.size 31 #[.int .u8 op, .func (.func fn) #[] #[]] u ∧ (nbs (wr.alloc (.cells #[.int .u8 op, .func (.func fn) #[] #[]] 31)).heap.size A9 n9 c9 C.l u ∧ (blw (wr.alloc (.cells #[.int .u8 op, .func (.func fn) #[] #[]] 31)) u ∧ (tbs u ∧ blw w u)))))))))))))) [] [isV (.agg #[.slice A9 n9 c9, .bool C.s]), isV (.pointer (some ⟨wr.heap.size, 0, none⟩)), isV ((.int .u8 op)), isV (.agg #[.slice A0 n0 c0, .bool s0]), isW C, isV (.bool true), isV (.bool false)] [some 37, some 38, some 39, some 40, some 41, some 42, some 43] [[], [], [1], [], [2, 3], [0, 4, 4], [5]] (by kernel_rfl) (by kernel_rfl) rfl (by kernel_rfl) (by kernel_rfl) (by kernel_rfl) ⟨O2q.drew, O3q.drew, O5q.drew, O6q.drew, O10q.drew, r0q.drew, r1q.drew, r5q.drew, r6q.drew, r9q.drew, OQ2.drew, N9.drew, below_drew B8, TTq.drew, below_drew BBq⟩ (fun _ h => by cases h) ?_ ?_
                · refine ⟨?_, ?_, ?_, ?_, ?_, ?_, ?_, trivial⟩
                  · intro a w' hS hO hF' hP K hK; have ha := hO 10 (by rfl); refine if_ok (by rfl) ?_; refine wp_load_row 24 (.tmp 10) rfl w9.heap.size (ev ha) _ _ (0, 0) _ hS.2.2.2.2.1 Tryz.underlying24 rfl (by kernel_rfl) ?_; exact hK _ w' nofun (keep_same hS) rfl
                  · intro a w' hS hO hF' hP K hK; have ha := hO 9 (by rfl); refine if_ok (by rfl) ?_; refine wp_val (w' := w') (q := .pointer (some ⟨wr.heap.size, 0, none⟩)) (by unfold execOp; simp only [ev ha]; simp [go_sem]) ?_; exact hK _ w' nofun (keep_same hS) rfl
                  · intro a w' hS hO hF' hP K hK; obtain ⟨_, f0, rfl⟩ := (hF' 1 rfl).1 38 _ rfl rfl; have hc := hS.2.2.2.2.2.2.2.2.2.2.1.cell 0; refine if_ok (by rfl) ?_; refine wp_val (w' := w') (q := (.int .u8 op)) (by unfold execOp; simp only [ev f0]; simp [go_sem, hc]) ?_; exact hK _ w' nofun (keep_same hS) rfl
                  · intro a w' hS hO hF' hP K hK; have ha := hO 2 (by rfl); refine if_ok (by rfl) ?_; refine wp_load_row 24 (.tmp 2) rfl w.heap.size (ev ha) _ _ (0, 0) _ hS.1 Tryz.underlying24 rfl (by kernel_rfl) ?_; exact hK _ w' nofun (keep_same hS) rfl
                  · intro a w' hS hO hF' hP K hK; obtain ⟨_, f0, rfl⟩ := (hF' 2 rfl).1 39 _ rfl rfl; obtain ⟨_, f1, rfl⟩ := (hF' 3 rfl).1 40 _ rfl rfl; refine if_ok (by rfl) ?_; refine wp_calls rfl (enters_of Tryz.func17 (by kernel_rfl) rfl) (args := #[((.int .u8 op)), (.agg #[.slice A0 n0 c0, .bool s0])]) (by simp [Act.eval, f0, f1]) ?_; obtain ⟨O2, O3, O5, O6, O10, r0, r1, r5, r6, r9, OQ, N9, B8, TT, BB⟩ := id hS; refine Calls.mono (HX.out _ r0 (by omega)) ?_; rintro e w2 ⟨A, n, c, rfl, hc, hn, hv, hb⟩; exact ⟨_, rfl, hK _ w2 nofun (keep_below hb hS) ⟨A, n, c, rfl, hc, hn, hv.rd⟩⟩
                  · intro a w' hS hO hF' hP K hK; obtain ⟨_, f0, rfl⟩ := (hF' 0 rfl).1 37 _ rfl rfl; obtain ⟨_, f1, Ay1, ny1, cy1, rfl, hc1, hn1, hr1⟩ := (hF' 4 rfl).1 41 _ rfl rfl; refine if_ok (by rfl) ?_; refine wp_calls rfl (enters_of Tryz.func16 (by kernel_rfl) rfl) (args := #[(.agg #[.slice A9 n9 c9, .bool C.s]), (.agg #[.slice Ay1 ny1 cy1, .bool C.s])]) (by simp [Act.eval, f0, f1]) ?_; obtain ⟨O2, O3, O5, O6, O10, r0, r1, r5, r6, r9, OQ, N9, B8, TT, BB⟩ := id hS; apply Calls.mono; (with_reducible apply same_t); (repeat (first | assumption | (with_reducible (apply Nb.rd; assumption)) | (with_reducible (apply Rb.at_later; assumption)) | (with_reducible (apply Tabs.at_later; assumption)) | (with_reducible apply Rb.alloc) | (with_reducible apply Tabs.alloc) | (with_reducible apply Rb.drew) | (with_reducible apply Tabs.drew) | (show I64 _; unfold I64; omega) | omega)); (first | exact sameV_self _ | (decide +kernel)); rintro e w2 ⟨rfl, hb⟩; exact ⟨_, rfl, hK _ w2 nofun (keep_below hb hS) rfl⟩
                  · intro a w' hS hO hF' hP K hK; obtain ⟨_, f0, rfl⟩ := (hF' 5 rfl).1 42 _ rfl rfl; refine if_ok (by rfl) ?_; refine wp_not _ rfl (ev f0) ?_; exact hK _ w' nofun (keep_same hS) rfl
                · intro vs u hl hS hV
                  match vs, hl, hV with
                  | [v0, v1, v2, v3, v4, v5, v6], _, hV =>
                    obtain rfl := hV 0 _ rfl
                    obtain rfl := hV 1 _ rfl
                    obtain rfl := hV 2 _ rfl
                    obtain rfl := hV 3 _ rfl
                    obtain rfl := hV 5 _ rfl
                    obtain rfl := hV 6 _ rfl
                    simp only [puts, Act.put, List.setIfInBounds_toArray, List.set_cons_zero, List.set_cons_succ]
                    obtain ⟨O2, O3, O5, O6, O10, r0, r1, r5, r6, r9, OQ, N9, B8, TT, BB⟩ := hS
                    clear hV
                    replace O2 : Own u w.heap.size 24 #[.slice A0 n0 c0, .bool s0] := O2
                    replace O3 : Own u (w.heap.size + 1) 24 #[.slice A1 n1 c1, .bool s1] := O3
                    replace O5 : Own u g5 24 #[.slice A5 n5 c5, .bool s0] := O5
                    replace O6 : Own u g6 24 #[.slice A6 n6 c6, .bool s1] := O6
                    replace O10 : Own u w9.heap.size 24 #[.slice A9 n9 c9, .bool C.s] := O10
                    replace r0 : Rb u A0 n0 l0 := r0
                    replace r1 : Rb u A1 n1 l1 := r1
                    replace r5 : Rb u A5 n5 l0 := r5
                    replace r6 : Rb u A6 n6 l1 := r6
                    replace r9 : Rb u A9 n9 C.l := r9
                    replace OQ : Own u wr.heap.size 31 #[.int .u8 op, .func (.func fn) #[] #[]] := OQ
                    replace N9 : Nb u (wr.alloc (.cells #[.int .u8 op, .func (.func fn) #[] #[]] 31)).heap.size A9 n9 c9 C.l := N9
                    replace B8 : Below (wr.alloc (.cells #[.int .u8 op, .func (.func fn) #[] #[]] 31)).heap.size (wr.alloc (.cells #[.int .u8 op, .func (.func fn) #[] #[]] 31)) u := B8
                    replace TT : Tabs u := TT
                    replace BB : Below w.heap.size w u := BB
                    have x0 := O10.cell 0
                    have x1 := O10.cell 1
                    clear O2 O3 O5 O6 r0 r1 r5 r6 OQ TT BB r9
                    go_wp2_with (go_at_call 18; refine (spoil1 B8 N9 hn9 _ (by simp)).mono ?_; rintro e w7 ⟨rfl, hb⟩; have BY := below_step BXq.out hb)
                    go_roundw
                    case rel => exact ⟨i + 1, hBi.out, by go_num, Lib.hid BY⟩
                    case measure => simp [intOf]; have := hBi.out; omega
              · obtain rfl : i = 9 := by omega
                replace Bw := Lib.hid (below_step Bw.out Bx.out)
                clear Bx OR
                obtain ⟨wv, rfl⟩ : ∃ wv : World, wv = wr := ⟨_, rfl⟩
                go_wp2_with (go_at_call 19; refine (twos_any _).mono ?_; rintro e wx ⟨rfl, rfl⟩)
                have OR := Own.new wv 39 twoRow
                replace Bw := Lib.hid (below_new Bw.out (.cells twoRow 39))
                generalize wv.heap.size = gT at *
                generalize wv.alloc (.cells twoRow 39) = v at *
                replace OR := Lib.hid OR
                go_loopw [50] (fun q wr => ∃ i : Nat, i ≤ 24 ∧ q = .int .i64 i ∧ Hid (Below v.heap.size v wr)) (fun q _ => 24 - (intOf q).toNat)
                case atStart => exact ⟨0, by decide, rfl, Lib.hid (Below.refl _ _)⟩
                case round =>
                  obtain ⟨i, hi, rfl, Bx⟩ := hrel
                  by_cases hlt : i < 24
                  · skip
                    have hrow := two_row i hlt
                    have OR' := OR.out.step Bx.out
                    have e0 : wr.cell? ⟨gT, i * 2, none⟩ = some (.int .u8 (twoOp i)) := (OR'.cell (i * 2)).trans hrow.1
                    have e1 : wr.cell? ⟨gT, i * 2 + 1, none⟩ = some (.func (.func (twoFn i)) #[] #[]) := (OR'.cell (i * 2 + 1)).trans hrow.2
                    have e2 : wr.cell? ⟨gT, 0 + i * 2, none⟩ = some (.int .u8 (twoOp i)) := by rw [Nat.zero_add]; exact e0
                    have e3 : wr.cell? ⟨gT, 0 + i * 2 + 1, none⟩ = some (.func (.func (twoFn i)) #[] #[]) := by rw [Nat.zero_add]; exact e1
                    have d1 : decide ((i : Int) < 24) = true := by simp; omega
                    have d2 : (0 : Int) ≤ i := by omega
                    clear hrow OR'
                    obtain ⟨eF, HF⟩ := two_fn i hlt
                    have HX := fun A Y n m c d s t l k w h h' hn hm => rBin_ix i hlt A Y n m c d s t l k w h h' hn hm
                    have hBi := Lib.hid (show i + 1 ≤ 24 from by omega)
                    obtain ⟨C, hC⟩ : ∃ C, C = (twoV i (⟨l0, s0⟩ : V) (⟨l1, s1⟩ : V)) := ⟨_, rfl⟩
                    replace HF := HF A5 A6 n5 n6 c5 c6 s0 s1 l0 l1
                    replace HX := HX A0 A1 n0 n1 c0 c1 s0 s1 l0 l1
                    rw [← hC] at HF HX
                    generalize twoFn i = fn at *
                    generalize twoOp i = op at *
                    clear hC
                    unfold Ent at eF
                    replace HF := Lib.hid HF
                    replace HX := Lib.hid HX
                    have O2q := (O2.out.step (below_step Bw.out Bx.out)).alloc (.cells #[.int .u8 op, .func (.func fn) #[] #[]] 39)
                    have O3q := (O3.out.step (below_step Bw.out Bx.out)).alloc (.cells #[.int .u8 op, .func (.func fn) #[] #[]] 39)
                    have O5q := (O5.out.step (below_step Bw.out Bx.out)).alloc (.cells #[.int .u8 op, .func (.func fn) #[] #[]] 39)
                    have O6q := (O6.out.step (below_step Bw.out Bx.out)).alloc (.cells #[.int .u8 op, .func (.func fn) #[] #[]] 39)
                    have r0q := (r0.out.step (below_step Bw.out Bx.out)).alloc (.cells #[.int .u8 op, .func (.func fn) #[] #[]] 39)
                    have r1q := (r1.out.step (below_step Bw.out Bx.out)).alloc (.cells #[.int .u8 op, .func (.func fn) #[] #[]] 39)
                    have r5q := (r5.out.step (below_step Bw.out Bx.out)).alloc (.cells #[.int .u8 op, .func (.func fn) #[] #[]] 39)
                    have r6q := (r6.out.step (below_step Bw.out Bx.out)).alloc (.cells #[.int .u8 op, .func (.func fn) #[] #[]] 39)
                    have TTq := (TT.out.step (below_step Bw.out Bx.out)).alloc (.cells #[.int .u8 op, .func (.func fn) #[] #[]] 39)
                    have OQ := Own.new wr 39 #[.int .u8 op, .func (.func fn) #[] #[]]
                    have BBq := below_new (below_step BB.out (below_step Bw.out Bx.out)) (.cells #[.int .u8 op, .func (.func fn) #[] #[]] 39)
                    have BXq := Lib.hid (below_new Bx.out (.cells #[.int .u8 op, .func (.func fn) #[] #[]] 39))
                    have k50 := O5q.cell 0
                    have k51 := O5q.cell 1
                    have k60 := O6q.cell 0
                    have k61 := O6q.cell 1
                    have kQ0 := OQ.cell 0
                    have kQ1 := OQ.cell 1
                    go_wp2_with (go_at_fn fn; refine (HF.out _ r5q r6q hc5 hc6 TTq).mono ?_; rintro e w9 ⟨A9, n9, c9, rfl, hc9, hn9, hv, hb⟩; have kb := hb; replace O2q := (O2q.step kb).alloc (.cells #[.slice A9 n9 c9, .bool C.s] 24); replace O3q := (O3q.step kb).alloc (.cells #[.slice A9 n9 c9, .bool C.s] 24); replace O5q := (O5q.step kb).alloc (.cells #[.slice A9 n9 c9, .bool C.s] 24); replace O6q := (O6q.step kb).alloc (.cells #[.slice A9 n9 c9, .bool C.s] 24); replace r0q := (r0q.step kb).alloc (.cells #[.slice A9 n9 c9, .bool C.s] 24); replace r1q := (r1q.step kb).alloc (.cells #[.slice A9 n9 c9, .bool C.s] 24); replace r5q := (r5q.step kb).alloc (.cells #[.slice A9 n9 c9, .bool C.s] 24); replace r6q := (r6q.step kb).alloc (.cells #[.slice A9 n9 c9, .bool C.s] 24); replace TTq := (TTq.step kb).alloc (.cells #[.slice A9 n9 c9, .bool C.s] 24); replace BBq := below_new (below_step BBq kb) (.cells #[.slice A9 n9 c9, .bool C.s] 24); have OQ2 := (OQ.step kb).alloc (.cells #[.slice A9 n9 c9, .bool C.s] 24); have B8 := below_new kb (.cells #[.slice A9 n9 c9, .bool C.s] 24); have O13q := Own.new w9 24 #[.slice A9 n9 c9, .bool C.s]; have r9q := hv.rd.alloc (.cells #[.slice A9 n9 c9, .bool C.s] 24); have N9 := hv.alloc (.cells #[.slice A9 n9 c9, .bool C.s] 24))
                    clear k50 k51 k60 k61 kQ0 kQ1 e0 e1 e2 e3 d1 d2
                    refine region_y (by kernel_rfl) (fun u => owns w.heap.size #[.slice A0 n0 c0, .bool s0] u ∧ (owns (w.heap.size + 1) #[.slice A1 n1 c1, .bool s1] u ∧ (owns g5 #[.slice A5 n5 c5, .bool s0] u ∧ (owns g6 #[.slice A6 n6 c6, .bool s1] u ∧ (owns w9.heap.size #[.slice A9 n9 c9, .bool C.s] u ∧ (rds A0 n0 l0 u ∧ (rds A1 n1 l1 u ∧ (rds A5 n5 l0 u ∧ (rds A6 n6 l1 u ∧ (rds A9 n9 C.l u ∧ (ownT wr.heap.size 39 #[.int .u8 op, .func (.func fn) #[] #[]] u ∧ (nbs (wr.alloc (.cells #[.int .u8 op, .func (.func fn) #[] #[]] 39)).heap.size A9 n9 c9 C.l u ∧ (blw (wr.alloc (.cells #[.int .u8 op, .func (.func fn) #[] #[]] 39)) u ∧ (tbs u ∧ blw w u)))))))))))))) [] [isV (.agg #[.slice A9 n9 c9, .bool C.s]), isV (.pointer (some ⟨wr.heap.size, 0, none⟩)), isV ((.int .u8 op)), isV (.agg #[.slice A0 n0 c0, .bool s0]), isV (.agg #[.slice A1 n1 c1, .bool s1]), isW C, isV (.bool true), isV (.bool false)] [some 59, some 60, some 61, some 62, some 63, some 64, some 65, some 66] [[], [], [1], [], [], [2, 3, 4], [0, 5, 5], [6]] (by kernel_rfl) (by kernel_rfl) rfl (by kernel_rfl) (by kernel_rfl) (by kernel_rfl) ⟨O2q.drew, O3q.drew, O5q.drew, O6q.drew, O13q.drew, r0q.drew, r1q.drew, r5q.drew, r6q.drew, r9q.drew, OQ2.drew, N9.drew, below_drew B8, TTq.drew, below_drew BBq⟩ (fun _ h => by cases h) ?_ ?_
                    · refine ⟨?_, ?_, ?_, ?_, ?_, ?_, ?_, ?_, trivial⟩
                      · intro a w' hS hO hF' hP K hK; have ha := hO 13 (by rfl); refine if_ok (by rfl) ?_; refine wp_load_row 24 (.tmp 13) rfl w9.heap.size (ev ha) _ _ (0, 0) _ hS.2.2.2.2.1 Tryz.underlying24 rfl (by kernel_rfl) ?_; exact hK _ w' nofun (keep_same hS) rfl
                      · intro a w' hS hO hF' hP K hK; have ha := hO 12 (by rfl); refine if_ok (by rfl) ?_; refine wp_val (w' := w') (q := .pointer (some ⟨wr.heap.size, 0, none⟩)) (by unfold execOp; simp only [ev ha]; simp [go_sem]) ?_; exact hK _ w' nofun (keep_same hS) rfl
                      · intro a w' hS hO hF' hP K hK; obtain ⟨_, f0, rfl⟩ := (hF' 1 rfl).1 60 _ rfl rfl; have hc := hS.2.2.2.2.2.2.2.2.2.2.1.cell 0; refine if_ok (by rfl) ?_; refine wp_val (w' := w') (q := (.int .u8 op)) (by unfold execOp; simp only [ev f0]; simp [go_sem, hc]) ?_; exact hK _ w' nofun (keep_same hS) rfl
                      · intro a w' hS hO hF' hP K hK; have ha := hO 2 (by rfl); refine if_ok (by rfl) ?_; refine wp_load_row 24 (.tmp 2) rfl w.heap.size (ev ha) _ _ (0, 0) _ hS.1 Tryz.underlying24 rfl (by kernel_rfl) ?_; exact hK _ w' nofun (keep_same hS) rfl
                      · intro a w' hS hO hF' hP K hK; have ha := hO 3 (by rfl); refine if_ok (by rfl) ?_; refine wp_load_row 24 (.tmp 3) rfl (w.heap.size + 1) (ev ha) _ _ (0, 0) _ hS.2.1 Tryz.underlying24 rfl (by kernel_rfl) ?_; exact hK _ w' nofun (keep_same hS) rfl
                      · intro a w' hS hO hF' hP K hK; obtain ⟨_, f0, rfl⟩ := (hF' 2 rfl).1 61 _ rfl rfl; obtain ⟨_, f1, rfl⟩ := (hF' 3 rfl).1 62 _ rfl rfl; obtain ⟨_, f2, rfl⟩ := (hF' 4 rfl).1 63 _ rfl rfl; refine if_ok (by rfl) ?_; refine wp_calls rfl (enters_of Tryz.func20 (by kernel_rfl) rfl) (args := #[((.int .u8 op)), (.agg #[.slice A0 n0 c0, .bool s0]), (.agg #[.slice A1 n1 c1, .bool s1])]) (by simp [Act.eval, f0, f1, f2]) ?_; obtain ⟨O2, O3, O5, O6, O13, r0, r1, r5, r6, r9, OQ, N9, B8, TT, BB⟩ := id hS; refine Calls.mono (HX.out _ r0 r1 (by omega) (by omega)) ?_; rintro e w2 ⟨A, n, c, rfl, hc, hn, hv, hb⟩; exact ⟨_, rfl, hK _ w2 nofun (keep_below hb hS) ⟨A, n, c, rfl, hc, hn, hv.rd⟩⟩
                      · intro a w' hS hO hF' hP K hK; obtain ⟨_, f0, rfl⟩ := (hF' 0 rfl).1 59 _ rfl rfl; obtain ⟨_, f1, Ay1, ny1, cy1, rfl, hc1, hn1, hr1⟩ := (hF' 5 rfl).1 64 _ rfl rfl; refine if_ok (by rfl) ?_; refine wp_calls rfl (enters_of Tryz.func16 (by kernel_rfl) rfl) (args := #[(.agg #[.slice A9 n9 c9, .bool C.s]), (.agg #[.slice Ay1 ny1 cy1, .bool C.s])]) (by simp [Act.eval, f0, f1]) ?_; obtain ⟨O2, O3, O5, O6, O13, r0, r1, r5, r6, r9, OQ, N9, B8, TT, BB⟩ := id hS; apply Calls.mono; (with_reducible apply same_t); (repeat (first | assumption | (with_reducible (apply Nb.rd; assumption)) | (with_reducible (apply Rb.at_later; assumption)) | (with_reducible (apply Tabs.at_later; assumption)) | (with_reducible apply Rb.alloc) | (with_reducible apply Tabs.alloc) | (with_reducible apply Rb.drew) | (with_reducible apply Tabs.drew) | (show I64 _; unfold I64; omega) | omega)); (first | exact sameV_self _ | (decide +kernel)); rintro e w2 ⟨rfl, hb⟩; exact ⟨_, rfl, hK _ w2 nofun (keep_below hb hS) rfl⟩
                      · intro a w' hS hO hF' hP K hK; obtain ⟨_, f0, rfl⟩ := (hF' 6 rfl).1 65 _ rfl rfl; refine if_ok (by rfl) ?_; refine wp_not _ rfl (ev f0) ?_; exact hK _ w' nofun (keep_same hS) rfl
                    · intro vs u hl hS hV
                      match vs, hl, hV with
                      | [v0, v1, v2, v3, v4, v5, v6, v7], _, hV =>
                        obtain rfl := hV 0 _ rfl
                        obtain rfl := hV 1 _ rfl
                        obtain rfl := hV 2 _ rfl
                        obtain rfl := hV 3 _ rfl
                        obtain rfl := hV 4 _ rfl
                        obtain rfl := hV 6 _ rfl
                        obtain rfl := hV 7 _ rfl
                        simp only [puts, Act.put, List.setIfInBounds_toArray, List.set_cons_zero, List.set_cons_succ]
                        obtain ⟨O2, O3, O5, O6, O13, r0, r1, r5, r6, r9, OQ, N9, B8, TT, BB⟩ := hS
                        clear hV
                        replace O2 : Own u w.heap.size 24 #[.slice A0 n0 c0, .bool s0] := O2
                        replace O3 : Own u (w.heap.size + 1) 24 #[.slice A1 n1 c1, .bool s1] := O3
                        replace O5 : Own u g5 24 #[.slice A5 n5 c5, .bool s0] := O5
                        replace O6 : Own u g6 24 #[.slice A6 n6 c6, .bool s1] := O6
                        replace O13 : Own u w9.heap.size 24 #[.slice A9 n9 c9, .bool C.s] := O13
                        replace r0 : Rb u A0 n0 l0 := r0
                        replace r1 : Rb u A1 n1 l1 := r1
                        replace r5 : Rb u A5 n5 l0 := r5
                        replace r6 : Rb u A6 n6 l1 := r6
                        replace r9 : Rb u A9 n9 C.l := r9
                        replace OQ : Own u wr.heap.size 39 #[.int .u8 op, .func (.func fn) #[] #[]] := OQ
                        replace N9 : Nb u (wr.alloc (.cells #[.int .u8 op, .func (.func fn) #[] #[]] 39)).heap.size A9 n9 c9 C.l := N9
                        replace B8 : Below (wr.alloc (.cells #[.int .u8 op, .func (.func fn) #[] #[]] 39)).heap.size (wr.alloc (.cells #[.int .u8 op, .func (.func fn) #[] #[]] 39)) u := B8
                        replace TT : Tabs u := TT
                        replace BB : Below w.heap.size w u := BB
                        have x0 := O13.cell 0
                        have x1 := O13.cell 1
                        clear O2 O3 O5 O6 r0 r1 r5 r6 OQ TT BB r9
                        go_wp2_with (go_at_call 18; refine (spoil1 B8 N9 hn9 _ (by simp)).mono ?_; rintro e w7 ⟨rfl, hb⟩; have BY := below_step BXq.out hb)
                        go_roundw
                        case rel => exact ⟨i + 1, hBi.out, by go_num, Lib.hid BY⟩
                        case measure => simp [intOf]; have := hBi.out; omega
                  · obtain rfl : i = 24 := by omega
                    replace Bw := Lib.hid (below_step Bw.out Bx.out)
                    clear Bx OR
                    obtain ⟨wv, rfl⟩ : ∃ wv : World, wv = wr := ⟨_, rfl⟩
                    go_wp2
                    go_roundw
                    case rel => exact ⟨k + 1, by omega, by go_num, Bw⟩
                    case measure => simp [intOf]; omega
          · obtain rfl : k = 2 := by omega
            replace O2 := O2.out.step Bw.out
            replace O3 := O3.out.step Bw.out
            replace O5 := O5.out.step Bw.out
            replace O6 := O6.out.step Bw.out
            replace r0 := r0.out.step Bw.out
            replace r1 := r1.out.step Bw.out
            replace r5 := r5.out.step Bw.out
            replace r6 := r6.out.step Bw.out
            replace TT := TT.out.step Bw.out
            replace BB := below_step BB.out Bw.out
            go_wp2
            refine region_y (by kernel_rfl) (fun u => owns w.heap.size #[.slice A0 n0 c0, .bool s0] u ∧ (owns (w.heap.size + 1) #[.slice A1 n1 c1, .bool s1] u ∧ (owns g5 #[.slice A5 n5 c5, .bool s0] u ∧ (owns g6 #[.slice A6 n6 c6, .bool s1] u ∧ (rds A0 n0 l0 u ∧ (rds A1 n1 l1 u ∧ (rds A5 n5 l0 u ∧ (rds A6 n6 l1 u ∧ (tbs u ∧ blw w u))))))))) [] [isV (.agg #[.slice A5 n5 c5, .bool s0]), isV (.agg #[.slice A6 n6 c6, .bool s1]), isV (.bool (mtB zW (⟨l0, s0⟩ : V) (⟨l1, s1⟩ : V))), isV (.agg #[.slice A0 n0 c0, .bool s0]), isV (.agg #[.slice A1 n1 c1, .bool s1]), isV (.bool (mtB zW (⟨l0, s0⟩ : V) (⟨l1, s1⟩ : V))), isV (.bool true), isV (.bool true), isV (.agg #[.slice A5 n5 c5, .bool s0]), isV (.agg #[.slice A6 n6 c6, .bool s1]), isV (.bool (mtB unkB (⟨l0, s0⟩ : V) (⟨l1, s1⟩ : V))), isV (.agg #[.slice A0 n0 c0, .bool s0]), isV (.agg #[.slice A1 n1 c1, .bool s1]), isV (.bool (mtB unkB (⟨l0, s0⟩ : V) (⟨l1, s1⟩ : V))), isV (.bool true), isV (.bool true), isV (.bool true), isV (.agg #[.slice A5 n5 c5, .bool s0]), isV (.agg #[.slice A0 n0 c0, .bool s0]), isV (.bool true), isV (.bool true), isV (.bool true), isV (.agg #[.slice A6 n6 c6, .bool s1]), isV (.agg #[.slice A1 n1 c1, .bool s1]), isV (.bool true), isV (.bool true), isV (.bool true), isV (.bool true), isV (.bool true), isV (.bool true)] [some 71, some 72, some 73, some 74, some 75, some 76, some 77, some 78, some 79, some 80, some 81, some 82, some 83, some 84, some 85, some 86, some 87, some 88, some 89, some 90, some 91, some 92, some 93, some 94, some 95, some 96, some 97, some 98, some 99, some 4] [[], [], [0, 1], [], [], [3, 4, 2], [2, 5], [6, 5], [7], [7], [8, 9, 7, 7], [7], [7], [11, 12, 10, 7], [10, 13, 7], [7, 14], [15, 13], [16], [16], [17, 18, 16, 16], [16, 19], [20, 19], [21], [21], [22, 23, 21, 21], [21, 24], [25, 24], [26, 26], [26, 27], [28, 27, 0, 1, 2, 3, 4, 5, 6, 7, 8, 9, 10, 11, 12, 13, 14, 15, 16, 17, 18, 19, 20, 21, 22, 23, 24, 25, 26, 27, 28]] (by kernel_rfl) (by kernel_rfl) rfl (by kernel_rfl) (by kernel_rfl) (by kernel_rfl) ⟨O2.drew, O3.drew, O5.drew, O6.drew, r0.drew, r1.drew, r5.drew, r6.drew, TT.drew, below_drew BB⟩ (fun _ h => by cases h) ?_ ?_
            · refine ⟨?_, ?_, ?_, ?_, ?_, ?_, ?_, ?_, ?_, ?_, ?_, ?_, ?_, ?_, ?_, ?_, ?_, ?_, ?_, ?_, ?_, ?_, ?_, ?_, ?_, ?_, ?_, ?_, ?_, ?_, trivial⟩
              · intro a w' hS hO hF' hP K hK; have ha := hO 5 (by rfl); refine if_ok (by rfl) ?_; refine wp_load_row 24 (.tmp 5) rfl g5 (ev ha) _ _ (0, 0) _ hS.2.2.1 Tryz.underlying24 rfl (by kernel_rfl) ?_; exact hK _ w' nofun (keep_same hS) rfl
              · intro a w' hS hO hF' hP K hK; have ha := hO 6 (by rfl); refine if_ok (by rfl) ?_; refine wp_load_row 24 (.tmp 6) rfl g6 (ev ha) _ _ (0, 0) _ hS.2.2.2.1 Tryz.underlying24 rfl (by kernel_rfl) ?_; exact hK _ w' nofun (keep_same hS) rfl
              · intro a w' hS hO hF' hP K hK; obtain ⟨_, f0, rfl⟩ := (hF' 0 rfl).1 71 _ rfl rfl; obtain ⟨_, f1, rfl⟩ := (hF' 1 rfl).1 72 _ rfl rfl; refine if_ok (by rfl) ?_; refine wp_calls rfl (enters_of Tryz.func21 (by kernel_rfl) rfl) (args := #[(.agg #[.slice A5 n5 c5, .bool s0]), (.agg #[.slice A6 n6 c6, .bool s1])]) (by simp [Act.eval, f0, f1]) ?_; obtain ⟨O2, O3, O5, O6, r0, r1, r5, r6, TT, BB⟩ := id hS; apply Calls.mono; (with_reducible apply MatchZ_any); (repeat (first | assumption | (with_reducible (apply Nb.rd; assumption)) | (with_reducible (apply Rb.at_later; assumption)) | (with_reducible (apply Tabs.at_later; assumption)) | (with_reducible apply Rb.alloc) | (with_reducible apply Tabs.alloc) | (with_reducible apply Rb.drew) | (with_reducible apply Tabs.drew) | (show I64 _; unfold I64; omega) | omega)); rintro e w2 ⟨rfl, hb⟩; exact ⟨_, rfl, hK _ w2 nofun (keep_below hb hS) rfl⟩
              · intro a w' hS hO hF' hP K hK; have ha := hO 2 (by rfl); refine if_ok (by rfl) ?_; refine wp_load_row 24 (.tmp 2) rfl w.heap.size (ev ha) _ _ (0, 0) _ hS.1 Tryz.underlying24 rfl (by kernel_rfl) ?_; exact hK _ w' nofun (keep_same hS) rfl
              · intro a w' hS hO hF' hP K hK; have ha := hO 3 (by rfl); refine if_ok (by rfl) ?_; refine wp_load_row 24 (.tmp 3) rfl (w.heap.size + 1) (ev ha) _ _ (0, 0) _ hS.2.1 Tryz.underlying24 rfl (by kernel_rfl) ?_; exact hK _ w' nofun (keep_same hS) rfl
              · intro a w' hS hO hF' hP K hK; obtain ⟨_, f0, rfl⟩ := (hF' 3 rfl).1 74 _ rfl rfl; obtain ⟨_, f1, rfl⟩ := (hF' 4 rfl).1 75 _ rfl rfl; refine if_ok (by rfl) ?_; refine wp_calls rfl (enters_of Tryz.func22 (by kernel_rfl) rfl) (args := #[(.agg #[.slice A0 n0 c0, .bool s0]), (.agg #[.slice A1 n1 c1, .bool s1]), (.bool false)]) (by simp [Act.eval, f0, f1]) ?_; obtain ⟨O2, O3, O5, O6, r0, r1, r5, r6, TT, BB⟩ := id hS; refine Calls.mono (rMatch_f _ _ _ _ _ _ _ _ _ _ _ r0 r1 (by omega) (by omega)) ?_; rintro e w2 ⟨rfl, hb⟩; exact ⟨_, rfl, hK _ w2 nofun (keep_below hb hS) rfl⟩
              · intro a w' hS hO hF' hP K hK; obtain ⟨_, f0, rfl⟩ := (hF' 2 rfl).1 73 _ rfl rfl; obtain ⟨_, f1, rfl⟩ := (hF' 5 rfl).1 76 _ rfl rfl; refine if_ok (by rfl) ?_; refine wp_val (w' := w') (q := .bool true) (by unfold execOp; simp only [(ev f0), (ev f1)]; simp [go_sem]) ?_; exact hK _ w' nofun (keep_same hS) rfl
              · intro a w' hS hO hF' hP K hK; obtain ⟨_, f0, rfl⟩ := (hF' 6 rfl).1 77 _ rfl rfl; refine if_ok (by rfl) ?_; unfold Oper.wp execOp; simp only [Sem.run_pure, ev f0]; exact hK _ w' nofun (keep_same hS) rfl
              · intro a w' hS hO hF' hP K hK; obtain ⟨_, fg, rfl⟩ := (hF' 7 rfl).1 78 _ rfl rfl; have ha := hO 5 (by rfl); refine if_wanted (by rfl) (yield_of (by rfl) fg) ?_; refine wp_load_row 24 (.tmp 5) rfl g5 (ev ha) _ _ (0, 0) _ hS.2.2.1 Tryz.underlying24 rfl (by kernel_rfl) ?_; exact hK _ w' nofun (keep_same hS) rfl
              · intro a w' hS hO hF' hP K hK; obtain ⟨_, fg, rfl⟩ := (hF' 7 rfl).1 78 _ rfl rfl; have ha := hO 6 (by rfl); refine if_wanted (by rfl) (yield_of (by rfl) fg) ?_; refine wp_load_row 24 (.tmp 6) rfl g6 (ev ha) _ _ (0, 0) _ hS.2.2.2.1 Tryz.underlying24 rfl (by kernel_rfl) ?_; exact hK _ w' nofun (keep_same hS) rfl
              · intro a w' hS hO hF' hP K hK; obtain ⟨_, fg, rfl⟩ := (hF' 7 rfl).1 78 _ rfl rfl; obtain ⟨_, f0, rfl⟩ := (hF' 8 rfl).1 79 _ rfl rfl; obtain ⟨_, f1, rfl⟩ := (hF' 9 rfl).1 80 _ rfl rfl; refine if_wanted (by rfl) (yield_of (by rfl) fg) ?_; refine wp_calls rfl (enters_of Tryz.func23 (by kernel_rfl) rfl) (args := #[(.agg #[.slice A5 n5 c5, .bool s0]), (.agg #[.slice A6 n6 c6, .bool s1])]) (by simp [Act.eval, f0, f1]) ?_; obtain ⟨O2, O3, O5, O6, r0, r1, r5, r6, TT, BB⟩ := id hS; apply Calls.mono; (with_reducible apply MatchX_any); (repeat (first | assumption | (with_reducible (apply Nb.rd; assumption)) | (with_reducible (apply Rb.at_later; assumption)) | (with_reducible (apply Tabs.at_later; assumption)) | (with_reducible apply Rb.alloc) | (with_reducible apply Tabs.alloc) | (with_reducible apply Rb.drew) | (with_reducible apply Tabs.drew) | (show I64 _; unfold I64; omega) | omega)); rintro e w2 ⟨rfl, hb⟩; exact ⟨_, rfl, hK _ w2 nofun (keep_below hb hS) rfl⟩
              · intro a w' hS hO hF' hP K hK; obtain ⟨_, fg, rfl⟩ := (hF' 7 rfl).1 78 _ rfl rfl; have ha := hO 2 (by rfl); refine if_wanted (by rfl) (yield_of (by rfl) fg) ?_; refine wp_load_row 24 (.tmp 2) rfl w.heap.size (ev ha) _ _ (0, 0) _ hS.1 Tryz.underlying24 rfl (by kernel_rfl) ?_; exact hK _ w' nofun (keep_same hS) rfl
              · intro a w' hS hO hF' hP K hK; obtain ⟨_, fg, rfl⟩ := (hF' 7 rfl).1 78 _ rfl rfl; have ha := hO 3 (by rfl); refine if_wanted (by rfl) (yield_of (by rfl) fg) ?_; refine wp_load_row 24 (.tmp 3) rfl (w.heap.size + 1) (ev ha) _ _ (0, 0) _ hS.2.1 Tryz.underlying24 rfl (by kernel_rfl) ?_; exact hK _ w' nofun (keep_same hS) rfl
              · intro a w' hS hO hF' hP K hK; obtain ⟨_, fg, rfl⟩ := (hF' 7 rfl).1 78 _ rfl rfl; obtain ⟨_, f0, rfl⟩ := (hF' 11 rfl).1 82 _ rfl rfl; obtain ⟨_, f1, rfl⟩ := (hF' 12 rfl).1 83 _ rfl rfl; refine if_wanted (by rfl) (yield_of (by rfl) fg) ?_; refine wp_calls rfl (enters_of Tryz.func22 (by kernel_rfl) rfl) (args := #[(.agg #[.slice A0 n0 c0, .bool s0]), (.agg #[.slice A1 n1 c1, .bool s1]), (.bool true)]) (by simp [Act.eval, f0, f1]) ?_; obtain ⟨O2, O3, O5, O6, r0, r1, r5, r6, TT, BB⟩ := id hS; refine Calls.mono (rMatch_t _ _ _ _ _ _ _ _ _ _ _ r0 r1 (by omega) (by omega)) ?_; rintro e w2 ⟨rfl, hb⟩; exact ⟨_, rfl, hK _ w2 nofun (keep_below hb hS) rfl⟩
              · intro a w' hS hO hF' hP K hK; obtain ⟨_, fg, rfl⟩ := (hF' 7 rfl).1 78 _ rfl rfl; obtain ⟨_, f0, rfl⟩ := (hF' 10 rfl).1 81 _ rfl rfl; obtain ⟨_, f1, rfl⟩ := (hF' 13 rfl).1 84 _ rfl rfl; refine if_wanted (by rfl) (yield_of (by rfl) fg) ?_; refine wp_val (w' := w') (q := .bool true) (by unfold execOp; simp only [(ev f0), (ev f1)]; simp [go_sem]) ?_; exact hK _ w' nofun (keep_same hS) rfl
              · intro a w' hS hO hF' hP K hK; obtain ⟨_, f0, rfl⟩ := (hF' 7 rfl).1 78 _ rfl rfl; obtain ⟨_, f1, rfl⟩ := (hF' 14 rfl).1 85 _ rfl rfl; refine if_ok (by rfl) ?_; refine wp_pick_and _ _ _ rfl (ev f0) (ev f1) ?_; exact hK _ w' nofun (keep_same hS) rfl
              · intro a w' hS hO hF' hP K hK; obtain ⟨_, f0, rfl⟩ := (hF' 15 rfl).1 86 _ rfl rfl; refine if_ok (by rfl) ?_; unfold Oper.wp execOp; simp only [Sem.run_pure, ev f0]; exact hK _ w' nofun (keep_same hS) rfl
              · intro a w' hS hO hF' hP K hK; obtain ⟨_, fg, rfl⟩ := (hF' 16 rfl).1 87 _ rfl rfl; have ha := hO 5 (by rfl); refine if_wanted (by rfl) (yield_of (by rfl) fg) ?_; refine wp_load_row 24 (.tmp 5) rfl g5 (ev ha) _ _ (0, 0) _ hS.2.2.1 Tryz.underlying24 rfl (by kernel_rfl) ?_; exact hK _ w' nofun (keep_same hS) rfl
              · intro a w' hS hO hF' hP K hK; obtain ⟨_, fg, rfl⟩ := (hF' 16 rfl).1 87 _ rfl rfl; have ha := hO 2 (by rfl); refine if_wanted (by rfl) (yield_of (by rfl) fg) ?_; refine wp_load_row 24 (.tmp 2) rfl w.heap.size (ev ha) _ _ (0, 0) _ hS.1 Tryz.underlying24 rfl (by kernel_rfl) ?_; exact hK _ w' nofun (keep_same hS) rfl
              · intro a w' hS hO hF' hP K hK; obtain ⟨_, fg, rfl⟩ := (hF' 16 rfl).1 87 _ rfl rfl; obtain ⟨_, f0, rfl⟩ := (hF' 17 rfl).1 88 _ rfl rfl; obtain ⟨_, f1, rfl⟩ := (hF' 18 rfl).1 89 _ rfl rfl; refine if_wanted (by rfl) (yield_of (by rfl) fg) ?_; refine wp_calls rfl (enters_of Tryz.func16 (by kernel_rfl) rfl) (args := #[(.agg #[.slice A5 n5 c5, .bool s0]), (.agg #[.slice A0 n0 c0, .bool s0])]) (by simp [Act.eval, f0, f1]) ?_; obtain ⟨O2, O3, O5, O6, r0, r1, r5, r6, TT, BB⟩ := id hS; apply Calls.mono; (with_reducible apply same_t); (repeat (first | assumption | (with_reducible (apply Nb.rd; assumption)) | (with_reducible (apply Rb.at_later; assumption)) | (with_reducible (apply Tabs.at_later; assumption)) | (with_reducible apply Rb.alloc) | (with_reducible apply Tabs.alloc) | (with_reducible apply Rb.drew) | (with_reducible apply Tabs.drew) | (show I64 _; unfold I64; omega) | omega)); (first | exact sameV_self _ | (decide +kernel)); rintro e w2 ⟨rfl, hb⟩; exact ⟨_, rfl, hK _ w2 nofun (keep_below hb hS) rfl⟩
              · intro a w' hS hO hF' hP K hK; obtain ⟨_, f0, rfl⟩ := (hF' 16 rfl).1 87 _ rfl rfl; obtain ⟨_, f1, rfl⟩ := (hF' 19 rfl).1 90 _ rfl rfl; refine if_ok (by rfl) ?_; refine wp_pick_and _ _ _ rfl (ev f0) (ev f1) ?_; exact hK _ w' nofun (keep_same hS) rfl
              · intro a w' hS hO hF' hP K hK; obtain ⟨_, f0, rfl⟩ := (hF' 20 rfl).1 91 _ rfl rfl; refine if_ok (by rfl) ?_; unfold Oper.wp execOp; simp only [Sem.run_pure, ev f0]; exact hK _ w' nofun (keep_same hS) rfl
              · intro a w' hS hO hF' hP K hK; obtain ⟨_, fg, rfl⟩ := (hF' 21 rfl).1 92 _ rfl rfl; have ha := hO 6 (by rfl); refine if_wanted (by rfl) (yield_of (by rfl) fg) ?_; refine wp_load_row 24 (.tmp 6) rfl g6 (ev ha) _ _ (0, 0) _ hS.2.2.2.1 Tryz.underlying24 rfl (by kernel_rfl) ?_; exact hK _ w' nofun (keep_same hS) rfl
              · intro a w' hS hO hF' hP K hK; obtain ⟨_, fg, rfl⟩ := (hF' 21 rfl).1 92 _ rfl rfl; have ha := hO 3 (by rfl); refine if_wanted (by rfl) (yield_of (by rfl) fg) ?_; refine wp_load_row 24 (.tmp 3) rfl (w.heap.size + 1) (ev ha) _ _ (0, 0) _ hS.2.1 Tryz.underlying24 rfl (by kernel_rfl) ?_; exact hK _ w' nofun (keep_same hS) rfl
              · intro a w' hS hO hF' hP K hK; obtain ⟨_, fg, rfl⟩ := (hF' 21 rfl).1 92 _ rfl rfl; obtain ⟨_, f0, rfl⟩ := (hF' 22 rfl).1 93 _ rfl rfl; obtain ⟨_, f1, rfl⟩ := (hF' 23 rfl).1 94 _ rfl rfl; refine if_wanted (by rfl) (yield_of (by rfl) fg) ?_; refine wp_calls rfl (enters_of Tryz.func16 (by kernel_rfl) rfl) (args := #[(.agg #[.slice A6 n6 c6, .bool s1]), (.agg #[.slice A1 n1 c1, .bool s1])]) (by simp [Act.eval, f0, f1]) ?_; obtain ⟨O2, O3, O5, O6, r0, r1, r5, r6, TT, BB⟩ := id hS; apply Calls.mono; (with_reducible apply same_t); (repeat (first | assumption | (with_reducible (apply Nb.rd; assumption)) | (with_reducible (apply Rb.at_later; assumption)) | (with_reducible (apply Tabs.at_later; assumption)) | (with_reducible apply Rb.alloc) | (with_reducible apply Tabs.alloc) | (with_reducible apply Rb.drew) | (with_reducible apply Tabs.drew) | (show I64 _; unfold I64; omega) | omega)); (first | exact sameV_self _ | (decide +kernel)); rintro e w2 ⟨rfl, hb⟩; exact ⟨_, rfl, hK _ w2 nofun (keep_below hb hS) rfl⟩
              · intro a w' hS hO hF' hP K hK; obtain ⟨_, f0, rfl⟩ := (hF' 21 rfl).1 92 _ rfl rfl; obtain ⟨_, f1, rfl⟩ := (hF' 24 rfl).1 95 _ rfl rfl; refine if_ok (by rfl) ?_; refine wp_pick_and _ _ _ rfl (ev f0) (ev f1) ?_; exact hK _ w' nofun (keep_same hS) rfl
              · intro a w' hS hO hF' hP K hK; obtain ⟨_, f0, rfl⟩ := (hF' 25 rfl).1 96 _ rfl rfl; refine if_ok (by rfl) ?_; unfold Oper.wp execOp; simp only [Sem.run_pure, ev f0]; exact hK _ w' nofun (keep_same hS) rfl
              · intro a w' hS hO hF' hP K hK; obtain ⟨_, fg, rfl⟩ := (hF' 26 rfl).1 97 _ rfl rfl; refine if_wanted (by rfl) (yield_of (by rfl) fg) ?_; refine wp_calls rfl (enters_of Tryz.func13 (by kernel_rfl) rfl) (args := #[]) (by simp) ?_; obtain ⟨O2, O3, O5, O6, r0, r1, r5, r6, TT, BB⟩ := id hS; apply Calls.mono; (with_reducible apply awake_any); assumption; rintro e w2 ⟨rfl, hb⟩; exact ⟨_, rfl, hK _ w2 nofun (keep_below hb hS) rfl⟩
              · intro a w' hS hO hF' hP K hK; obtain ⟨_, f0, rfl⟩ := (hF' 26 rfl).1 97 _ rfl rfl; obtain ⟨_, f1, rfl⟩ := (hF' 27 rfl).1 98 _ rfl rfl; refine if_ok (by rfl) ?_; refine wp_pick_and _ _ _ rfl (ev f0) (ev f1) ?_; exact hK _ w' nofun (keep_same hS) rfl
              · intro a w' hS hO hF' hP K hK; obtain ⟨_, f0, rfl⟩ := (hF' 28 rfl).1 99 _ rfl rfl; refine if_ok (by rfl) ?_; unfold Oper.wp execOp; simp only [Sem.run_pure, ev f0]; exact hK _ w' nofun (keep_same hS) rfl
            · intro vs u hl hS hV
              match vs, hl, hV with
              | [v0, v1, v2, v3, v4, v5, v6, v7, v8, v9, v10, v11, v12, v13, v14, v15, v16, v17, v18, v19, v20, v21, v22, v23, v24, v25, v26, v27, v28, v29], _, hV =>
                obtain rfl := hV 0 _ rfl
                obtain rfl := hV 1 _ rfl
                obtain rfl := hV 2 _ rfl
                obtain rfl := hV 3 _ rfl
                obtain rfl := hV 4 _ rfl
                obtain rfl := hV 5 _ rfl
                obtain rfl := hV 6 _ rfl
                obtain rfl := hV 7 _ rfl
                obtain rfl := hV 8 _ rfl
                obtain rfl := hV 9 _ rfl
                obtain rfl := hV 10 _ rfl
                obtain rfl := hV 11 _ rfl
                obtain rfl := hV 12 _ rfl
                obtain rfl := hV 13 _ rfl
                obtain rfl := hV 14 _ rfl
                obtain rfl := hV 15 _ rfl
                obtain rfl := hV 16 _ rfl
                obtain rfl := hV 17 _ rfl
                obtain rfl := hV 18 _ rfl
                obtain rfl := hV 19 _ rfl
                obtain rfl := hV 20 _ rfl
                obtain rfl := hV 21 _ rfl
                obtain rfl := hV 22 _ rfl
                obtain rfl := hV 23 _ rfl
                obtain rfl := hV 24 _ rfl
                obtain rfl := hV 25 _ rfl
                obtain rfl := hV 26 _ rfl
                obtain rfl := hV 27 _ rfl
                obtain rfl := hV 28 _ rfl
                obtain rfl := hV 29 _ rfl
                simp only [puts, Act.put, List.setIfInBounds_toArray, List.set_cons_zero, List.set_cons_succ]
                obtain ⟨O2, O3, O5, O6, r0, r1, r5, r6, TT, BB⟩ := hS
                clear hV
                replace O2 : Own u w.heap.size 24 #[.slice A0 n0 c0, .bool s0] := O2
                replace O3 : Own u (w.heap.size + 1) 24 #[.slice A1 n1 c1, .bool s1] := O3
                replace O5 : Own u g5 24 #[.slice A5 n5 c5, .bool s0] := O5
                replace O6 : Own u g6 24 #[.slice A6 n6 c6, .bool s1] := O6
                replace r0 : Rb u A0 n0 l0 := r0
                replace r1 : Rb u A1 n1 l1 := r1
                replace r5 : Rb u A5 n5 l0 := r5
                replace r6 : Rb u A6 n6 l1 := r6
                replace TT : Tabs u := TT
                replace BB : Below w.heap.size w u := BB
                go_wp2
                go_ret
                exact ⟨rfl, BB⟩
  · skip
    have HL := Lib.hid (long2_b _ A0 A1 n0 c0 n1 c1 s0 s1 hl)
    clear hl
    have q20 := O2.cell 0
    have q21 := O2.cell 1
    have q30 := O3.cell 0
    have q31 := O3.cell 1
    go_enter Tryz.func3, Tryz.ntmps3
    go_wp2_with (first | (go_at_call 12; refine (HL.out _ _ (by simp)).mono ?_; rintro e wn ⟨rfl, rfl⟩; replace O2 := O2.alloc (.cells #[.slice A0 n0 c0, .bool s0, .slice A1 n1 c1, .bool s1] 24); replace O3 := O3.alloc (.cells #[.slice A0 n0 c0, .bool s0, .slice A1 n1 c1, .bool s1] 24); replace r0 := r0.alloc (.cells #[.slice A0 n0 c0, .bool s0, .slice A1 n1 c1, .bool s1] 24); replace r1 := r1.alloc (.cells #[.slice A0 n0 c0, .bool s0, .slice A1 n1 c1, .bool s1] 24); replace TT := TT.alloc (.cells #[.slice A0 n0 c0, .bool s0, .slice A1 n1 c1, .bool s1] 24); replace BB := Lib.hid (below_new BB.out (.cells #[.slice A0 n0 c0, .bool s0, .slice A1 n1 c1, .bool s1] 24))) | (go_at_call 13; refine (awake_any _ TT).mono ?_; rintro e wn ⟨rfl, hb⟩; replace BB := Lib.hid (below_step BB.out hb)))
    go_ret
    exact ⟨rfl, BB.out⟩
end Go.Proofs.YtognpmggfplekaaGreatDoor
