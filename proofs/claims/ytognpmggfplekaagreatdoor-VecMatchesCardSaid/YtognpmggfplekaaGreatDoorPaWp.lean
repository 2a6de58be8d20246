/-
  Contracts of the reference's power. Conditions: at most 1000 bits an operand.
-/
import Derived.Test.YtognpmggfplekaaGreatDoorPaWo
set_option maxRecDepth 100000
namespace Go.Proofs.YtognpmggfplekaaGreatDoor
open Go Go.RowKit

def zvS (S : Bool) (N x : Nat) : Int := if S then B.sval N x else x
def szB (S : Bool) (N x : Nat) : Nat := if S then B.absv N x else x
def powW (x y : V) : V := if knL x.l && knL y.l then (if fill y == 1 then powZ (iOk x) (iVal x) x.l.length x.s ((num x.l ^ num y.l) % 2 ^ x.l.length) else ⟨frN x.l.length ((num x.l ^ num y.l) % 2 ^ x.l.length), x.s⟩) else allV 2 x.l.length x.s
theorem powW_eq (a b : V) : powV a b = powW (nrm a) (nrm b) := rfl
theorem iv_of {n x : Nat} {z : Int} (h : B.sval n x = z) : B.iOk n x = decide (-9223372036854775808 ≤ z ∧ z ≤ 9223372036854775807) ∧ B.iVal n x = if -9223372036854775808 ≤ z ∧ z ≤ 9223372036854775807 then z else 0 := by
  subst h
  refine ⟨decide_eq_decide.2 Iff.rfl, ?_⟩
  unfold B.iVal
  by_cases hf : -9223372036854775808 ≤ B.sval n x ∧ B.sval n x ≤ 9223372036854775807
  · rw [if_pos hf, if_pos (show B.iFit n x from hf)]
  · rw [if_neg hf, if_neg (show ¬ B.iFit n x from hf)]
theorem zv_fit {S : Bool} {N : Nat} {l : List Int} (hl : l.length = N) (h0 : 0 < N) (hok : okB l = true) (hk : knL l = true) :
    iOk ⟨l, S⟩ = decide (-9223372036854775808 ≤ zvS S N (num l) ∧ zvS S N (num l) ≤ 9223372036854775807) ∧ iVal ⟨l, S⟩ = if -9223372036854775808 ≤ zvS S N (num l) ∧ zvS S N (num l) ≤ 9223372036854775807 then zvS S N (num l) else 0 := by
  have e1 : nrm ⟨l, S⟩ = ⟨l, S⟩ := nrm_of hok
  have e2 : kn ⟨l, S⟩ = true := (kn_of hok).trans hk
  unfold iOk iVal
  rw [e1, e2]
  simp only [hl, Bool.true_and, if_true]
  cases S
  · rw [int_unsigned hl]
    have hs : B.sval (N + 1) (num l) = (num l : Int) := B.sval_pos (by unfold B.neg; rw [Nat.add_sub_cancel]; exact high_bit (num_lt' hl) (Nat.le_refl _))
    exact iv_of hs
  · obtain ⟨e3, e4⟩ := int_signed hl h0
    rw [e3, e4]
    exact iv_of rfl
theorem zv_abs {S : Bool} {N x : Nat} (hx : x < 2 ^ N) : (zvS S N x).natAbs = szB S N x := by
  unfold zvS szB
  cases S
  · simp
  · simp only [if_true]
    rw [B.sval_abs hx]
    split <;> omega
theorem sz_one {S : Bool} {N x : Nat} (hx : x < 2 ^ N) (h : szB S N x = 1) : x = 1 ∨ x + 1 = 2 ^ N := by
  unfold szB at h
  cases S
  · exact .inl h
  · simp only [if_true] at h
    unfold B.absv at h
    split at h
    · right; omega
    · exact .inl h
theorem pz_all {S : Bool} {N : Nat} {l : List Int} (hl : l.length = N) (h0 : 0 < N) (_hN : N ≤ 128) (hok : okB l = true) (hk : knL l = true) (p : Nat) :
    (szB S N (num l) = 0 → powZ (iOk ⟨l, S⟩) (iVal ⟨l, S⟩) N S p = allV 2 N S) ∧ (szB S N (num l) ≠ 0 → szB S N (num l) ≠ 1 → powZ (iOk ⟨l, S⟩) (iVal ⟨l, S⟩) N S p = allV 0 N S) ∧
    (szB S N (num l) = 1 → powZ (iOk ⟨l, S⟩) (iVal ⟨l, S⟩) N S p = ⟨frN N p, S⟩ ∧ (num l = 1 ∨ num l + 1 = 2 ^ N)) := by
  obtain ⟨e1, e2⟩ := zv_fit (S := S) hl h0 hok hk
  have ha := zv_abs (S := S) (num_lt' hl)
  rw [e1, e2]
  unfold powZ
  refine ⟨fun h => ?_, fun h h' => ?_, fun h => ⟨?_, sz_one (num_lt' hl) h⟩⟩
  · have hz : zvS S N (num l) = 0 := by omega
    rw [hz]
    simp
  · by_cases hf : -9223372036854775808 ≤ zvS S N (num l) ∧ zvS S N (num l) ≤ 9223372036854775807
    · rw [if_pos hf, if_neg (by omega), if_pos (by omega)]
    · rw [if_neg hf, if_neg (by simp [hf]), if_pos (by decide)]
  · have hz : zvS S N (num l) = 1 ∨ zvS S N (num l) = -1 := by omega
    rcases hz with hz | hz <;> (rw [hz]; simp)
theorem pow_par {N x y : Nat} (h : x = 1 ∨ x + 1 = 2 ^ N) (hx : x < 2 ^ N) (h0 : 0 < N) : (x ^ y) % 2 ^ N = if y.testBit 0 then x else 1 % 2 ^ N := by
  have hsq : (x * x) % 2 ^ N = 1 % 2 ^ N := by
    rcases h with rfl | h
    · rfl
    · obtain ⟨q, hq⟩ : ∃ q, x = q + 1 ∨ x = 0 := ⟨x - 1, by omega⟩
      rcases hq with rfl | rfl
      · have e : (q + 1) * (q + 1) = 1 + 2 ^ N * q := by
          have h1 : (q + 1) * (q + 1) = q * q + q * 1 + (1 * q + 1 * 1) := by rw [Nat.add_mul, Nat.mul_add, Nat.mul_add]
          have h2 : (q + 1 + 1) * q = q * q + 1 * q + 1 * q := by rw [Nat.add_mul, Nat.add_mul]
          rw [← h, h1, h2]; omega
        rw [e, Nat.add_mul_mod_self_left]
      · have := Nat.one_lt_two_pow (n := N) (by omega)
        omega
  have hev : ∀ q, (x ^ (2 * q)) % 2 ^ N = 1 % 2 ^ N := by
    intro q
    rw [Nat.pow_mul, Nat.pow_two, Nat.pow_mod, hsq, ← Nat.pow_mod, Nat.one_pow]
  rw [Nat.testBit_zero]
  by_cases hy : y % 2 = 1
  · rw [if_pos (by simpa using hy)]
    obtain ⟨q, rfl⟩ : ∃ q, y = 2 * q + 1 := ⟨y / 2, by omega⟩
    rw [Nat.pow_succ, Nat.mul_mod, hev, ← Nat.mul_mod, Nat.one_mul, Nat.mod_eq_of_lt hx]
  · rw [if_neg (by simpa using hy)]
    obtain ⟨q, rfl⟩ : ∃ q, y = 2 * q := ⟨y / 2, by omega⟩
    exact hev q
theorem cmp_nil (X : Option Addr) (n c s : Nat) (w : World) (h : B.Rd w X n s) (hn : n ≤ 1000) (hc : n ≤ c) (p : Int) (hp : p = if s = 0 then 0 else 1) :
    Calls Tryz.prog 179 #[.slice X n c, .slice none 0 0] w fun e w' => e = .returned (.int .i64 p) ∧ Below w.heap.size w w' := by
  have e : B.cmpI (s : Nat) ((0 : Nat) : Int) = p := by
    rw [hp]
    unfold B.cmpI
    by_cases hs : s = 0
    · subst hs; rfl
    · rw [if_neg hs, if_neg (by omega), if_neg (by omega)]
  exact e ▸ B.rCmp_any X none n c s 0 0 0 w h ⟨by decide, fun h => absurd h (by decide)⟩ (by omega) (by decide) hc (Nat.le_refl _)
theorem nw_alloc {w : World} {B0 : Nat} {X : Option Addr} {n c x : Nat} (h : B.Nw w B0 X n c x) (o : Obj) : B.Nw (w.alloc o) B0 X n c x := h.step (below_new (Below.refl _ _) o)
theorem nw_true (w : World) : B.Nw (w.alloc (.cells #[.bool true] 4)) 0 (some ⟨w.heap.size, 0, none⟩) 1 1 1 := B.Nw.of_own (Own.new w 4 #[.bool true]) (by decide) (Nat.zero_le _) (by decide)
theorem cmp_one (X : Option Addr) (n c s : Nat) (w : World) (h : B.Rd w X n s) (hn : n ≤ 1000) (hc : n ≤ c) (p : Int) (hp : p = B.cmpI (s : Nat) 1) (H : Nat) (hH : w.heap.size = H) :
    Calls Tryz.prog 179 #[.slice X n c, .slice (some ⟨H, 0, none⟩) 1 1] (w.alloc (.cells #[.bool true] 4)) fun e w' => e = .returned (.int .i64 p) ∧ Below (w.alloc (.cells #[.bool true] 4)).heap.size (w.alloc (.cells #[.bool true] 4)) w' := by
  subst hH
  have := B.rCmp_any X (some ⟨w.heap.size, 0, none⟩) n c s 1 1 1 (w.alloc (.cells #[.bool true] 4)) (h.step (below_new (Below.refl _ _) _)) (nw_true w).rd (by omega) (by decide) hc (Nat.le_refl _)
  rw [hp]
  exact this
theorem rd_cell0 {w : World} {b o n x : Nat} {p : Bool} (h : B.Rd w (some ⟨b, o, none⟩) n x) (hn : 0 < n) (hb : x.testBit 0 = p) : w.cell? ⟨b, o, none⟩ = some (.bool p) := by
  obtain ⟨b', o', e, _, hc⟩ := h.2 hn
  have e1 := Option.some.inj e
  simp only [Addr.mk.injEq, and_true] at e1
  obtain ⟨rfl, rfl⟩ := e1
  have := hc 0 hn
  rwa [hb] at this
theorem run_bsT (W : World) : (Instr.buildSlice 90 1 #[(0, .bool true)]).run Tryz.prog W = .ok (.slice (some ⟨W.heap.size, 0, none⟩) 1 1) (W.alloc (.cells #[.bool true] 4)) := by kernel_rfl
theorem wp_bsT {o : Oper} {a : Act} {w : World} {K : Act → World → Prop} {Q : Exit → Act → World → Prop} (ho : o.op = .buildSlice 90 1 #[(0, .const (.bool true))]) (h : K (a.put o.dst (.slice (some ⟨w.heap.size, 0, none⟩) 1 1)) (w.alloc (.cells #[.bool true] 4))) : o.wp Tryz.prog a w K Q := by
  refine wp_val ?_ h
  unfold execOp
  have := run_bsT w
  simp only [ho, Sem.run_bind, List.map_toArray, List.map_cons, List.map_nil, Act.eval, this, Result.andThen_ok, Sem.run_pure]
set_option maxHeartbeats 4000000 in
theorem rPower_any (A Y : Option Addr) (n m c d : Nat) (s t : Bool) (l k : List Int) (w : World) (h : Rb w A n l) (h' : Rb w Y m k) (hn : n ≤ 1000) (hm : m ≤ 1000) :
    Calls Tryz.prog 101 #[.agg #[.slice A n c, .bool s], .agg #[.slice Y m d, .bool t]] w (RetV w (powV ⟨l, s⟩ ⟨k, t⟩)) := by
  rw [powW_eq]
  have O0 := (((Own.at1 w 24 #[.slice A n c, .bool s] (g := w.heap.size) (by simp)).alloc (.cells #[.slice Y m d, .bool t] 24)).alloc (.cells #[.slice none 0 0, .bool false] 24))
  have O1 := ((Own.at1 (w.alloc (.cells #[.slice A n c, .bool s] 24)) 24 #[.slice Y m d, .bool t] (g := w.heap.size + 1) (by simp)).alloc (.cells #[.slice none 0 0, .bool false] 24))
  have O2 := (Own.at1 ((w.alloc (.cells #[.slice A n c, .bool s] 24)).alloc (.cells #[.slice Y m d, .bool t] 24)) 24 #[.slice none 0 0, .bool false] (g := w.heap.size + 1 + 1) (by simp))
  have BB := (below_new (below_new (below_new (Below.refl w.heap.size w) (.cells #[.slice A n c, .bool s] 24)) (.cells #[.slice Y m d, .bool t] 24)) (.cells #[.slice none 0 0, .bool false] 24))
  have HNx := Lib.hid (fun (u : World) (h : Rb u A n l) => rNorm_any_w A n c s l u h (by omega))
  have HNy := Lib.hid (fun (u : World) (h : Rb u Y m k) => rNorm_any_w Y m d t k u h (by omega))
  have hlxx := nrm_len ⟨l, s⟩
  have hlyy := nrm_len ⟨k, t⟩
  have okx := nrm_ok ⟨l, s⟩
  have oky := nrm_ok ⟨k, t⟩
  have r1 := h.step BB
  have r2 := h'.step BB
  clear h h'
  generalize nrm ⟨l, s⟩ = x at *
  generalize nrm ⟨k, t⟩ = y at *
  obtain ⟨lx, sx⟩ := x
  obtain ⟨ly, sy⟩ := y
  obtain ⟨N, hlx⟩ : ∃ N, lx.length = N := ⟨_, rfl⟩
  obtain ⟨M, hly⟩ : ∃ M, ly.length = M := ⟨_, rfl⟩
  simp only [hlx] at hlxx
  simp only [hly] at hlyy
  obtain ⟨h0, hN⟩ := hlxx
  obtain ⟨h0M, hM⟩ := hlyy
  have HF := Lib.hid (fun (u : World) (b : Int) (hb : 0 ≤ b) => rFill_n b N sx u hb (by omega))
  haveI : Apart w.heap.size (w.heap.size + 1) := ⟨by omega⟩
  haveI : Apart (w.heap.size + 1) w.heap.size := ⟨by omega⟩
  haveI : Apart w.heap.size (w.heap.size + 1 + 1) := ⟨by omega⟩
  haveI : Apart (w.heap.size + 1) (w.heap.size + 1 + 1) := ⟨by omega⟩
  haveI : Over w w.heap.size := ⟨by omega⟩
  haveI : Over w (w.heap.size + 1) := ⟨by omega⟩
  go_enter Tryz.func101, Tryz.ntmps101
  go_wp2
  refine region_y (by kernel_rfl) (fun u => owns (w.heap.size + 1 + 1) #[.slice none 0 0, .bool false] u ∧ (rds A n l u ∧ (rds Y m k u ∧ blw w u))) [tru, tru, tru, tru, owns w.heap.size #[.slice A n c, .bool s], owns (w.heap.size + 1) #[.slice Y m d, .bool t]] [isV (.agg #[.slice A n c, .bool s]), isNX w.heap.size (⟨lx, sx⟩ : V), isV (.agg #[.slice Y m d, .bool t]), isNX w.heap.size (⟨ly, sy⟩ : V), didX w.heap.size w.heap.size (⟨lx, sx⟩ : V), didX w.heap.size (w.heap.size + 1) (⟨ly, sy⟩ : V)] [some 8, some 9, some 10, some 11, none, none] [[], [0], [], [2, 1], [1, 3, 0, 1], [3, 4, 0, 1, 2, 3, 4]] (by kernel_rfl) (by kernel_rfl) rfl (by kernel_rfl) (by kernel_rfl) (by kernel_rfl) ⟨O2.drew, r1.drew, r2.drew, below_drew BB⟩ (by
    intro U hU
    simp only [List.mem_cons, List.not_mem_nil, or_false] at hU
    rcases hU with rfl | rfl | rfl | rfl | rfl | rfl
    all_goals first | trivial | exact O0.drew | exact O1.drew) ?_ ?_
  · refine ⟨?_, ?_, ?_, ?_, ?_, ?_, trivial⟩
    · intro a w' hS hO hF' hP K hK; have ha := hO 2 (by rfl); refine if_ok (by rfl) ?_; refine wp_load_row 24 (.tmp 2) rfl w.heap.size (ev ha) _ _ (0, 0) _ (hP 4 _ rfl rfl) Tryz.underlying24 rfl (by kernel_rfl) ?_; exact hK _ w' nofun (keep_same hS) rfl
    · intro a w' hS hO hF' hP K hK; obtain ⟨_, f0, rfl⟩ := (hF' 0 rfl).1 8 _ rfl rfl; refine if_ok (by rfl) ?_; refine wp_calls rfl (enters_of Tryz.func93 (by kernel_rfl) rfl) (args := #[(.agg #[.slice A n c, .bool s])]) (by simp [Act.eval, f0]) ?_; obtain ⟨O2, r1, r2, BB⟩ := id hS; have hz := BB.size; refine (HNx.out _ r1).mono ?_; rintro e w2 ⟨A, n, c, rfl, hc, hn, hN, hb⟩; exact ⟨_, rfl, hK _ w2 nofun (keep_below hb hS) ⟨A, n, c, rfl, hc, hn, hN.mono hz⟩⟩
    · intro a w' hS hO hF' hP K hK; have ha := hO 3 (by rfl); refine if_ok (by rfl) ?_; refine wp_load_row 24 (.tmp 3) rfl (w.heap.size + 1) (ev ha) _ _ (0, 0) _ (hP 5 _ rfl rfl) Tryz.underlying24 rfl (by kernel_rfl) ?_; exact hK _ w' nofun (keep_same hS) rfl
    · intro a w' hS hO hF' hP K hK; obtain ⟨_, f0, rfl⟩ := (hF' 2 rfl).1 10 _ rfl rfl; refine if_ok (by rfl) ?_; refine wp_calls rfl (enters_of Tryz.func93 (by kernel_rfl) rfl) (args := #[(.agg #[.slice Y m d, .bool t])]) (by simp [Act.eval, f0]) ?_; obtain ⟨O2, r1, r2, BB⟩ := id hS; have hz := BB.size; refine (HNy.out _ r2).mono ?_; rintro e w2 ⟨A, n, c, rfl, hc, hn, hN, hb⟩; exact ⟨_, rfl, hK _ w2 nofun (keep_below hb hS) ⟨A, n, c, rfl, hc, hn, hN.mono hz⟩⟩
    · intro a w' hS hO hF' hP K hK; have O := hP 4 _ rfl rfl; have ha := hO 2 (by rfl); obtain ⟨_, f0, A0, n0, c0, rfl, hc0, hn0, hr0⟩ := (hF' 1 rfl).1 9 _ rfl rfl; refine if_ok (by rfl) ?_; refine wp_store_row _ _ _ rfl w.heap.size _ (ev ha) (ev f0) _ _ O vec_size rfl (by simp [Value.oneCell']) ?_; exact hK _ _ (fun _ => rfl) (keep_store O inferInstance ⟨inferInstance, inferInstance, inferInstance, inferInstance, inferInstance, trivial⟩ ⟨inferInstance, inferInstance, inferInstance, inferInstance, inferInstance, trivial⟩ hS) ⟨A0, n0, c0, Own.row O, hc0, hn0, hr0.row O⟩
    · intro a w' hS hO hF' hP K hK; have O := hP 5 _ rfl rfl; have ha := hO 3 (by rfl); obtain ⟨_, f0, A0, n0, c0, rfl, hc0, hn0, hr0⟩ := (hF' 3 rfl).1 11 _ rfl rfl; refine if_ok (by rfl) ?_; refine wp_store_row _ _ _ rfl (w.heap.size + 1) _ (ev ha) (ev f0) _ _ O vec_size rfl (by simp [Value.oneCell']) ?_; exact hK _ _ (fun _ => rfl) (keep_store O inferInstance ⟨inferInstance, inferInstance, inferInstance, inferInstance, inferInstance, trivial⟩ ⟨inferInstance, inferInstance, inferInstance, inferInstance, inferInstance, trivial⟩ hS) ⟨A0, n0, c0, Own.row O, hc0, hn0, hr0.row O⟩
  · intro vs u hl hS hV
    match vs, hl, hV with
    | [v0, v1, v2, v3, v4, v5], _, hV =>
      obtain rfl := hV 0 _ rfl
      obtain ⟨A1, nn1, c1, rfl, hc1, hnn1, hN1⟩ := hV 1 _ rfl
      obtain rfl := hV 2 _ rfl
      obtain ⟨A3, nn3, c3, rfl, hc3, hnn3, hN3⟩ := hV 3 _ rfl
      obtain ⟨A4, nn4, c4, O4, hc4, hnn4, hN4⟩ := hV 4 _ rfl
      obtain ⟨A5, nn5, c5, O5, hc5, hnn5, hN5⟩ := hV 5 _ rfl
      simp only [puts, Act.put, List.setIfInBounds_toArray, List.set_cons_zero, List.set_cons_succ]
      obtain ⟨O2, r1, r2, BB⟩ := hS
      clear hV
      replace O2 : Own u (w.heap.size + 1 + 1) 24 #[.slice none 0 0, .bool false] := O2
      replace r1 : Rb u A n l := r1
      replace r2 : Rb u Y m k := r2
      replace BB : Below w.heap.size w u := BB
      have e4 : N = nn4 := hlx.symm.trans hN4.len
      subst e4
      have e5 : M = nn5 := hly.symm.trans hN5.len
      subst e5
      have N4 := hN4
      have N5 := hN5
      clear hN4 hN5 hN1 hN3 r1 r2
      replace O4 : Own u w.heap.size 24 #[.slice A4 N c4, .bool sx] := O4
      replace O5 : Own u (w.heap.size + 1) 24 #[.slice A5 M c5, .bool sy] := O5
      replace N4 : Nb u w.heap.size A4 N c4 lx := N4
      replace N5 : Nb u w.heap.size A5 M c5 ly := N5
      have zO40 := O4.cell 0
      have zO41 := O4.cell 1
      have yO40 := O4.free 0
      have yO41 := O4.free 1
      have zO50 := O5.cell 0
      have zO51 := O5.cell 1
      have yO50 := O5.free 0
      have yO51 := O5.free 1
      have zO20 := O2.cell 0
      have zO21 := O2.cell 1
      have yO20 := O2.free 0
      have yO21 := O2.free 1
      cases hkx : knL lx
      · have e9 := Lib.hid (show allV 2 N sx = powW ⟨lx, sx⟩ ⟨ly, sy⟩ from by unfold powW; rw [hkx]; subst hlx; rfl)
        have HK := Lib.hid (fun (X : Option Addr) (cX : Nat) (u : World) (h : Rb u X N lx) => ((kn_of (s := sx) okx).trans hkx) ▸ rKnown_any X N cX sx lx u h (by omega))
        replace HK := Lib.hid (HK.out A4 c4)
        clear hkx okx oky
        go_wp2_with (first | (go_at_call 32; (with_reducible refine (HK.out _ N4.rd).mono ?_); rintro e w1 ⟨rfl, hb⟩; replace BB := below_step BB hb; replace O4 := O4.step hb; replace O5 := O5.step hb; replace O2 := O2.step hb; replace N4 := N4.step hb; replace N5 := N5.step hb; (try clear zO40 zO41 yO40 yO41 zO50 zO51 yO50 yO51 zO20 zO21 yO20 yO21); have zO40 := O4.cell 0; have zO41 := O4.cell 1; have yO40 := O4.free 0; have yO41 := O4.free 1; have zO50 := O5.cell 0; have zO51 := O5.cell 1; have yO50 := O5.free 0; have yO51 := O5.free 1; have zO20 := O2.cell 0; have zO21 := O2.cell 1; have yO20 := O2.free 0; have yO21 := O2.free 1) | (go_at_call 53; refine (HF.out _ _ (by decide)).mono ?_; rintro e w9 ⟨A9, c9, rfl, n9, hb9⟩; have L1 := O2.lt; have W2 := O2.step hb9; have qW20 := W2.cell 0; have qW21 := W2.cell 1; have fW20 := W2.free 0; have fW21 := W2.free 1))
        exact ret_vec Tryz.results101 rfl rfl (W2.put2 _ _) (e9.out ▸ mk_ret (v := allV 2 N sx) ((n9.far2 L1 _ _).mono BB.size) (below_set2 (below_step BB hb9) (by omega) _ _))
      cases hky : knL ly
      · have e9 := Lib.hid (show allV 2 N sx = powW ⟨lx, sx⟩ ⟨ly, sy⟩ from by unfold powW; rw [hkx, hky]; subst hlx; rfl)
        have HK := Lib.hid (fun (u : World) (h : Rb u A4 N lx) => ((kn_of (s := sx) okx).trans hkx) ▸ rKnown_any A4 N c4 sx lx u h (by omega))
        have HL := Lib.hid (fun (u : World) (h : Rb u A5 M ly) => ((kn_of (s := sy) oky).trans hky) ▸ rKnown_any A5 M c5 sy ly u h (by omega))
        clear hkx hky okx oky
        go_wp2_with (first | (go_at_call 32; (with_reducible refine (HK.out _ N4.rd).mono ?_); rintro e w1 ⟨rfl, hb⟩; replace BB := below_step BB hb; replace O4 := O4.step hb; replace O5 := O5.step hb; replace O2 := O2.step hb; replace N4 := N4.step hb; replace N5 := N5.step hb; (try clear zO40 zO41 yO40 yO41 zO50 zO51 yO50 yO51 zO20 zO21 yO20 yO21); have zO40 := O4.cell 0; have zO41 := O4.cell 1; have yO40 := O4.free 0; have yO41 := O4.free 1; have zO50 := O5.cell 0; have zO51 := O5.cell 1; have yO50 := O5.free 0; have yO51 := O5.free 1; have zO20 := O2.cell 0; have zO21 := O2.cell 1; have yO20 := O2.free 0; have yO21 := O2.free 1) | (go_at_call 32; (with_reducible refine (HL.out _ N5.rd).mono ?_); rintro e w1 ⟨rfl, hb⟩; replace BB := below_step BB hb; replace O4 := O4.step hb; replace O5 := O5.step hb; replace O2 := O2.step hb; replace N4 := N4.step hb; replace N5 := N5.step hb; (try clear zO40 zO41 yO40 yO41 zO50 zO51 yO50 yO51 zO20 zO21 yO20 yO21); have zO40 := O4.cell 0; have zO41 := O4.cell 1; have yO40 := O4.free 0; have yO41 := O4.free 1; have zO50 := O5.cell 0; have zO51 := O5.cell 1; have yO50 := O5.free 0; have yO51 := O5.free 1; have zO20 := O2.cell 0; have zO21 := O2.cell 1; have yO20 := O2.free 0; have yO21 := O2.free 1) | (go_at_call 53; refine (HF.out _ _ (by decide)).mono ?_; rintro e w9 ⟨A9, c9, rfl, n9, hb9⟩; have L1 := O2.lt; have W2 := O2.step hb9; have qW20 := W2.cell 0; have qW21 := W2.cell 1; have fW20 := W2.free 0; have fW21 := W2.free 1))
        exact ret_vec Tryz.results101 rfl rfl (W2.put2 _ _) (e9.out ▸ mk_ret (v := allV 2 N sx) ((n9.far2 L1 _ _).mono BB.size) (below_set2 (below_step BB hb9) (by omega) _ _))
      · have HK := Lib.hid (fun (u : World) (h : Rb u A4 N lx) => ((kn_of (s := sx) okx).trans hkx) ▸ rKnown_any A4 N c4 sx lx u h (by omega))
        have HL := Lib.hid (fun (u : World) (h : Rb u A5 M ly) => ((kn_of (s := sy) oky).trans hky) ▸ rKnown_any A5 M c5 sy ly u h (by omega))
        have hkx' := Lib.hid hkx
        have hky' := Lib.hid hky
        clear hkx hky
        go_wp2_with (first | (go_at_call 32; (with_reducible refine (HK.out _ N4.rd).mono ?_); rintro e w1 ⟨rfl, hb⟩; replace BB := below_step BB hb; replace O4 := O4.step hb; replace O5 := O5.step hb; replace O2 := O2.step hb; replace N4 := N4.step hb; replace N5 := N5.step hb; (try clear zO40 zO41 yO40 yO41 zO50 zO51 yO50 yO51 zO20 zO21 yO20 yO21); have zO40 := O4.cell 0; have zO41 := O4.cell 1; have yO40 := O4.free 0; have yO41 := O4.free 1; have zO50 := O5.cell 0; have zO51 := O5.cell 1; have yO50 := O5.free 0; have yO51 := O5.free 1; have zO20 := O2.cell 0; have zO21 := O2.cell 1; have yO20 := O2.free 0; have yO21 := O2.free 1) | (go_at_call 32; (with_reducible refine (HL.out _ N5.rd).mono ?_); rintro e w1 ⟨rfl, hb⟩; replace BB := below_step BB hb; replace O4 := O4.step hb; replace O5 := O5.step hb; replace O2 := O2.step hb; replace N4 := N4.step hb; replace N5 := N5.step hb; (try clear zO40 zO41 yO40 yO41 zO50 zO51 yO50 yO51 zO20 zO21 yO20 yO21); have zO40 := O4.cell 0; have zO41 := O4.cell 1; have yO40 := O4.free 0; have yO41 := O4.free 1; have zO50 := O5.cell 0; have zO51 := O5.cell 1; have yO50 := O5.free 0; have yO51 := O5.free 1; have zO20 := O2.cell 0; have zO21 := O2.cell 1; have yO20 := O2.free 0; have yO21 := O2.free 1))
        have hkx := hkx'.out
        have hky := hky'.out
        refine region_y (by kernel_rfl) (fun u => owns w.heap.size #[.slice A4 N c4, .bool sx] u ∧ (owns (w.heap.size + 1) #[.slice A5 M c5, .bool sy] u ∧ (owns (w.heap.size + 1 + 1) #[.slice none 0 0, .bool false] u ∧ (nbs w.heap.size A4 N c4 lx u ∧ (nbs w.heap.size A5 M c5 ly u ∧ blw w u))))) [tru, tru, tru, tru, tru, tru] [isV (.agg #[.slice A4 N c4, .bool sx]), isNum N (num lx), isV (.agg #[.slice A5 M c5, .bool sy]), isNum M (num ly), isNum N (num lx), isNum M (num ly)] [some 26, some 27, some 28, some 29, some 5, some 6] [[], [0], [], [2, 1], [1, 3, 0, 1], [3, 4, 0, 1, 2, 3, 4]] (by kernel_rfl) (by kernel_rfl) rfl (by kernel_rfl) (by kernel_rfl) (by kernel_rfl) ⟨O4.drew, O5.drew, O2.drew, N4.drew, N5.drew, below_drew BB⟩ (by
          intro U hU
          simp only [List.mem_cons, List.not_mem_nil, or_false] at hU
          rcases hU with rfl | rfl | rfl | rfl | rfl | rfl
          all_goals first | trivial | assumption) ?_ ?_
        · refine ⟨?_, ?_, ?_, ?_, ?_, ?_, trivial⟩
          · intro a w' hS hO hF' hP K hK; have ha := hO 2 (by rfl); refine if_ok (by rfl) ?_; refine wp_load_row 24 (.tmp 2) rfl w.heap.size (ev ha) _ _ (0, 0) _ hS.1 Tryz.underlying24 rfl (by kernel_rfl) ?_; exact hK _ w' nofun (keep_same hS) rfl
          · intro a w' hS hO hF' hP K hK; obtain ⟨_, f0, rfl⟩ := (hF' 0 rfl).1 26 _ rfl rfl; refine if_ok (by rfl) ?_; refine wp_calls rfl (enters_of Tryz.func114 (by kernel_rfl) rfl) (args := #[(.agg #[.slice A4 N c4, .bool sx])]) (by simp [Act.eval, f0]) ?_; obtain ⟨O4, O5, O2, N4, N5, BB⟩ := id hS; have hz := BB.size; refine (rBools_any _ _ _ _ _ _ N4.rd (by omega)).mono ?_; rintro e w2 ⟨A, c, rfl, hN, hb⟩; exact ⟨_, rfl, hK _ w2 nofun (keep_below hb hS) ⟨A, c, rfl, hN.mono (Nat.zero_le _)⟩⟩
          · intro a w' hS hO hF' hP K hK; have ha := hO 3 (by rfl); refine if_ok (by rfl) ?_; refine wp_load_row 24 (.tmp 3) rfl (w.heap.size + 1) (ev ha) _ _ (0, 0) _ hS.2.1 Tryz.underlying24 rfl (by kernel_rfl) ?_; exact hK _ w' nofun (keep_same hS) rfl
          · intro a w' hS hO hF' hP K hK; obtain ⟨_, f0, rfl⟩ := (hF' 2 rfl).1 28 _ rfl rfl; refine if_ok (by rfl) ?_; refine wp_calls rfl (enters_of Tryz.func114 (by kernel_rfl) rfl) (args := #[(.agg #[.slice A5 M c5, .bool sy])]) (by simp [Act.eval, f0]) ?_; obtain ⟨O4, O5, O2, N4, N5, BB⟩ := id hS; have hz := BB.size; refine (rBools_any _ _ _ _ _ _ N5.rd (by omega)).mono ?_; rintro e w2 ⟨A, c, rfl, hN, hb⟩; exact ⟨_, rfl, hK _ w2 nofun (keep_below hb hS) ⟨A, c, rfl, hN.mono (Nat.zero_le _)⟩⟩
          · intro a w' hS hO hF' hP K hK; obtain ⟨_, f0, X0, cX0, rfl, hX0⟩ := (hF' 1 rfl).1 27 _ rfl rfl; refine if_ok (by rfl) ?_; unfold Oper.wp execOp; simp only [Sem.run_pure, ev f0]; exact hK _ w' nofun (keep_same hS) ⟨X0, cX0, rfl, hX0⟩
          · intro a w' hS hO hF' hP K hK; obtain ⟨_, f0, X0, cX0, rfl, hX0⟩ := (hF' 3 rfl).1 29 _ rfl rfl; refine if_ok (by rfl) ?_; unfold Oper.wp execOp; simp only [Sem.run_pure, ev f0]; exact hK _ w' nofun (keep_same hS) ⟨X0, cX0, rfl, hX0⟩
        · intro vs u hl hS hV
          match vs, hl, hV with
          | [v0, v1, v2, v3, v4, v5], _, hV =>
            obtain rfl := hV 0 _ rfl
            obtain ⟨X1, cX1, rfl, hX1⟩ := hV 1 _ rfl
            obtain rfl := hV 2 _ rfl
            obtain ⟨X3, cX3, rfl, hX3⟩ := hV 3 _ rfl
            obtain ⟨X4, cX4, rfl, hX4⟩ := hV 4 _ rfl
            obtain ⟨X5, cX5, rfl, hX5⟩ := hV 5 _ rfl
            simp only [puts, Act.put, List.setIfInBounds_toArray, List.set_cons_zero, List.set_cons_succ]
            obtain ⟨O4, O5, O2, N4, N5, BB⟩ := hS
            clear hV
            replace O4 : Own u w.heap.size 24 #[.slice A4 N c4, .bool sx] := O4
            replace O5 : Own u (w.heap.size + 1) 24 #[.slice A5 M c5, .bool sy] := O5
            replace O2 : Own u (w.heap.size + 1 + 1) 24 #[.slice none 0 0, .bool false] := O2
            replace N4 : Nb u w.heap.size A4 N c4 lx := N4
            replace N5 : Nb u w.heap.size A5 M c5 ly := N5
            replace BB : Below w.heap.size w u := BB
            have zO40 := O4.cell 0
            have zO41 := O4.cell 1
            have yO40 := O4.free 0
            have yO41 := O4.free 1
            have zO50 := O5.cell 0
            have zO51 := O5.cell 1
            have yO50 := O5.free 0
            have yO51 := O5.free 1
            have zO20 := O2.cell 0
            have zO21 := O2.cell 1
            have yO20 := O2.free 0
            have yO21 := O2.free 1
            clear hX1 hX3
            cases sy
            · have e9 := Lib.hid (show (⟨frN N ((num lx ^ num ly) % 2 ^ N), sx⟩ : V) = powW ⟨lx, sx⟩ ⟨ly, false⟩ from by unfold powW; rw [hkx, hky]; subst hlx; rfl)
              go_wp2
              haveI : Apart (w.heap.size + 1 + 1) w.heap.size := ⟨by omega⟩
              haveI : Over w (w.heap.size + 1 + 1) := ⟨by omega⟩
              refine region_y (by kernel_rfl) (fun u => owns w.heap.size #[.slice A4 N c4, .bool sx] u ∧ (nws X4 N cX4 (num lx) u ∧ (nws X5 M cX5 (num ly) u ∧ blw w u))) [tru, tru, tru, tru, tru, tru, owns (w.heap.size + 1 + 1) #[.slice none 0 0, .bool false]] [isNum N (num lx), isNum M (num ly), isNum N ((num lx ^ num ly) % 2 ^ N), isV (.pointer (some ⟨w.heap.size, 1, none⟩)), isV (.bool sx), isNX w.heap.size (⟨frN N ((num lx ^ num ly) % 2 ^ N), sx⟩ : V), didX w.heap.size (w.heap.size + 1 + 1) (⟨frN N ((num lx ^ num ly) % 2 ^ N), sx⟩ : V)] [some 38, some 39, some 40, some 41, some 42, some 43, none] [[], [], [0, 1], [], [3], [2, 4, 2], [5, 5, 0, 1, 2, 3, 4, 5]] (by kernel_rfl) (by kernel_rfl) rfl (by kernel_rfl) (by kernel_rfl) (by kernel_rfl) ⟨O4.drew, hX4, hX5, below_drew BB⟩ (by
                intro U hU
                simp only [List.mem_cons, List.not_mem_nil, or_false] at hU
                rcases hU with rfl | rfl | rfl | rfl | rfl | rfl | rfl
                all_goals first | trivial | exact O2.drew) ?_ ?_
              · refine ⟨?_, ?_, ?_, ?_, ?_, ?_, ?_, trivial⟩
                · intro a w' hS hO hF' hP K hK; have f0 := hO 5 (by rfl); refine if_ok (by rfl) ?_; unfold Oper.wp execOp; simp only [Sem.run_pure, ev f0]; exact hK _ w' nofun (keep_same hS) ⟨_, _, rfl, hS.2.1⟩
                · intro a w' hS hO hF' hP K hK; have f0 := hO 6 (by rfl); refine if_ok (by rfl) ?_; unfold Oper.wp execOp; simp only [Sem.run_pure, ev f0]; exact hK _ w' nofun (keep_same hS) ⟨_, _, rfl, hS.2.2.1⟩
                · intro a w' hS hO hF' hP K hK; obtain ⟨_, f0, X0, cX0, rfl, hX0⟩ := (hF' 0 rfl).1 38 _ rfl rfl; obtain ⟨_, f1, X1, cX1, rfl, hX1⟩ := (hF' 1 rfl).1 39 _ rfl rfl; refine if_ok (by rfl) ?_; refine wp_calls rfl (enters_of Tryz.func177 (by kernel_rfl) rfl) (args := #[(.slice X0 N cX0), (.slice X1 M cX1)]) (by simp [Act.eval, f0, f1]) ?_; obtain ⟨O4, hx, hy, BB⟩ := id hS; have hz := BB.size; refine (B.rPow_any _ _ _ _ _ _ _ _ _ hX0.rd hX1.rd (by omega) (by omega)).mono ?_; rintro e w2 ⟨A, c, rfl, hN, hb⟩; exact ⟨_, rfl, hK _ w2 nofun (keep_below hb hS) ⟨A, c, rfl, hN.mono (Nat.zero_le _)⟩⟩
                · intro a w' hS hO hF' hP K hK; have ha := hO 2 (by rfl); refine if_ok (by rfl) ?_; refine wp_fa1 _ rfl (ev ha) ?_; exact hK _ w' nofun (keep_same hS) rfl
                · intro a w' hS hO hF' hP K hK; obtain ⟨_, f0, rfl⟩ := (hF' 3 rfl).1 41 _ rfl rfl; refine if_ok (by rfl) ?_; refine wp_ldB _ rfl (ev f0) (hS.1.cell 1) ?_; exact hK _ w' nofun (keep_same hS) rfl
                · intro a w' hS hO hF' hP K hK; obtain ⟨_, f0, X0, cX0, rfl, hX0⟩ := (hF' 2 rfl).1 40 _ rfl rfl; obtain ⟨_, f1, rfl⟩ := (hF' 4 rfl).1 42 _ rfl rfl; refine if_ok (by rfl) ?_; refine wp_calls rfl (enters_of Tryz.func132 (by kernel_rfl) rfl) (args := #[(.slice X0 N cX0), (.bool sx)]) (by simp [Act.eval, f0, f1]) ?_; obtain ⟨O4, hx, hy, BB⟩ := id hS; have hz := BB.size; refine (rFromBools_w _ _ _ _ _ _ hX0.rd hN).mono ?_; rintro e w2 ⟨A, n, c, rfl, hc, hn, hN, hb⟩; exact ⟨_, rfl, hK _ w2 nofun (keep_below hb hS) ⟨A, n, c, rfl, hc, hn, hN.mono hz⟩⟩
                · intro a w' hS hO hF' hP K hK; have O := hP 6 _ rfl rfl; have ha := hO 4 (by rfl); obtain ⟨_, f0, A0, n0, c0, rfl, hc0, hn0, hr0⟩ := (hF' 5 rfl).1 43 _ rfl rfl; refine if_ok (by rfl) ?_; refine wp_store_row _ _ _ rfl (w.heap.size + 1 + 1) _ (ev ha) (ev f0) _ _ O vec_size rfl (by simp [Value.oneCell']) ?_; exact hK _ _ (fun _ => rfl) (keep_store O inferInstance ⟨inferInstance, inferInstance, inferInstance, inferInstance, inferInstance, inferInstance, trivial⟩ ⟨inferInstance, inferInstance, inferInstance, inferInstance, inferInstance, inferInstance, trivial⟩ hS) ⟨A0, n0, c0, Own.row O, hc0, hn0, hr0.row O⟩
              · intro vs u hl hS hV
                match vs, hl, hV with
                | [v0, v1, v2, v3, v4, v5, v6], _, hV =>
                  obtain ⟨X0, cX0, rfl, hX0⟩ := hV 0 _ rfl
                  obtain ⟨X1, cX1, rfl, hX1⟩ := hV 1 _ rfl
                  obtain ⟨X2, cX2, rfl, hX2⟩ := hV 2 _ rfl
                  obtain rfl := hV 3 _ rfl
                  obtain rfl := hV 4 _ rfl
                  obtain ⟨A5, nn5, c5, rfl, hc5, hnn5, hN5⟩ := hV 5 _ rfl
                  obtain ⟨A6, nn6, c6, O6, hc6, hnn6, hN6⟩ := hV 6 _ rfl
                  simp only [puts, Act.put, List.setIfInBounds_toArray, List.set_cons_zero, List.set_cons_succ]
                  obtain ⟨O4, hx, hy, BB⟩ := hS
                  clear hV
                  replace O4 : Own u w.heap.size 24 #[.slice A4 N c4, .bool sx] := O4
                  replace hx : B.Nw u 0 X4 N cX4 (num lx) := hx
                  replace hy : B.Nw u 0 X5 M cX5 (num ly) := hy
                  replace BB : Below w.heap.size w u := BB
                  go_wp2
                  exact ret_vec Tryz.results101 rfl rfl O6 (e9.out ▸ mk_ret (v := (⟨frN N ((num lx ^ num ly) % 2 ^ N), sx⟩ : V)) hN6 BB)
            · have hng : B.neg M (num ly) = (nth ly (M - 1) == 1) := neg_num hly
              have hfl : fill ⟨ly, true⟩ = nth ly (M - 1) := by unfold fill; rw [hly]; rfl
              cases hn1 : (nth ly (M - 1) == 1)
              · have e9 := Lib.hid (show (⟨frN N ((num lx ^ num ly) % 2 ^ N), sx⟩ : V) = powW ⟨lx, sx⟩ ⟨ly, true⟩ from by unfold powW; rw [hkx, hky, hfl, hn1]; subst hlx; rfl)
                have HG := Lib.hid (fun (X : Option Addr) (cX : Nat) (u : World) (h : B.Rd u X M (num ly)) => (hng.trans hn1) ▸ B.rNegative_any X M cX (num ly) u h (by omega))
                clear hng hfl hn1
                go_wp2_with (go_at_call 176; refine (HG.out _ _ _ hX5.rd).mono ?_; rintro e w1 ⟨rfl, rfl⟩)
                haveI : Apart (w.heap.size + 1 + 1) w.heap.size := ⟨by omega⟩
                haveI : Over w (w.heap.size + 1 + 1) := ⟨by omega⟩
                refine region_y (by kernel_rfl) (fun u => owns w.heap.size #[.slice A4 N c4, .bool sx] u ∧ (nws X4 N cX4 (num lx) u ∧ (nws X5 M cX5 (num ly) u ∧ blw w u))) [tru, tru, tru, tru, tru, tru, owns (w.heap.size + 1 + 1) #[.slice none 0 0, .bool false]] [isNum N (num lx), isNum M (num ly), isNum N ((num lx ^ num ly) % 2 ^ N), isV (.pointer (some ⟨w.heap.size, 1, none⟩)), isV (.bool sx), isNX w.heap.size (⟨frN N ((num lx ^ num ly) % 2 ^ N), sx⟩ : V), didX w.heap.size (w.heap.size + 1 + 1) (⟨frN N ((num lx ^ num ly) % 2 ^ N), sx⟩ : V)] [some 38, some 39, some 40, some 41, some 42, some 43, none] [[], [], [0, 1], [], [3], [2, 4, 2], [5, 5, 0, 1, 2, 3, 4, 5]] (by kernel_rfl) (by kernel_rfl) rfl (by kernel_rfl) (by kernel_rfl) (by kernel_rfl) ⟨O4.drew, hX4, hX5, below_drew BB⟩ (by
                  intro U hU
                  simp only [List.mem_cons, List.not_mem_nil, or_false] at hU
                  rcases hU with rfl | rfl | rfl | rfl | rfl | rfl | rfl
                  all_goals first | trivial | exact O2.drew) ?_ ?_
                · refine ⟨?_, ?_, ?_, ?_, ?_, ?_, ?_, trivial⟩
                  · intro a w' hS hO hF' hP K hK; have f0 := hO 5 (by rfl); refine if_ok (by rfl) ?_; unfold Oper.wp execOp; simp only [Sem.run_pure, ev f0]; exact hK _ w' nofun (keep_same hS) ⟨_, _, rfl, hS.2.1⟩
                  · intro a w' hS hO hF' hP K hK; have f0 := hO 6 (by rfl); refine if_ok (by rfl) ?_; unfold Oper.wp execOp; simp only [Sem.run_pure, ev f0]; exact hK _ w' nofun (keep_same hS) ⟨_, _, rfl, hS.2.2.1⟩
                  · intro a w' hS hO hF' hP K hK; obtain ⟨_, f0, X0, cX0, rfl, hX0⟩ := (hF' 0 rfl).1 38 _ rfl rfl; obtain ⟨_, f1, X1, cX1, rfl, hX1⟩ := (hF' 1 rfl).1 39 _ rfl rfl; refine if_ok (by rfl) ?_; refine wp_calls rfl (enters_of Tryz.func177 (by kernel_rfl) rfl) (args := #[(.slice X0 N cX0), (.slice X1 M cX1)]) (by simp [Act.eval, f0, f1]) ?_; obtain ⟨O4, hx, hy, BB⟩ := id hS; have hz := BB.size; refine (B.rPow_any _ _ _ _ _ _ _ _ _ hX0.rd hX1.rd (by omega) (by omega)).mono ?_; rintro e w2 ⟨A, c, rfl, hN, hb⟩; exact ⟨_, rfl, hK _ w2 nofun (keep_below hb hS) ⟨A, c, rfl, hN.mono (Nat.zero_le _)⟩⟩
                  · intro a w' hS hO hF' hP K hK; have ha := hO 2 (by rfl); refine if_ok (by rfl) ?_; refine wp_fa1 _ rfl (ev ha) ?_; exact hK _ w' nofun (keep_same hS) rfl
                  · intro a w' hS hO hF' hP K hK; obtain ⟨_, f0, rfl⟩ := (hF' 3 rfl).1 41 _ rfl rfl; refine if_ok (by rfl) ?_; refine wp_ldB _ rfl (ev f0) (hS.1.cell 1) ?_; exact hK _ w' nofun (keep_same hS) rfl
                  · intro a w' hS hO hF' hP K hK; obtain ⟨_, f0, X0, cX0, rfl, hX0⟩ := (hF' 2 rfl).1 40 _ rfl rfl; obtain ⟨_, f1, rfl⟩ := (hF' 4 rfl).1 42 _ rfl rfl; refine if_ok (by rfl) ?_; refine wp_calls rfl (enters_of Tryz.func132 (by kernel_rfl) rfl) (args := #[(.slice X0 N cX0), (.bool sx)]) (by simp [Act.eval, f0, f1]) ?_; obtain ⟨O4, hx, hy, BB⟩ := id hS; have hz := BB.size; refine (rFromBools_w _ _ _ _ _ _ hX0.rd hN).mono ?_; rintro e w2 ⟨A, n, c, rfl, hc, hn, hN, hb⟩; exact ⟨_, rfl, hK _ w2 nofun (keep_below hb hS) ⟨A, n, c, rfl, hc, hn, hN.mono hz⟩⟩
                  · intro a w' hS hO hF' hP K hK; have O := hP 6 _ rfl rfl; have ha := hO 4 (by rfl); obtain ⟨_, f0, A0, n0, c0, rfl, hc0, hn0, hr0⟩ := (hF' 5 rfl).1 43 _ rfl rfl; refine if_ok (by rfl) ?_; refine wp_store_row _ _ _ rfl (w.heap.size + 1 + 1) _ (ev ha) (ev f0) _ _ O vec_size rfl (by simp [Value.oneCell']) ?_; exact hK _ _ (fun _ => rfl) (keep_store O inferInstance ⟨inferInstance, inferInstance, inferInstance, inferInstance, inferInstance, inferInstance, trivial⟩ ⟨inferInstance, inferInstance, inferInstance, inferInstance, inferInstance, inferInstance, trivial⟩ hS) ⟨A0, n0, c0, Own.row O, hc0, hn0, hr0.row O⟩
                · intro vs u hl hS hV
                  match vs, hl, hV with
                  | [v0, v1, v2, v3, v4, v5, v6], _, hV =>
                    obtain ⟨X0, cX0, rfl, hX0⟩ := hV 0 _ rfl
                    obtain ⟨X1, cX1, rfl, hX1⟩ := hV 1 _ rfl
                    obtain ⟨X2, cX2, rfl, hX2⟩ := hV 2 _ rfl
                    obtain rfl := hV 3 _ rfl
                    obtain rfl := hV 4 _ rfl
                    obtain ⟨A5, nn5, c5, rfl, hc5, hnn5, hN5⟩ := hV 5 _ rfl
                    obtain ⟨A6, nn6, c6, O6, hc6, hnn6, hN6⟩ := hV 6 _ rfl
                    simp only [puts, Act.put, List.setIfInBounds_toArray, List.set_cons_zero, List.set_cons_succ]
                    obtain ⟨O4, hx, hy, BB⟩ := hS
                    clear hV
                    replace O4 : Own u w.heap.size 24 #[.slice A4 N c4, .bool sx] := O4
                    replace hx : B.Nw u 0 X4 N cX4 (num lx) := hx
                    replace hy : B.Nw u 0 X5 M cX5 (num ly) := hy
                    replace BB : Below w.heap.size w u := BB
                    go_wp2
                    exact ret_vec Tryz.results101 rfl rfl O6 (e9.out ▸ mk_ret (v := (⟨frN N ((num lx ^ num ly) % 2 ^ N), sx⟩ : V)) hN6 BB)
              · have e9 := Lib.hid (show powZ (iOk ⟨lx, sx⟩) (iVal ⟨lx, sx⟩) N sx ((num lx ^ num ly) % 2 ^ N) = powW ⟨lx, sx⟩ ⟨ly, true⟩ from by unfold powW; rw [hkx, hky, hfl, hn1]; subst hlx; rfl)
                have HG := Lib.hid (fun (X : Option Addr) (cX : Nat) (u : World) (h : B.Rd u X M (num ly)) => (hng.trans hn1) ▸ B.rNegative_any X M cX (num ly) u h (by omega))
                obtain ⟨bY, oY, rfl, _⟩ := hX5.rd.2 (by omega)
                clear hng hfl hn1
                cases sx
                · replace e9 := e9.out
                  have hz := pz_all (S := false) hlx h0 hN okx hkx (((num lx ^ num ly) % 2 ^ N))
                  replace e9 : powZ (iOk ⟨lx, false⟩) (iVal ⟨lx, false⟩) N false ((num lx ^ num ly) % 2 ^ N) = powW ⟨lx, false⟩ ⟨ly, true⟩ := e9
                  unfold szB at hz
                  by_cases hz0 : (num lx) = 0
                  · have hp0 := Lib.hid (show (0 : Int) = if (num lx) = 0 then 0 else 1 from by rw [if_pos hz0])
                    replace e9 := Lib.hid ((hz.1 hz0).symm.trans e9)
                    clear hz hz0
                    go_wp2_with (first | (go_at_call 176; refine (HG.out _ _ _ hX5.rd).mono ?_; rintro e w1 ⟨rfl, rfl⟩) | (go_at_call 179; (with_reducible refine (cmp_nil _ _ _ _ _ hX4.rd (by omega) hX4.le 0 hp0.out).mono ?_); rintro e w1 ⟨rfl, hb⟩; replace BB := below_step BB hb; replace O4 := O4.step hb; replace O5 := O5.step hb; replace O2 := O2.step hb; replace N4 := N4.step hb; replace hX4 := hX4.step hb; replace hX5 := hX5.step hb; (try clear zO40 zO41 yO40 yO41 zO50 zO51 yO50 yO51 zO20 zO21 yO20 yO21); have zO40 := O4.cell 0; have zO41 := O4.cell 1; have yO40 := O4.free 0; have yO41 := O4.free 1; have zO50 := O5.cell 0; have zO51 := O5.cell 1; have yO50 := O5.free 0; have yO51 := O5.free 1; have zO20 := O2.cell 0; have zO21 := O2.cell 1; have yO20 := O2.free 0; have yO21 := O2.free 1) | (go_at_call 53; refine (HF.out _ _ (by decide)).mono ?_; rintro e w9 ⟨A9, c9, rfl, n9, hb9⟩; have L1 := O2.lt; have W2 := O2.step hb9; have qW20 := W2.cell 0; have qW21 := W2.cell 1; have fW20 := W2.free 0; have fW21 := W2.free 1))
                    exact ret_vec Tryz.results101 rfl rfl (W2.put2 _ _) (e9.out ▸ mk_ret (v := allV 2 N false) ((n9.far2 L1 _ _).mono BB.size) (below_set2 (below_step BB hb9) (by omega) _ _))
                  · have hp0 := Lib.hid (show (1 : Int) = if (num lx) = 0 then 0 else 1 from by rw [if_neg hz0])
                    by_cases hz1 : (num lx) = 1
                    · have hp1 := Lib.hid (show (0 : Int) = B.cmpI ((num lx) : Nat) 1 from by rw [hz1]; rfl)
                      obtain ⟨e5, hxx⟩ := hz.2.2 hz1
                      replace e9 := e5.symm.trans e9
                      have hpar := pow_par (y := num ly) hxx (num_lt' hlx) h0
                      clear e5 hz hz0 hz1 hxx
                      cases hb0 : (num ly).testBit 0
                      · rw [hb0] at hpar
                        have hbb := Lib.hid hb0
                        clear hb0
                        rw [hpar] at e9
                        replace e9 := Lib.hid e9
                        clear hpar
                        go_wp2_with (first | (go_at_call 176; refine (HG.out _ _ _ hX5.rd).mono ?_; rintro e w1 ⟨rfl, rfl⟩) | (go_at_call 179; (with_reducible refine (cmp_nil _ _ _ _ _ hX4.rd (by omega) hX4.le 1 hp0.out).mono ?_); rintro e w1 ⟨rfl, hb⟩; replace BB := below_step BB hb; replace O4 := O4.step hb; replace O5 := O5.step hb; replace O2 := O2.step hb; replace N4 := N4.step hb; replace hX4 := hX4.step hb; replace hX5 := hX5.step hb; (try clear zO40 zO41 yO40 yO41 zO50 zO51 yO50 yO51 zO20 zO21 yO20 yO21); have zO40 := O4.cell 0; have zO41 := O4.cell 1; have yO40 := O4.free 0; have yO41 := O4.free 1; have zO50 := O5.cell 0; have zO51 := O5.cell 1; have yO50 := O5.free 0; have yO51 := O5.free 1; have zO20 := O2.cell 0; have zO21 := O2.cell 1; have yO20 := O2.free 0; have yO21 := O2.free 1) | (go_at_call 179; (with_reducible refine (cmp_one _ _ _ _ _ hX4.rd (by omega) hX4.le 0 hp1.out _ (by simp)).mono ?_); rintro e w1 ⟨rfl, hb⟩; replace BB := below_new BB (.cells #[.bool true] 4); replace O4 := O4.alloc (.cells #[.bool true] 4); replace O5 := O5.alloc (.cells #[.bool true] 4); replace O2 := O2.alloc (.cells #[.bool true] 4); replace N4 := N4.alloc (.cells #[.bool true] 4); replace hX4 := nw_alloc hX4 (.cells #[.bool true] 4); replace hX5 := nw_alloc hX5 (.cells #[.bool true] 4); replace BB := below_step BB hb; replace O4 := O4.step hb; replace O5 := O5.step hb; replace O2 := O2.step hb; replace N4 := N4.step hb; replace hX4 := hX4.step hb; replace hX5 := hX5.step hb; (try clear zO40 zO41 yO40 yO41 zO50 zO51 yO50 yO51 zO20 zO21 yO20 yO21); have zO40 := O4.cell 0; have zO41 := O4.cell 1; have yO40 := O4.free 0; have yO41 := O4.free 1; have zO50 := O5.cell 0; have zO51 := O5.cell 1; have yO50 := O5.free 0; have yO51 := O5.free 1; have zO20 := O2.cell 0; have zO21 := O2.cell 1; have yO20 := O2.free 0; have yO21 := O2.free 1; have hc0 := rd_cell0 hX5.rd (by omega) hbb.out))
                        haveI : Apart (w.heap.size + 1 + 1) w.heap.size := ⟨by omega⟩
                        haveI : Over w (w.heap.size + 1 + 1) := ⟨by omega⟩
                        refine region_y (by kernel_rfl) (fun u => owns w.heap.size #[.slice A4 N c4, .bool false] u ∧ (nws X4 N cX4 (num lx) u ∧ blw w u)) [tru, tru, tru, tru, tru, tru, tru, owns (w.heap.size + 1 + 1) #[.slice none 0 0, .bool false]] [isNum 1 1, isNum N (num lx), isV (.int .i64 N), isNum N (1 % 2 ^ N), isV (.pointer (some ⟨w.heap.size, 1, none⟩)), isV (.bool false), isNX w.heap.size (⟨frN N (1 % 2 ^ N), false⟩ : V), didX w.heap.size (w.heap.size + 1 + 1) (⟨frN N (1 % 2 ^ N), false⟩ : V)] [some 72, some 73, some 74, some 75, some 76, some 77, some 78, none] [[], [], [1], [0, 2], [], [4], [3, 5, 3], [6, 6, 0, 1, 2, 3, 4, 5, 6]] (by kernel_rfl) (by kernel_rfl) rfl (by kernel_rfl) (by kernel_rfl) (by kernel_rfl) ⟨O4.drew, hX4, below_drew BB⟩ (by
                          intro U hU
                          simp only [List.mem_cons, List.not_mem_nil, or_false] at hU
                          rcases hU with rfl | rfl | rfl | rfl | rfl | rfl | rfl | rfl
                          all_goals first | trivial | exact O2.drew) ?_ ?_
                        · refine ⟨?_, ?_, ?_, ?_, ?_, ?_, ?_, ?_, trivial⟩
                          · intro a w' hS hO hF' hP K hK; refine if_ok (by rfl) ?_; refine wp_bsT rfl ?_; exact hK _ _ nofun (keep_below (below_new (Below.refl _ _) _) hS) ⟨_, _, rfl, nw_true w'⟩
                          · intro a w' hS hO hF' hP K hK; have f0 := hO 5 (by rfl); refine if_ok (by rfl) ?_; unfold Oper.wp execOp; simp only [Sem.run_pure, ev f0]; exact hK _ w' nofun (keep_same hS) ⟨_, _, rfl, hS.2.1⟩
                          · intro a w' hS hO hF' hP K hK; obtain ⟨_, f0, X0, cX0, rfl, hX0⟩ := (hF' 1 rfl).1 73 _ rfl rfl; refine if_ok (by rfl) ?_; refine wp_lenB _ rfl (ev f0) ?_; exact hK _ w' nofun (keep_same hS) rfl
                          · intro a w' hS hO hF' hP K hK; obtain ⟨_, f0, X0, cX0, rfl, hX0⟩ := (hF' 0 rfl).1 72 _ rfl rfl; obtain ⟨_, f1, rfl⟩ := (hF' 2 rfl).1 74 _ rfl rfl; refine if_ok (by rfl) ?_; refine wp_calls rfl (enters_of Tryz.func180 (by kernel_rfl) rfl) (args := #[(.slice X0 1 cX0), (.int .i64 N)]) (by simp [Act.eval, f0, f1]) ?_; obtain ⟨O4, hx, BB⟩ := id hS; have hz := BB.size; refine (B.rFit_any _ _ _ _ _ _ hX0.rd (by omega) (by omega)).mono ?_; rintro e w2 ⟨A, c, rfl, hN, hb⟩; exact ⟨_, rfl, hK _ w2 nofun (keep_below hb hS) ⟨A, c, rfl, hN.mono (Nat.zero_le _)⟩⟩
                          · intro a w' hS hO hF' hP K hK; have ha := hO 2 (by rfl); refine if_ok (by rfl) ?_; refine wp_fa1 _ rfl (ev ha) ?_; exact hK _ w' nofun (keep_same hS) rfl
                          · intro a w' hS hO hF' hP K hK; obtain ⟨_, f0, rfl⟩ := (hF' 4 rfl).1 76 _ rfl rfl; refine if_ok (by rfl) ?_; refine wp_ldB _ rfl (ev f0) (hS.1.cell 1) ?_; exact hK _ w' nofun (keep_same hS) rfl
                          · intro a w' hS hO hF' hP K hK; obtain ⟨_, f0, X0, cX0, rfl, hX0⟩ := (hF' 3 rfl).1 75 _ rfl rfl; obtain ⟨_, f1, rfl⟩ := (hF' 5 rfl).1 77 _ rfl rfl; refine if_ok (by rfl) ?_; refine wp_calls rfl (enters_of Tryz.func132 (by kernel_rfl) rfl) (args := #[(.slice X0 N cX0), (.bool false)]) (by simp [Act.eval, f0, f1]) ?_; obtain ⟨O4, hx, BB⟩ := id hS; have hz := BB.size; refine (rFromBools_w _ _ _ _ _ _ hX0.rd hN).mono ?_; rintro e w2 ⟨A, n, c, rfl, hc, hn, hN, hb⟩; exact ⟨_, rfl, hK _ w2 nofun (keep_below hb hS) ⟨A, n, c, rfl, hc, hn, hN.mono hz⟩⟩
                          · intro a w' hS hO hF' hP K hK; have O := hP 7 _ rfl rfl; have ha := hO 4 (by rfl); obtain ⟨_, f0, A0, n0, c0, rfl, hc0, hn0, hr0⟩ := (hF' 6 rfl).1 78 _ rfl rfl; refine if_ok (by rfl) ?_; refine wp_store_row _ _ _ rfl (w.heap.size + 1 + 1) _ (ev ha) (ev f0) _ _ O vec_size rfl (by simp [Value.oneCell']) ?_; exact hK _ _ (fun _ => rfl) (keep_store O inferInstance ⟨inferInstance, inferInstance, inferInstance, inferInstance, inferInstance, inferInstance, inferInstance, trivial⟩ ⟨inferInstance, inferInstance, inferInstance, inferInstance, inferInstance, inferInstance, inferInstance, trivial⟩ hS) ⟨A0, n0, c0, Own.row O, hc0, hn0, hr0.row O⟩
                        · intro vs u hl hS hV
                          match vs, hl, hV with
                          | [v0, v1, v2, v3, v4, v5, v6, v7], _, hV =>
                            obtain ⟨X0, cX0, rfl, hX0⟩ := hV 0 _ rfl
                            obtain ⟨X1, cX1, rfl, hX1⟩ := hV 1 _ rfl
                            obtain rfl := hV 2 _ rfl
                            obtain ⟨X3, cX3, rfl, hX3⟩ := hV 3 _ rfl
                            obtain rfl := hV 4 _ rfl
                            obtain rfl := hV 5 _ rfl
                            obtain ⟨A6, nn6, c6, rfl, hc6, hnn6, hN6⟩ := hV 6 _ rfl
                            obtain ⟨A7, nn7, c7, O7, hc7, hnn7, hN7⟩ := hV 7 _ rfl
                            simp only [puts, Act.put, List.setIfInBounds_toArray, List.set_cons_zero, List.set_cons_succ]
                            obtain ⟨O4, hx, BB⟩ := hS
                            clear hV
                            replace O4 : Own u w.heap.size 24 #[.slice A4 N c4, .bool false] := O4
                            replace hx : B.Nw u 0 X4 N cX4 (num lx) := hx
                            replace BB : Below w.heap.size w u := BB
                            go_wp2
                            exact ret_vec Tryz.results101 rfl rfl O7 (e9.out ▸ mk_ret (v := (⟨frN N (1 % 2 ^ N), false⟩ : V)) hN7 BB)
                      · rw [hb0] at hpar
                        have hbb := Lib.hid hb0
                        clear hb0
                        rw [hpar] at e9
                        have e6 : (⟨frN N (num lx), false⟩ : V) = ⟨lx, false⟩ := V.ext' (by rw [← hlx]; exact frN_num hkx) rfl
                        replace e9 := Lib.hid (e6.symm.trans e9)
                        clear hpar e6
                        go_wp2_with (first | (go_at_call 176; refine (HG.out _ _ _ hX5.rd).mono ?_; rintro e w1 ⟨rfl, rfl⟩) | (go_at_call 179; (with_reducible refine (cmp_nil _ _ _ _ _ hX4.rd (by omega) hX4.le 1 hp0.out).mono ?_); rintro e w1 ⟨rfl, hb⟩; replace BB := below_step BB hb; replace O4 := O4.step hb; replace O5 := O5.step hb; replace O2 := O2.step hb; replace N4 := N4.step hb; replace hX4 := hX4.step hb; replace hX5 := hX5.step hb; (try clear zO40 zO41 yO40 yO41 zO50 zO51 yO50 yO51 zO20 zO21 yO20 yO21); have zO40 := O4.cell 0; have zO41 := O4.cell 1; have yO40 := O4.free 0; have yO41 := O4.free 1; have zO50 := O5.cell 0; have zO51 := O5.cell 1; have yO50 := O5.free 0; have yO51 := O5.free 1; have zO20 := O2.cell 0; have zO21 := O2.cell 1; have yO20 := O2.free 0; have yO21 := O2.free 1) | (go_at_call 179; (with_reducible refine (cmp_one _ _ _ _ _ hX4.rd (by omega) hX4.le 0 hp1.out _ (by simp)).mono ?_); rintro e w1 ⟨rfl, hb⟩; replace BB := below_new BB (.cells #[.bool true] 4); replace O4 := O4.alloc (.cells #[.bool true] 4); replace O5 := O5.alloc (.cells #[.bool true] 4); replace O2 := O2.alloc (.cells #[.bool true] 4); replace N4 := N4.alloc (.cells #[.bool true] 4); replace hX4 := nw_alloc hX4 (.cells #[.bool true] 4); replace hX5 := nw_alloc hX5 (.cells #[.bool true] 4); replace BB := below_step BB hb; replace O4 := O4.step hb; replace O5 := O5.step hb; replace O2 := O2.step hb; replace N4 := N4.step hb; replace hX4 := hX4.step hb; replace hX5 := hX5.step hb; (try clear zO40 zO41 yO40 yO41 zO50 zO51 yO50 yO51 zO20 zO21 yO20 yO21); have zO40 := O4.cell 0; have zO41 := O4.cell 1; have yO40 := O4.free 0; have yO41 := O4.free 1; have zO50 := O5.cell 0; have zO51 := O5.cell 1; have yO50 := O5.free 0; have yO51 := O5.free 1; have zO20 := O2.cell 0; have zO21 := O2.cell 1; have yO20 := O2.free 0; have yO21 := O2.free 1; have hc0 := rd_cell0 hX5.rd (by omega) hbb.out))
                        exact ret_vec Tryz.results101 rfl rfl (O2.put2 _ _) (e9.out ▸ mk_ret (v := ⟨lx, false⟩) ((N4.setT O2 (by decide) 0 _).setT (O2.put 0 _) (by decide) 1 _) (below_set2 BB (by omega) _ _))
                    · have hp1 := Lib.hid (show (1 : Int) = B.cmpI ((num lx) : Nat) 1 from by unfold B.cmpI; rw [if_neg (by omega), if_neg (by omega)])
                      replace e9 := Lib.hid ((hz.2.1 hz0 hz1).symm.trans e9)
                      clear hz hz0 hz1
                      go_wp2_with (first | (go_at_call 176; refine (HG.out _ _ _ hX5.rd).mono ?_; rintro e w1 ⟨rfl, rfl⟩) | (go_at_call 179; (with_reducible refine (cmp_nil _ _ _ _ _ hX4.rd (by omega) hX4.le 1 hp0.out).mono ?_); rintro e w1 ⟨rfl, hb⟩; replace BB := below_step BB hb; replace O4 := O4.step hb; replace O5 := O5.step hb; replace O2 := O2.step hb; replace N4 := N4.step hb; replace hX4 := hX4.step hb; replace hX5 := hX5.step hb; (try clear zO40 zO41 yO40 yO41 zO50 zO51 yO50 yO51 zO20 zO21 yO20 yO21); have zO40 := O4.cell 0; have zO41 := O4.cell 1; have yO40 := O4.free 0; have yO41 := O4.free 1; have zO50 := O5.cell 0; have zO51 := O5.cell 1; have yO50 := O5.free 0; have yO51 := O5.free 1; have zO20 := O2.cell 0; have zO21 := O2.cell 1; have yO20 := O2.free 0; have yO21 := O2.free 1) | (go_at_call 179; (with_reducible refine (cmp_one _ _ _ _ _ hX4.rd (by omega) hX4.le 1 hp1.out _ (by simp)).mono ?_); rintro e w1 ⟨rfl, hb⟩; replace BB := below_new BB (.cells #[.bool true] 4); replace O4 := O4.alloc (.cells #[.bool true] 4); replace O5 := O5.alloc (.cells #[.bool true] 4); replace O2 := O2.alloc (.cells #[.bool true] 4); replace N4 := N4.alloc (.cells #[.bool true] 4); replace hX4 := nw_alloc hX4 (.cells #[.bool true] 4); replace hX5 := nw_alloc hX5 (.cells #[.bool true] 4); replace BB := below_step BB hb; replace O4 := O4.step hb; replace O5 := O5.step hb; replace O2 := O2.step hb; replace N4 := N4.step hb; replace hX4 := hX4.step hb; replace hX5 := hX5.step hb; (try clear zO40 zO41 yO40 yO41 zO50 zO51 yO50 yO51 zO20 zO21 yO20 yO21); have zO40 := O4.cell 0; have zO41 := O4.cell 1; have yO40 := O4.free 0; have yO41 := O4.free 1; have zO50 := O5.cell 0; have zO51 := O5.cell 1; have yO50 := O5.free 0; have yO51 := O5.free 1; have zO20 := O2.cell 0; have zO21 := O2.cell 1; have yO20 := O2.free 0; have yO21 := O2.free 1) | (go_at_call 53; refine (HF.out _ _ (by decide)).mono ?_; rintro e w9 ⟨A9, c9, rfl, n9, hb9⟩; have L1 := O2.lt; have W2 := O2.step hb9; have qW20 := W2.cell 0; have qW21 := W2.cell 1; have fW20 := W2.free 0; have fW21 := W2.free 1))
                      exact ret_vec Tryz.results101 rfl rfl (W2.put2 _ _) (e9.out ▸ mk_ret (v := allV 0 N false) ((n9.far2 L1 _ _).mono BB.size) (below_set2 (below_step BB hb9) (by omega) _ _))
                · replace e9 := e9.out
                  have hz := pz_all (S := true) hlx h0 hN okx hkx (((num lx ^ num ly) % 2 ^ N))
                  replace e9 : powZ (iOk ⟨lx, true⟩) (iVal ⟨lx, true⟩) N true ((num lx ^ num ly) % 2 ^ N) = powW ⟨lx, true⟩ ⟨ly, true⟩ := e9
                  unfold szB at hz
                  by_cases hz0 : (B.absv N (num lx)) = 0
                  · have hp0 := Lib.hid (show (0 : Int) = if (B.absv N (num lx)) = 0 then 0 else 1 from by rw [if_pos hz0])
                    replace e9 := Lib.hid ((hz.1 hz0).symm.trans e9)
                    clear hz hz0
                    go_wp2_with (first | (go_at_call 176; refine (HG.out _ _ _ hX5.rd).mono ?_; rintro e w1 ⟨rfl, rfl⟩) | (go_at_call 178; refine (B.size_any _ _ _ _ _ hX4.rd (by omega) hX4.le).mono ?_; rintro e w1 ⟨ls, hls, Xs, cs, rfl, hXs, hb⟩; replace BB := below_step BB hb; replace O4 := O4.step hb; replace O5 := O5.step hb; replace O2 := O2.step hb; replace N4 := N4.step hb; replace hX4 := hX4.step hb; replace hX5 := hX5.step hb; (try clear zO40 zO41 yO40 yO41 zO50 zO51 yO50 yO51 zO20 zO21 yO20 yO21); have zO40 := O4.cell 0; have zO41 := O4.cell 1; have yO40 := O4.free 0; have yO41 := O4.free 1; have zO50 := O5.cell 0; have zO51 := O5.cell 1; have yO50 := O5.free 0; have yO51 := O5.free 1; have zO20 := O2.cell 0; have zO21 := O2.cell 1; have yO20 := O2.free 0; have yO21 := O2.free 1) | (go_at_call 179; (with_reducible refine (cmp_nil _ _ _ _ _ hXs.rd (by omega) hXs.le 0 hp0.out).mono ?_); rintro e w1 ⟨rfl, hb⟩; replace BB := below_step BB hb; replace O4 := O4.step hb; replace O5 := O5.step hb; replace O2 := O2.step hb; replace N4 := N4.step hb; replace hX4 := hX4.step hb; replace hX5 := hX5.step hb; replace hXs := hXs.step hb; (try clear zO40 zO41 yO40 yO41 zO50 zO51 yO50 yO51 zO20 zO21 yO20 yO21); have zO40 := O4.cell 0; have zO41 := O4.cell 1; have yO40 := O4.free 0; have yO41 := O4.free 1; have zO50 := O5.cell 0; have zO51 := O5.cell 1; have yO50 := O5.free 0; have yO51 := O5.free 1; have zO20 := O2.cell 0; have zO21 := O2.cell 1; have yO20 := O2.free 0; have yO21 := O2.free 1) | (go_at_call 53; refine (HF.out _ _ (by decide)).mono ?_; rintro e w9 ⟨A9, c9, rfl, n9, hb9⟩; have L1 := O2.lt; have W2 := O2.step hb9; have qW20 := W2.cell 0; have qW21 := W2.cell 1; have fW20 := W2.free 0; have fW21 := W2.free 1))
                    exact ret_vec Tryz.results101 rfl rfl (W2.put2 _ _) (e9.out ▸ mk_ret (v := allV 2 N true) ((n9.far2 L1 _ _).mono BB.size) (below_set2 (below_step BB hb9) (by omega) _ _))
                  · have hp0 := Lib.hid (show (1 : Int) = if (B.absv N (num lx)) = 0 then 0 else 1 from by rw [if_neg hz0])
                    by_cases hz1 : (B.absv N (num lx)) = 1
                    · have hp1 := Lib.hid (show (0 : Int) = B.cmpI ((B.absv N (num lx)) : Nat) 1 from by rw [hz1]; rfl)
                      obtain ⟨e5, hxx⟩ := hz.2.2 hz1
                      replace e9 := e5.symm.trans e9
                      have hpar := pow_par (y := num ly) hxx (num_lt' hlx) h0
                      clear e5 hz hz0 hz1 hxx
                      cases hb0 : (num ly).testBit 0
                      · rw [hb0] at hpar
                        have hbb := Lib.hid hb0
                        clear hb0
                        rw [hpar] at e9
                        replace e9 := Lib.hid e9
                        clear hpar
                        go_wp2_with (first | (go_at_call 176; refine (HG.out _ _ _ hX5.rd).mono ?_; rintro e w1 ⟨rfl, rfl⟩) | (go_at_call 178; refine (B.size_any _ _ _ _ _ hX4.rd (by omega) hX4.le).mono ?_; rintro e w1 ⟨ls, hls, Xs, cs, rfl, hXs, hb⟩; replace BB := below_step BB hb; replace O4 := O4.step hb; replace O5 := O5.step hb; replace O2 := O2.step hb; replace N4 := N4.step hb; replace hX4 := hX4.step hb; replace hX5 := hX5.step hb; (try clear zO40 zO41 yO40 yO41 zO50 zO51 yO50 yO51 zO20 zO21 yO20 yO21); have zO40 := O4.cell 0; have zO41 := O4.cell 1; have yO40 := O4.free 0; have yO41 := O4.free 1; have zO50 := O5.cell 0; have zO51 := O5.cell 1; have yO50 := O5.free 0; have yO51 := O5.free 1; have zO20 := O2.cell 0; have zO21 := O2.cell 1; have yO20 := O2.free 0; have yO21 := O2.free 1) | (go_at_call 179; (with_reducible refine (cmp_nil _ _ _ _ _ hXs.rd (by omega) hXs.le 1 hp0.out).mono ?_); rintro e w1 ⟨rfl, hb⟩; replace BB := below_step BB hb; replace O4 := O4.step hb; replace O5 := O5.step hb; replace O2 := O2.step hb; replace N4 := N4.step hb; replace hX4 := hX4.step hb; replace hX5 := hX5.step hb; replace hXs := hXs.step hb; (try clear zO40 zO41 yO40 yO41 zO50 zO51 yO50 yO51 zO20 zO21 yO20 yO21); have zO40 := O4.cell 0; have zO41 := O4.cell 1; have yO40 := O4.free 0; have yO41 := O4.free 1; have zO50 := O5.cell 0; have zO51 := O5.cell 1; have yO50 := O5.free 0; have yO51 := O5.free 1; have zO20 := O2.cell 0; have zO21 := O2.cell 1; have yO20 := O2.free 0; have yO21 := O2.free 1) | (go_at_call 179; (with_reducible refine (cmp_one _ _ _ _ _ hXs.rd (by omega) hXs.le 0 hp1.out _ (by simp)).mono ?_); rintro e w1 ⟨rfl, hb⟩; replace BB := below_new BB (.cells #[.bool true] 4); replace O4 := O4.alloc (.cells #[.bool true] 4); replace O5 := O5.alloc (.cells #[.bool true] 4); replace O2 := O2.alloc (.cells #[.bool true] 4); replace N4 := N4.alloc (.cells #[.bool true] 4); replace hX4 := nw_alloc hX4 (.cells #[.bool true] 4); replace hX5 := nw_alloc hX5 (.cells #[.bool true] 4); replace BB := below_step BB hb; replace O4 := O4.step hb; replace O5 := O5.step hb; replace O2 := O2.step hb; replace N4 := N4.step hb; replace hX4 := hX4.step hb; replace hX5 := hX5.step hb; (try clear zO40 zO41 yO40 yO41 zO50 zO51 yO50 yO51 zO20 zO21 yO20 yO21); have zO40 := O4.cell 0; have zO41 := O4.cell 1; have yO40 := O4.free 0; have yO41 := O4.free 1; have zO50 := O5.cell 0; have zO51 := O5.cell 1; have yO50 := O5.free 0; have yO51 := O5.free 1; have zO20 := O2.cell 0; have zO21 := O2.cell 1; have yO20 := O2.free 0; have yO21 := O2.free 1; have hc0 := rd_cell0 hX5.rd (by omega) hbb.out))
                        haveI : Apart (w.heap.size + 1 + 1) w.heap.size := ⟨by omega⟩
                        haveI : Over w (w.heap.size + 1 + 1) := ⟨by omega⟩
                        refine region_y (by kernel_rfl) (fun u => owns w.heap.size #[.slice A4 N c4, .bool true] u ∧ (nws X4 N cX4 (num lx) u ∧ blw w u)) [tru, tru, tru, tru, tru, tru, tru, owns (w.heap.size + 1 + 1) #[.slice none 0 0, .bool false]] [isNum 1 1, isNum N (num lx), isV (.int .i64 N), isNum N (1 % 2 ^ N), isV (.pointer (some ⟨w.heap.size, 1, none⟩)), isV (.bool true), isNX w.heap.size (⟨frN N (1 % 2 ^ N), true⟩ : V), didX w.heap.size (w.heap.size + 1 + 1) (⟨frN N (1 % 2 ^ N), true⟩ : V)] [some 72, some 73, some 74, some 75, some 76, some 77, some 78, none] [[], [], [1], [0, 2], [], [4], [3, 5, 3], [6, 6, 0, 1, 2, 3, 4, 5, 6]] (by kernel_rfl) (by kernel_rfl) rfl (by kernel_rfl) (by kernel_rfl) (by kernel_rfl) ⟨O4.drew, hX4, below_drew BB⟩ (by
                          intro U hU
                          simp only [List.mem_cons, List.not_mem_nil, or_false] at hU
                          rcases hU with rfl | rfl | rfl | rfl | rfl | rfl | rfl | rfl
                          all_goals first | trivial | exact O2.drew) ?_ ?_
                        · refine ⟨?_, ?_, ?_, ?_, ?_, ?_, ?_, ?_, trivial⟩
                          · intro a w' hS hO hF' hP K hK; refine if_ok (by rfl) ?_; refine wp_bsT rfl ?_; exact hK _ _ nofun (keep_below (below_new (Below.refl _ _) _) hS) ⟨_, _, rfl, nw_true w'⟩
                          · intro a w' hS hO hF' hP K hK; have f0 := hO 5 (by rfl); refine if_ok (by rfl) ?_; unfold Oper.wp execOp; simp only [Sem.run_pure, ev f0]; exact hK _ w' nofun (keep_same hS) ⟨_, _, rfl, hS.2.1⟩
                          · intro a w' hS hO hF' hP K hK; obtain ⟨_, f0, X0, cX0, rfl, hX0⟩ := (hF' 1 rfl).1 73 _ rfl rfl; refine if_ok (by rfl) ?_; refine wp_lenB _ rfl (ev f0) ?_; exact hK _ w' nofun (keep_same hS) rfl
                          · intro a w' hS hO hF' hP K hK; obtain ⟨_, f0, X0, cX0, rfl, hX0⟩ := (hF' 0 rfl).1 72 _ rfl rfl; obtain ⟨_, f1, rfl⟩ := (hF' 2 rfl).1 74 _ rfl rfl; refine if_ok (by rfl) ?_; refine wp_calls rfl (enters_of Tryz.func180 (by kernel_rfl) rfl) (args := #[(.slice X0 1 cX0), (.int .i64 N)]) (by simp [Act.eval, f0, f1]) ?_; obtain ⟨O4, hx, BB⟩ := id hS; have hz := BB.size; refine (B.rFit_any _ _ _ _ _ _ hX0.rd (by omega) (by omega)).mono ?_; rintro e w2 ⟨A, c, rfl, hN, hb⟩; exact ⟨_, rfl, hK _ w2 nofun (keep_below hb hS) ⟨A, c, rfl, hN.mono (Nat.zero_le _)⟩⟩
                          · intro a w' hS hO hF' hP K hK; have ha := hO 2 (by rfl); refine if_ok (by rfl) ?_; refine wp_fa1 _ rfl (ev ha) ?_; exact hK _ w' nofun (keep_same hS) rfl
                          · intro a w' hS hO hF' hP K hK; obtain ⟨_, f0, rfl⟩ := (hF' 4 rfl).1 76 _ rfl rfl; refine if_ok (by rfl) ?_; refine wp_ldB _ rfl (ev f0) (hS.1.cell 1) ?_; exact hK _ w' nofun (keep_same hS) rfl
                          · intro a w' hS hO hF' hP K hK; obtain ⟨_, f0, X0, cX0, rfl, hX0⟩ := (hF' 3 rfl).1 75 _ rfl rfl; obtain ⟨_, f1, rfl⟩ := (hF' 5 rfl).1 77 _ rfl rfl; refine if_ok (by rfl) ?_; refine wp_calls rfl (enters_of Tryz.func132 (by kernel_rfl) rfl) (args := #[(.slice X0 N cX0), (.bool true)]) (by simp [Act.eval, f0, f1]) ?_; obtain ⟨O4, hx, BB⟩ := id hS; have hz := BB.size; refine (rFromBools_w _ _ _ _ _ _ hX0.rd hN).mono ?_; rintro e w2 ⟨A, n, c, rfl, hc, hn, hN, hb⟩; exact ⟨_, rfl, hK _ w2 nofun (keep_below hb hS) ⟨A, n, c, rfl, hc, hn, hN.mono hz⟩⟩
                          · intro a w' hS hO hF' hP K hK; have O := hP 7 _ rfl rfl; have ha := hO 4 (by rfl); obtain ⟨_, f0, A0, n0, c0, rfl, hc0, hn0, hr0⟩ := (hF' 6 rfl).1 78 _ rfl rfl; refine if_ok (by rfl) ?_; refine wp_store_row _ _ _ rfl (w.heap.size + 1 + 1) _ (ev ha) (ev f0) _ _ O vec_size rfl (by simp [Value.oneCell']) ?_; exact hK _ _ (fun _ => rfl) (keep_store O inferInstance ⟨inferInstance, inferInstance, inferInstance, inferInstance, inferInstance, inferInstance, inferInstance, trivial⟩ ⟨inferInstance, inferInstance, inferInstance, inferInstance, inferInstance, inferInstance, inferInstance, trivial⟩ hS) ⟨A0, n0, c0, Own.row O, hc0, hn0, hr0.row O⟩
                        · intro vs u hl hS hV
                          match vs, hl, hV with
                          | [v0, v1, v2, v3, v4, v5, v6, v7], _, hV =>
                            obtain ⟨X0, cX0, rfl, hX0⟩ := hV 0 _ rfl
                            obtain ⟨X1, cX1, rfl, hX1⟩ := hV 1 _ rfl
                            obtain rfl := hV 2 _ rfl
                            obtain ⟨X3, cX3, rfl, hX3⟩ := hV 3 _ rfl
                            obtain rfl := hV 4 _ rfl
                            obtain rfl := hV 5 _ rfl
                            obtain ⟨A6, nn6, c6, rfl, hc6, hnn6, hN6⟩ := hV 6 _ rfl
                            obtain ⟨A7, nn7, c7, O7, hc7, hnn7, hN7⟩ := hV 7 _ rfl
                            simp only [puts, Act.put, List.setIfInBounds_toArray, List.set_cons_zero, List.set_cons_succ]
                            obtain ⟨O4, hx, BB⟩ := hS
                            clear hV
                            replace O4 : Own u w.heap.size 24 #[.slice A4 N c4, .bool true] := O4
                            replace hx : B.Nw u 0 X4 N cX4 (num lx) := hx
                            replace BB : Below w.heap.size w u := BB
                            go_wp2
                            exact ret_vec Tryz.results101 rfl rfl O7 (e9.out ▸ mk_ret (v := (⟨frN N (1 % 2 ^ N), true⟩ : V)) hN7 BB)
                      · rw [hb0] at hpar
                        have hbb := Lib.hid hb0
                        clear hb0
                        rw [hpar] at e9
                        have e6 : (⟨frN N (num lx), true⟩ : V) = ⟨lx, true⟩ := V.ext' (by rw [← hlx]; exact frN_num hkx) rfl
                        replace e9 := Lib.hid (e6.symm.trans e9)
                        clear hpar e6
                        go_wp2_with (first | (go_at_call 176; refine (HG.out _ _ _ hX5.rd).mono ?_; rintro e w1 ⟨rfl, rfl⟩) | (go_at_call 178; refine (B.size_any _ _ _ _ _ hX4.rd (by omega) hX4.le).mono ?_; rintro e w1 ⟨ls, hls, Xs, cs, rfl, hXs, hb⟩; replace BB := below_step BB hb; replace O4 := O4.step hb; replace O5 := O5.step hb; replace O2 := O2.step hb; replace N4 := N4.step hb; replace hX4 := hX4.step hb; replace hX5 := hX5.step hb; (try clear zO40 zO41 yO40 yO41 zO50 zO51 yO50 yO51 zO20 zO21 yO20 yO21); have zO40 := O4.cell 0; have zO41 := O4.cell 1; have yO40 := O4.free 0; have yO41 := O4.free 1; have zO50 := O5.cell 0; have zO51 := O5.cell 1; have yO50 := O5.free 0; have yO51 := O5.free 1; have zO20 := O2.cell 0; have zO21 := O2.cell 1; have yO20 := O2.free 0; have yO21 := O2.free 1) | (go_at_call 179; (with_reducible refine (cmp_nil _ _ _ _ _ hXs.rd (by omega) hXs.le 1 hp0.out).mono ?_); rintro e w1 ⟨rfl, hb⟩; replace BB := below_step BB hb; replace O4 := O4.step hb; replace O5 := O5.step hb; replace O2 := O2.step hb; replace N4 := N4.step hb; replace hX4 := hX4.step hb; replace hX5 := hX5.step hb; replace hXs := hXs.step hb; (try clear zO40 zO41 yO40 yO41 zO50 zO51 yO50 yO51 zO20 zO21 yO20 yO21); have zO40 := O4.cell 0; have zO41 := O4.cell 1; have yO40 := O4.free 0; have yO41 := O4.free 1; have zO50 := O5.cell 0; have zO51 := O5.cell 1; have yO50 := O5.free 0; have yO51 := O5.free 1; have zO20 := O2.cell 0; have zO21 := O2.cell 1; have yO20 := O2.free 0; have yO21 := O2.free 1) | (go_at_call 179; (with_reducible refine (cmp_one _ _ _ _ _ hXs.rd (by omega) hXs.le 0 hp1.out _ (by simp)).mono ?_); rintro e w1 ⟨rfl, hb⟩; replace BB := below_new BB (.cells #[.bool true] 4); replace O4 := O4.alloc (.cells #[.bool true] 4); replace O5 := O5.alloc (.cells #[.bool true] 4); replace O2 := O2.alloc (.cells #[.bool true] 4); replace N4 := N4.alloc (.cells #[.bool true] 4); replace hX4 := nw_alloc hX4 (.cells #[.bool true] 4); replace hX5 := nw_alloc hX5 (.cells #[.bool true] 4); replace BB := below_step BB hb; replace O4 := O4.step hb; replace O5 := O5.step hb; replace O2 := O2.step hb; replace N4 := N4.step hb; replace hX4 := hX4.step hb; replace hX5 := hX5.step hb; (try clear zO40 zO41 yO40 yO41 zO50 zO51 yO50 yO51 zO20 zO21 yO20 yO21); have zO40 := O4.cell 0; have zO41 := O4.cell 1; have yO40 := O4.free 0; have yO41 := O4.free 1; have zO50 := O5.cell 0; have zO51 := O5.cell 1; have yO50 := O5.free 0; have yO51 := O5.free 1; have zO20 := O2.cell 0; have zO21 := O2.cell 1; have yO20 := O2.free 0; have yO21 := O2.free 1; have hc0 := rd_cell0 hX5.rd (by omega) hbb.out))
                        exact ret_vec Tryz.results101 rfl rfl (O2.put2 _ _) (e9.out ▸ mk_ret (v := ⟨lx, true⟩) ((N4.setT O2 (by decide) 0 _).setT (O2.put 0 _) (by decide) 1 _) (below_set2 BB (by omega) _ _))
                    · have hp1 := Lib.hid (show (1 : Int) = B.cmpI ((B.absv N (num lx)) : Nat) 1 from by unfold B.cmpI; rw [if_neg (by omega), if_neg (by omega)])
                      replace e9 := Lib.hid ((hz.2.1 hz0 hz1).symm.trans e9)
                      clear hz hz0 hz1
                      go_wp2_with (first | (go_at_call 176; refine (HG.out _ _ _ hX5.rd).mono ?_; rintro e w1 ⟨rfl, rfl⟩) | (go_at_call 178; refine (B.size_any _ _ _ _ _ hX4.rd (by omega) hX4.le).mono ?_; rintro e w1 ⟨ls, hls, Xs, cs, rfl, hXs, hb⟩; replace BB := below_step BB hb; replace O4 := O4.step hb; replace O5 := O5.step hb; replace O2 := O2.step hb; replace N4 := N4.step hb; replace hX4 := hX4.step hb; replace hX5 := hX5.step hb; (try clear zO40 zO41 yO40 yO41 zO50 zO51 yO50 yO51 zO20 zO21 yO20 yO21); have zO40 := O4.cell 0; have zO41 := O4.cell 1; have yO40 := O4.free 0; have yO41 := O4.free 1; have zO50 := O5.cell 0; have zO51 := O5.cell 1; have yO50 := O5.free 0; have yO51 := O5.free 1; have zO20 := O2.cell 0; have zO21 := O2.cell 1; have yO20 := O2.free 0; have yO21 := O2.free 1) | (go_at_call 179; (with_reducible refine (cmp_nil _ _ _ _ _ hXs.rd (by omega) hXs.le 1 hp0.out).mono ?_); rintro e w1 ⟨rfl, hb⟩; replace BB := below_step BB hb; replace O4 := O4.step hb; replace O5 := O5.step hb; replace O2 := O2.step hb; replace N4 := N4.step hb; replace hX4 := hX4.step hb; replace hX5 := hX5.step hb; replace hXs := hXs.step hb; (try clear zO40 zO41 yO40 yO41 zO50 zO51 yO50 yO51 zO20 zO21 yO20 yO21); have zO40 := O4.cell 0; have zO41 := O4.cell 1; have yO40 := O4.free 0; have yO41 := O4.free 1; have zO50 := O5.cell 0; have zO51 := O5.cell 1; have yO50 := O5.free 0; have yO51 := O5.free 1; have zO20 := O2.cell 0; have zO21 := O2.cell 1; have yO20 := O2.free 0; have yO21 := O2.free 1) | (go_at_call 179; (with_reducible refine (cmp_one _ _ _ _ _ hXs.rd (by omega) hXs.le 1 hp1.out _ (by simp)).mono ?_); rintro e w1 ⟨rfl, hb⟩; replace BB := below_new BB (.cells #[.bool true] 4); replace O4 := O4.alloc (.cells #[.bool true] 4); replace O5 := O5.alloc (.cells #[.bool true] 4); replace O2 := O2.alloc (.cells #[.bool true] 4); replace N4 := N4.alloc (.cells #[.bool true] 4); replace hX4 := nw_alloc hX4 (.cells #[.bool true] 4); replace hX5 := nw_alloc hX5 (.cells #[.bool true] 4); replace BB := below_step BB hb; replace O4 := O4.step hb; replace O5 := O5.step hb; replace O2 := O2.step hb; replace N4 := N4.step hb; replace hX4 := hX4.step hb; replace hX5 := hX5.step hb; (try clear zO40 zO41 yO40 yO41 zO50 zO51 yO50 yO51 zO20 zO21 yO20 yO21); have zO40 := O4.cell 0; have zO41 := O4.cell 1; have yO40 := O4.free 0; have yO41 := O4.free 1; have zO50 := O5.cell 0; have zO51 := O5.cell 1; have yO50 := O5.free 0; have yO51 := O5.free 1; have zO20 := O2.cell 0; have zO21 := O2.cell 1; have yO20 := O2.free 0; have yO21 := O2.free 1) | (go_at_call 53; refine (HF.out _ _ (by decide)).mono ?_; rintro e w9 ⟨A9, c9, rfl, n9, hb9⟩; have L1 := O2.lt; have W2 := O2.step hb9; have qW20 := W2.cell 0; have qW21 := W2.cell 1; have fW20 := W2.free 0; have fW21 := W2.free 1))
                      exact ret_vec Tryz.results101 rfl rfl (W2.put2 _ _) (e9.out ▸ mk_ret (v := allV 0 N true) ((n9.far2 L1 _ _).mono BB.size) (below_set2 (below_step BB hb9) (by omega) _ _))
end Go.Proofs.YtognpmggfplekaaGreatDoor
