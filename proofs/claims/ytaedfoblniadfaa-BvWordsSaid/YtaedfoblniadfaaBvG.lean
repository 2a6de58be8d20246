/-
  Contracts of the program's division. Widths up to some thousands.
-/
import Derived.Test.YtaedfoblniadfaaBvF
import Derived.Test.YtaedfoblniadfaaBvN
namespace Go.Proofs.Ytaedfoblniadfaa
open Go Go.RowKit
attribute [local go_sem ↓] Go.wp_at_zero Go.wp_at_succ

theorem own_grown {w u : World} {g h : Nat} {t : TypeId} {cs : Array Value} (hb : w.grownBy u (some g)) (o : Own w h t cs) (hne : h ≠ g) : Own u h t cs := Own.grown o hb (by simpa using hne)
/-- copy(r[1:], r) in a block of the call's own. -/
theorem run_up {w : World} (ty : TypeId) (g n R : Nat) (dp : Option Addr) (dLen dCap : Nat) (hn : 0 < n) (hdl : dLen = n - 1) (hdp : 1 < n → dp = some ⟨g, 1, none⟩) (hg : Own w g 4 (ba n R)) (hR : R < 2 ^ n) :
    ∃ w', (Builtin.copy_ #[22, 22] ty #[.slice dp dLen dCap, .slice (some ⟨g, 0, none⟩) n n]).run Try.prog w = .ok (goInt (n - 1 : Nat)) w' ∧ Own w' g 4 (ba n (shup n R)) ∧ w.grownBy w' (some g) := by
  subst hdl
  have hsz : (Try.prog.info? 4).map (·.size) = some 1 := by kernel_rfl
  rcases Nat.lt_or_ge 1 n with h1 | h1
  · obtain rfl := hdp h1
    have hl : ((bl n R).take (n - 1)).length = n - 1 := by rw [List.length_take, bl_length]; omega
    have hrun := run_copy_row (P := Try.prog) w 22 22 ty 4 g 1 (n - 1) dCap ⟨g, 0, none⟩ n n (ba n R) _ ((bl n R).take (n - 1)) Try.underlying22 hsz hg (by rw [hl]; exact (Nat.min_eq_right (by omega)).symm)
      (fun j v hv => by
        have hj : j < n - 1 := by have := (List.getElem?_eq_some_iff.1 hv).1; rwa [hl] at this
        rw [List.getElem?_take, if_pos hj, bl_get _ _ _ (by omega)] at hv
        have e : (⟨g, 0, none⟩ : Addr).add j = ⟨g, j, none⟩ := by unfold Addr.add; split <;> simp_all
        rw [e, hg.cell j, ba_get _ _ _ (by omega)]
        exact hv) (by rw [hl, ba_size]; omega) (fun v hv => bl_one n R v (List.mem_of_mem_take hv))
    rw [hl] at hrun
    refine ⟨_, hrun, ?_, ⟨rfl, rfl, rfl, by simp [World.setRow], fun k hk hne => setRow_other w g k _ (by simpa using hne)⟩⟩
    have e : ((ba n R).toList.take 1 ++ (bl n R).take (n - 1) ++ (ba n R).toList.drop (1 + (n - 1))).toArray = ba n (shup n R) := by
      unfold ba
      congr 1
      apply List.ext_getElem?
      intro i
      simp only [List.drop_eq_nil_of_le (show (bl n R).toArray.toList.length ≤ 1 + (n - 1) by simp [bl_length]; omega), List.append_nil]
      rcases i with _ | i
      · rw [List.getElem?_append_left (by simp [bl_length]; omega), List.getElem?_take, if_pos (by decide), bl_get _ _ _ hn, bl_get _ _ _ hn, shup, Nat.testBit_mod_two_pow, dbl_bit0]
        simp [hn]
      · rw [List.getElem?_append_right (by simp [bl_length]; omega)]
        have e1 : ((bl n R).toArray.toList.take 1).length = 1 := by simp [bl_length]; omega
        rw [e1, Nat.add_sub_cancel, List.getElem?_take]
        by_cases hi : i < n - 1
        · rw [if_pos hi, bl_get _ _ _ (by omega), bl_get _ _ _ (by omega), shup, Nat.testBit_mod_two_pow, dbl_bit]
          have : i + 1 < n := by omega
          simp [this]
        · rw [if_neg hi, List.getElem?_eq_none (by rw [bl_length]; omega)]
    rw [← e]
    exact setRow_heap w g _ _ _ _ hg
  · obtain rfl : n = 1 := by omega
    have hrun := run_copy_none (P := Try.prog) w 22 22 ty 4 dp (some ⟨g, 0, none⟩) 0 dCap 1 1 Try.underlying22 hsz rfl
    refine ⟨w, hrun, ?_, World.grownBy.refl w _⟩
    have e : shup 1 R = R := by
      have : R = 0 ∨ R = 1 := by omega
      rcases this with rfl | rfl <;> rfl
    rw [e]
    exact hg
theorem upon_up {w : World} {o : Oper} {a : Act} {K : Act → World → Prop} {Q : Exit → Act → World → Prop} (ty : TypeId) (g n R : Nat) (dp : Option Addr) (dLen dCap : Nat) (hn : 0 < n) (hdl : dLen = n - 1) (hdp : 1 < n → dp = some ⟨g, 1, none⟩) (hg : Own w g 4 (ba n R)) (hR : R < 2 ^ n)
    (h : ∀ w', Own w' g 4 (ba n (shup n R)) → w.grownBy w' (some g) → K (a.put o.dst (goInt (n - 1 : Nat))) w') :
    Oper.upon Try.prog o a K Q (((Builtin.copy_ #[22, 22] ty #[.slice dp dLen dCap, .slice (some ⟨g, 0, none⟩) n n]).run Try.prog w).andThen fun v w' => .ok (.value v) w') := by
  obtain ⟨w', hrun, h1, h2⟩ := run_up ty g n R dp dLen dCap hn hdl hdp hg hR
  rw [hrun]
  exact h w' h1 h2
theorem slice_one (g n : Nat) (hn : 0 < n) : ∃ dp : Option Addr, (∀ W : World, (Instr.slice 22 (.slice (some ⟨g, 0, none⟩) n n) (some (.int .i64 1)) none none).run Try.prog W = .ok (.slice dp (n - 1) (n - 1)) W) ∧
    (∀ W : World, (Instr.sliceAt 22 (.slice (some ⟨g, 0, none⟩) n n) (some (.int .i64 1)) none none).run Try.prog W = .ok (.slice dp (n - 1) (n - 1)) W) ∧ (1 < n → dp = some ⟨g, 1, none⟩) := by
  have hz : ∀ W : World, (sizeOf 4).run Try.prog W = .ok 1 W := fun W => by kernel_rfl
  have key : ∀ W : World, (Instr.slice 22 (.slice (some ⟨g, 0, none⟩) n n) (some (.int .i64 1)) none none).run Try.prog W = .ok (sliced (some ⟨g, 0, none⟩) 1 n n 1) W := fun W => by
    have h := run_slice_l (P := Try.prog) (w := W) 22 (some ⟨g, 0, none⟩) n n (by kernel_rfl) .i64 1 (by decide) (by omega)
    rw [h, show (Try.prog).elem 22 = 4 by kernel_rfl, hz W]
    rfl
  refine ⟨if n = 1 then some ⟨g, 0, none⟩ else some ⟨g, 1, none⟩, fun W => ?_, fun W => ?_, fun h => if_neg (by omega)⟩
  · rw [key W]; unfold sliced; split <;> rfl
  · rw [run_sliceAt_slice (P := Try.prog) (w := W) _ _ _ _ _ (by kernel_rfl), key W]; unfold sliced; split <;> rfl
def RetD (w : World) (n q r : Nat) (e : Ending) (w' : World) : Prop := ∃ A c A' c', e = .returned (.tuple #[.slice A n c, .slice A' n c', .int .i64 0]) ∧ Nw w' w.heap.size A n c q ∧ Nw w' w.heap.size A' n c' r ∧ Below w.heap.size w w'
def DivR (n x y gq : Nat) (w : World) (v i : Value) (u : World) : Prop :=
  ∃ k gr, k ≤ n ∧ i = .int .i64 k ∧ v = .slice (some ⟨gr, 0, none⟩) n n ∧ w.heap.size ≤ gr ∧ gr ≠ gq ∧ Own u gr 4 (ba n (DR n x y k)) ∧ Own u gq 4 (ba n (DQ n x y k)) ∧ Below w.heap.size w u
set_option maxHeartbeats 2000000 in
theorem divmod_any (A B : Option Addr) (n c x m d y : Nat) (w : World) (h : Rd w A n x) (h' : Rd w B m y) (hn : n ≤ 10000) (hm : m ≤ 10000) (hy : y ≠ 0) :
    Calls Try.prog 32 #[.slice A n c, .slice B m d] w (RetD w n (x / y) (x % y)) := by
  have hmk := fun W => run_makeB n (by omega) W
  have hz := zero_any B m d y w h' hm
  rw [show decide (y = 0) = false by simp [hy]] at hz
  go_enter Try.func32, Try.ntmps32
  go_wp2_with (go_at_call 63; refine hz.mono ?_; rintro e w1 ⟨rfl, rfl⟩)
  go_region
  all_goals
    go_wp2
    have o0 : Own ((w.alloc (.cells (ba n 0) 4)).alloc (.cells (ba n 0) 4)).drew w.heap.size 4 (ba n 0) := ((Own.new w _ _).alloc _).drew
    have o1 : Own ((w.alloc (.cells (ba n 0) 4)).alloc (.cells (ba n 0) 4)).drew (w.heap.size + 1) 4 (ba n 0) := by simpa using (Own.new (w.alloc (.cells (ba n 0) 4)) 4 (ba n 0)).drew
    have b0 : Below w.heap.size w ((w.alloc (.cells (ba n 0) 4)).alloc (.cells (ba n 0) 4)).drew := below_drew (below_new (below_new (Below.refl _ _) _) _)
    clear hz
  · go_loopw [5, 19] (fun v i u => DivR n x y w.heap.size w v i u) (fun _ i _ => n - (intOf i).toNat)
    case atStart => exact ⟨0, (w.heap.size + 1), Nat.zero_le _, rfl, rfl, by omega, by omega, by rw [DR.zero h.1]; exact o1, by rw [DQ.zero h.1]; exact o0, b0⟩
    case round =>
      obtain ⟨k, gr, hk, rfl, rfl, hgr, hne, oR, oQ, hb⟩ := hrel
      by_cases g1 : k < n
      · obtain ⟨ab, ao, rfl, hlt0, hc0⟩ := h.at_ (show n - 1 - k < n by omega)
        have hcell := (hb.cell (p := ⟨ab, ao + (n - 1 - k), none⟩) hlt0).trans hc0
        have hRs := DR.small (y := y) h.1 hk
        have hR2 : 2 * DR n x y k + 1 < 2 ^ n := by
          have := Nat.pow_le_pow_right (show 0 < 2 by decide) (show k + 1 ≤ n by omega)
          have := pow_s k
          omega
        obtain ⟨hd1, hd2⟩ := D_next (x := x) (Nat.pos_of_ne_zero hy) g1
        have hqb := DQ_bit (x := x) (y := y) g1
        have hQl := DQ.lt (y := y) (k := k) h.1
        obtain ⟨bx, hbx⟩ : ∃ b, b = x.testBit (n - 1 - k) := ⟨_, rfl⟩
        rw [← hbx] at hcell hd1 hd2
        obtain ⟨R, hR⟩ : ∃ R, R = DR n x y k := ⟨_, rfl⟩
        obtain ⟨Z, hZ⟩ : ∃ Z, Z = DQ n x y k := ⟨_, rfl⟩
        rw [← hR] at oR hRs hR2 hd1 hd2
        rw [← hZ] at oQ hqb hQl hd2
        have hbl := toNat_le bx
        have hRlt : R < 2 ^ n := by omega
        have hup : ∀ w1, Own w1 gr 4 (ba n (shup n R)) → wr.grownBy w1 (some gr) → w1.cell? ⟨ab, ao + (n - 1 - k), none⟩ = some (.bool bx) ∧ (∃ v, w1.cell? ⟨gr, 0, none⟩ = some v) ∧ w1.frozen? ⟨gr, 0, none⟩ = false ∧ Own (w1.setCell ⟨gr, 0, none⟩ (.bool bx)) gr 4 (ba n (2 * R + bx.toNat)) ∧ Own (w1.setCell ⟨gr, 0, none⟩ (.bool bx)) w.heap.size 4 (ba n Z) ∧ Below w.heap.size w (w1.setCell ⟨gr, 0, none⟩ (.bool bx)) := by
          intro w1 o hg
          have o2 := o.put 0 (.bool bx)
          rw [ba_set bx (by omega), setb_shup bx hR2] at o2
          have hbw : Below w.heap.size w w1 := hb.grown hg hb.size (fun k hk => by injection hk with hk; omega)
          exact ⟨(World.cell?_of_block (hg.block ab (Nat.lt_of_lt_of_le hlt0 hb.size) (by simp; omega))).trans hcell, ⟨_, (o.cell 0).trans (ba_get _ _ _ (by omega))⟩, o.free 0, o2, (own_grown hg oQ (Ne.symm hne)).far (Ne.symm hne) _, below_set hbw hgr _⟩
        have hup := Lib.hid hup
        have hlt2 : 2 * R + bx.toNat < 2 ^ n := by omega
        have d1 : decide ((k : Int) < n) = true := by simpa using g1
        have l1 : (k : Int) < n := by omega
        have l2 : (1 : Int) ≤ n := by omega
        have l3 : 1 ≤ n := by omega
        have l4 : 0 < n := by omega
        have l5 : ((n : Int) - 1 - k).toNat = n - 1 - k := by omega
        have H := Lib.hid (And.intro hd1 (And.intro hd2 (And.intro hqb (And.intro hR hZ))))
        have hy2 := Lib.hid hy
        clear hd1 hd2 hqb hR hZ hcell hbx hc0 o0 o1 b0 hy
        by_cases hge : y ≤ 2 * R + bx.toNat
        · have hcm : ∀ W, Rd W (some ⟨gr, 0, none⟩) n (2 * R + bx.toNat) → Rd W B m y → ∃ z : Int, 0 ≤ z ∧ Calls Try.prog 26 #[.slice (some ⟨gr, 0, none⟩) n n, .slice B m d] W (fun e w' => e = .returned (.int .i64 z) ∧ W = w') :=
            fun W r1 r2 => ⟨_, by unfold cmpI; rw [if_neg (by omega)]; split <;> decide, cmp_any _ _ _ n _ _ d _ W r1 r2 hn hm⟩
          have hcm := Lib.hid hcm
          obtain ⟨dp, hsl, hsl2, hdp⟩ := slice_one gr n l4
          have hdp := Lib.hid hdp
          go_wp2_with fail
          refine upon_up _ gr n R _ _ _ l4 rfl hdp.out oR hRlt ?_
          intro w1 oR1 hg1
          obtain ⟨ca, ⟨vv, cr⟩, fr, oR2, oQ2, hB2⟩ := hup.out w1 oR1 hg1
          have lr := oR1.lt
          go_wp2_with (first | (go_at_call 26; obtain ⟨z, hz0, hcc⟩ := hcm.out _ (Rd.of_own oR2 hlt2) (h'.step hB2); refine hcc.mono ?_; rintro e w2 ⟨rfl, rfl⟩) | (go_at_call 17; refine (sub_anyO _ _ _ _ _ _ _ _ _ (Rd.of_own oR2 hlt2) (h'.step hB2) hn hm).mono ?_; rintro e w3 ⟨g3, rfl, oR3, hg3, hx3, hb3⟩; have oQ3 := oQ2.step hb3; have cQ := (oQ3.cell (n - 1 - k)).trans (ba_get _ _ _ (by omega)); have fQ := oQ3.free (n - 1 - k); have lQ := oQ3.lt; have lQ2 := oQ2.lt))
          obtain ⟨hd1, hd2, hqb, hR, hZ⟩ := H.out
          rw [if_pos hge] at hd1 hd2
          have hyl : y < 2 ^ n := by omega
          have eR : subv n (2 * R + bx.toNat) y = DR n x y (k + 1) := by
            rw [hd1]; unfold subv
            rw [Nat.mod_eq_of_lt hyl, show 2 * R + bx.toNat + (2 ^ n - y) = (2 * R + bx.toNat - y) + 2 ^ n by omega, Nat.add_mod_right, Nat.mod_eq_of_lt (by omega)]
          have oQ4 := oQ3.put (n - 1 - k) (.bool true)
          have eQ : setb Z (n - 1 - k) true = DQ n x y (k + 1) := by
            rw [hd2]; unfold setb; rw [hqb]; simp
          rw [ba_set true (by omega), eQ] at oQ4
          rw [eR] at oR3
          go_roundw
          case rel => exact ⟨k + 1, g3, by omega, by go_num, rfl, by omega, by omega, oR3.far (by simp; omega) _, oQ4, below_set (below_step hB2 hb3) (by simp) _⟩
          case measure => simp [intOf]; omega
        · have hcm : ∀ W, Rd W (some ⟨gr, 0, none⟩) n (2 * R + bx.toNat) → Rd W B m y → ∃ z : Int, z < 0 ∧ Calls Try.prog 26 #[.slice (some ⟨gr, 0, none⟩) n n, .slice B m d] W (fun e w' => e = .returned (.int .i64 z) ∧ W = w') :=
            fun W r1 r2 => ⟨_, by unfold cmpI; rw [if_pos (by omega)]; decide, cmp_any _ _ _ n _ _ d _ W r1 r2 hn hm⟩
          have hcm := Lib.hid hcm
          obtain ⟨dp, hsl, hsl2, hdp⟩ := slice_one gr n l4
          have hdp := Lib.hid hdp
          go_wp2_with fail
          refine upon_up _ gr n R _ _ _ l4 rfl hdp.out oR hRlt ?_
          intro w1 oR1 hg1
          obtain ⟨ca, ⟨vv, cr⟩, fr, oR2, oQ2, hB2⟩ := hup.out w1 oR1 hg1
          have lr := oR1.lt
          go_wp2_with (go_at_call 26; obtain ⟨z, hz0, hcc⟩ := hcm.out _ (Rd.of_own oR2 hlt2) (h'.step hB2); refine hcc.mono ?_; rintro e w2 ⟨rfl, rfl⟩)
          obtain ⟨hd1, hd2, hqb, hR, hZ⟩ := H.out
          rw [if_neg hge] at hd1 hd2
          rw [Nat.sub_zero] at hd1
          simp only [Nat.mul_zero, Nat.add_zero] at hd2
          rw [← hd1] at oR2
          rw [← hd2] at oQ2
          go_roundw
          case rel => exact ⟨k + 1, gr, by omega, by go_num, rfl, hgr, hne, oR2, oQ2, hB2⟩
          case measure => simp [intOf]; omega
      · obtain rfl : k = n := by omega
        rw [DR.last] at oR
        rw [DQ.last] at oQ
        have hx := h.1
        clear hmk
        go_wp2
        go_ret3
        exact ⟨_, _, _, _, rfl, Nw.of_own oQ (Nat.lt_of_le_of_lt (Nat.div_le_self _ _) hx) (by omega) (by unfold maxLen; omega), Nw.of_own oR (Nat.lt_of_le_of_lt (Nat.mod_le _ _) hx) hgr (by unfold maxLen; omega), hb⟩
  · go_loopw [5, 19] (fun v i u => DivR n x y (w.heap.size + 1) w v i u) (fun _ i _ => n - (intOf i).toNat)
    case atStart => exact ⟨0, w.heap.size, Nat.zero_le _, rfl, rfl, by omega, by omega, by rw [DR.zero h.1]; exact o0, by rw [DQ.zero h.1]; exact o1, b0⟩
    case round =>
      obtain ⟨k, gr, hk, rfl, rfl, hgr, hne, oR, oQ, hb⟩ := hrel
      by_cases g1 : k < n
      · obtain ⟨ab, ao, rfl, hlt0, hc0⟩ := h.at_ (show n - 1 - k < n by omega)
        have hcell := (hb.cell (p := ⟨ab, ao + (n - 1 - k), none⟩) hlt0).trans hc0
        have hRs := DR.small (y := y) h.1 hk
        have hR2 : 2 * DR n x y k + 1 < 2 ^ n := by
          have := Nat.pow_le_pow_right (show 0 < 2 by decide) (show k + 1 ≤ n by omega)
          have := pow_s k
          omega
        obtain ⟨hd1, hd2⟩ := D_next (x := x) (Nat.pos_of_ne_zero hy) g1
        have hqb := DQ_bit (x := x) (y := y) g1
        have hQl := DQ.lt (y := y) (k := k) h.1
        obtain ⟨bx, hbx⟩ : ∃ b, b = x.testBit (n - 1 - k) := ⟨_, rfl⟩
        rw [← hbx] at hcell hd1 hd2
        obtain ⟨R, hR⟩ : ∃ R, R = DR n x y k := ⟨_, rfl⟩
        obtain ⟨Z, hZ⟩ : ∃ Z, Z = DQ n x y k := ⟨_, rfl⟩
        rw [← hR] at oR hRs hR2 hd1 hd2
        rw [← hZ] at oQ hqb hQl hd2
        have hbl := toNat_le bx
        have hRlt : R < 2 ^ n := by omega
        have hup : ∀ w1, Own w1 gr 4 (ba n (shup n R)) → wr.grownBy w1 (some gr) → w1.cell? ⟨ab, ao + (n - 1 - k), none⟩ = some (.bool bx) ∧ (∃ v, w1.cell? ⟨gr, 0, none⟩ = some v) ∧ w1.frozen? ⟨gr, 0, none⟩ = false ∧ Own (w1.setCell ⟨gr, 0, none⟩ (.bool bx)) gr 4 (ba n (2 * R + bx.toNat)) ∧ Own (w1.setCell ⟨gr, 0, none⟩ (.bool bx)) (w.heap.size + 1) 4 (ba n Z) ∧ Below w.heap.size w (w1.setCell ⟨gr, 0, none⟩ (.bool bx)) := by
          intro w1 o hg
          have o2 := o.put 0 (.bool bx)
          rw [ba_set bx (by omega), setb_shup bx hR2] at o2
          have hbw : Below w.heap.size w w1 := hb.grown hg hb.size (fun k hk => by injection hk with hk; omega)
          exact ⟨(World.cell?_of_block (hg.block ab (Nat.lt_of_lt_of_le hlt0 hb.size) (by simp; omega))).trans hcell, ⟨_, (o.cell 0).trans (ba_get _ _ _ (by omega))⟩, o.free 0, o2, (own_grown hg oQ (Ne.symm hne)).far (Ne.symm hne) _, below_set hbw hgr _⟩
        have hup := Lib.hid hup
        have hlt2 : 2 * R + bx.toNat < 2 ^ n := by omega
        have d1 : decide ((k : Int) < n) = true := by simpa using g1
        have l1 : (k : Int) < n := by omega
        have l2 : (1 : Int) ≤ n := by omega
        have l3 : 1 ≤ n := by omega
        have l4 : 0 < n := by omega
        have l5 : ((n : Int) - 1 - k).toNat = n - 1 - k := by omega
        have H := Lib.hid (And.intro hd1 (And.intro hd2 (And.intro hqb (And.intro hR hZ))))
        have hy2 := Lib.hid hy
        clear hd1 hd2 hqb hR hZ hcell hbx hc0 o0 o1 b0 hy
        by_cases hge : y ≤ 2 * R + bx.toNat
        · have hcm : ∀ W, Rd W (some ⟨gr, 0, none⟩) n (2 * R + bx.toNat) → Rd W B m y → ∃ z : Int, 0 ≤ z ∧ Calls Try.prog 26 #[.slice (some ⟨gr, 0, none⟩) n n, .slice B m d] W (fun e w' => e = .returned (.int .i64 z) ∧ W = w') :=
            fun W r1 r2 => ⟨_, by unfold cmpI; rw [if_neg (by omega)]; split <;> decide, cmp_any _ _ _ n _ _ d _ W r1 r2 hn hm⟩
          have hcm := Lib.hid hcm
          obtain ⟨dp, hsl, hsl2, hdp⟩ := slice_one gr n l4
          have hdp := Lib.hid hdp
          go_wp2_with fail
          refine upon_up _ gr n R _ _ _ l4 rfl hdp.out oR hRlt ?_
          intro w1 oR1 hg1
          obtain ⟨ca, ⟨vv, cr⟩, fr, oR2, oQ2, hB2⟩ := hup.out w1 oR1 hg1
          have lr := oR1.lt
          go_wp2_with (first | (go_at_call 26; obtain ⟨z, hz0, hcc⟩ := hcm.out _ (Rd.of_own oR2 hlt2) (h'.step hB2); refine hcc.mono ?_; rintro e w2 ⟨rfl, rfl⟩) | (go_at_call 17; refine (sub_anyO _ _ _ _ _ _ _ _ _ (Rd.of_own oR2 hlt2) (h'.step hB2) hn hm).mono ?_; rintro e w3 ⟨g3, rfl, oR3, hg3, hx3, hb3⟩; have oQ3 := oQ2.step hb3; have cQ := (oQ3.cell (n - 1 - k)).trans (ba_get _ _ _ (by omega)); have fQ := oQ3.free (n - 1 - k); have lQ := oQ3.lt; have lQ2 := oQ2.lt))
          obtain ⟨hd1, hd2, hqb, hR, hZ⟩ := H.out
          rw [if_pos hge] at hd1 hd2
          have hyl : y < 2 ^ n := by omega
          have eR : subv n (2 * R + bx.toNat) y = DR n x y (k + 1) := by
            rw [hd1]; unfold subv
            rw [Nat.mod_eq_of_lt hyl, show 2 * R + bx.toNat + (2 ^ n - y) = (2 * R + bx.toNat - y) + 2 ^ n by omega, Nat.add_mod_right, Nat.mod_eq_of_lt (by omega)]
          have oQ4 := oQ3.put (n - 1 - k) (.bool true)
          have eQ : setb Z (n - 1 - k) true = DQ n x y (k + 1) := by
            rw [hd2]; unfold setb; rw [hqb]; simp
          rw [ba_set true (by omega), eQ] at oQ4
          rw [eR] at oR3
          go_roundw
          case rel => exact ⟨k + 1, g3, by omega, by go_num, rfl, by omega, by omega, oR3.far (by simp; omega) _, oQ4, below_set (below_step hB2 hb3) (by simp) _⟩
          case measure => simp [intOf]; omega
        · have hcm : ∀ W, Rd W (some ⟨gr, 0, none⟩) n (2 * R + bx.toNat) → Rd W B m y → ∃ z : Int, z < 0 ∧ Calls Try.prog 26 #[.slice (some ⟨gr, 0, none⟩) n n, .slice B m d] W (fun e w' => e = .returned (.int .i64 z) ∧ W = w') :=
            fun W r1 r2 => ⟨_, by unfold cmpI; rw [if_pos (by omega)]; decide, cmp_any _ _ _ n _ _ d _ W r1 r2 hn hm⟩
          have hcm := Lib.hid hcm
          obtain ⟨dp, hsl, hsl2, hdp⟩ := slice_one gr n l4
          have hdp := Lib.hid hdp
          go_wp2_with fail
          refine upon_up _ gr n R _ _ _ l4 rfl hdp.out oR hRlt ?_
          intro w1 oR1 hg1
          obtain ⟨ca, ⟨vv, cr⟩, fr, oR2, oQ2, hB2⟩ := hup.out w1 oR1 hg1
          have lr := oR1.lt
          go_wp2_with (go_at_call 26; obtain ⟨z, hz0, hcc⟩ := hcm.out _ (Rd.of_own oR2 hlt2) (h'.step hB2); refine hcc.mono ?_; rintro e w2 ⟨rfl, rfl⟩)
          obtain ⟨hd1, hd2, hqb, hR, hZ⟩ := H.out
          rw [if_neg hge] at hd1 hd2
          rw [Nat.sub_zero] at hd1
          simp only [Nat.mul_zero, Nat.add_zero] at hd2
          rw [← hd1] at oR2
          rw [← hd2] at oQ2
          go_roundw
          case rel => exact ⟨k + 1, gr, by omega, by go_num, rfl, hgr, hne, oR2, oQ2, hB2⟩
          case measure => simp [intOf]; omega
      · obtain rfl : k = n := by omega
        rw [DR.last] at oR
        rw [DQ.last] at oQ
        have hx := h.1
        clear hmk
        go_wp2
        go_ret3
        exact ⟨_, _, _, _, rfl, Nw.of_own oQ (Nat.lt_of_le_of_lt (Nat.div_le_self _ _) hx) (by omega) (by unfold maxLen; omega), Nw.of_own oR (Nat.lt_of_le_of_lt (Nat.mod_le _ _) hx) hgr (by unfold maxLen; omega), hb⟩

theorem divmod_zero (A B : Option Addr) (n c m d : Nat) (w : World) (h' : Rd w B m 0) (hm : m ≤ 10000) :
    Calls Try.prog 32 #[.slice A n c, .slice B m d] w fun e w' => e = .returned (.tuple #[.slice none 0 0, .slice none 0 0, .int .i64 7]) ∧ w = w' := by
  have hz := zero_any B m d 0 w h' hm
  rw [show decide ((0 : Nat) = 0) = true from rfl] at hz
  go_enter Try.func32, Try.ntmps32
  go_wp2_with (go_at_call 63; refine hz.mono ?_; rintro e w1 ⟨rfl, rfl⟩)
  go_ret3
  exact ⟨rfl, rfl⟩
theorem absv_zero {m y : Nat} (hy : y < 2 ^ m) : absv m y = 0 ↔ y = 0 := by
  unfold absv
  cases h : neg m y
  · simp
  · have : y ≠ 0 := by rintro rfl; simp [neg] at h
    simp; omega
theorem sdivmod_zero (A B : Option Addr) (n c x m d : Nat) (w : World) (h : Rd w A n x) (h' : Rd w B m 0) (hn : n ≤ 10000) (hm : m ≤ 10000) :
    Calls Try.prog 33 #[.slice A n c, .slice B m d] w fun e w' => e = .returned (.tuple #[.slice none 0 0, .slice none 0 0, .int .i64 7]) ∧ Below w.heap.size w w' := by
  have e0 : absv m 0 = 0 := (absv_zero h'.1).2 rfl
  have ca := Lib.hid (absolute_any A n c x w h hn)
  have cb : ∀ W, Rd W B m 0 → _ := fun W hW => absolute_any B m d 0 W hW hm
  rw [e0] at cb
  have cb := Lib.hid cb
  clear e0
  go_enter Try.func33, Try.ntmps33
  go_wp2_with (first | (go_at_call 64; (first | ((with_reducible refine ca.out.mono ?_); rintro e w1 ⟨A1, c1, rfl, hv1, hb1⟩) | ((with_reducible refine (cb.out _ (h'.step hb1)).mono ?_); rintro e w2 ⟨A2, c2, rfl, hv2, hb2⟩))) | (go_at_call 32; refine (divmod_zero _ _ _ _ _ _ _ hv2 hm).mono ?_; rintro e w3 ⟨rfl, rfl⟩))
  go_ret3
  exact ⟨rfl, below_step hb1 hb2⟩
def sq (n x m y : Nat) : Nat := if neg n x != neg m y then subv n 0 (absv n x / absv m y) else absv n x / absv m y
def sr (n x m y : Nat) : Nat := if neg n x then subv n 0 (absv n x % absv m y) else absv n x % absv m y
set_option maxHeartbeats 1000000 in
theorem sdivmod_any (A B : Option Addr) (n c x m d y : Nat) (w : World) (h : Rd w A n x) (h' : Rd w B m y) (hn : n ≤ 10000) (hm : m ≤ 10000) (hy : y ≠ 0) :
    Calls Try.prog 33 #[.slice A n c, .slice B m d] w (RetD w n (sq n x m y) (sr n x m y)) := by
  have e0 : absv m y ≠ 0 := fun e => hy ((absv_zero h'.1).1 e)
  have ca := Lib.hid (absolute_any A n c x w h hn)
  have cb : ∀ W, Rd W B m y → _ := fun W hW => absolute_any B m d y W hW hm
  have na : ∀ W, Rd W A n x → _ := fun W hW => negative_any A n c x W hW (by omega)
  have nb : ∀ W, Rd W B m y → _ := fun W hW => negative_any B m d y W hW (by omega)
  have cb := Lib.hid cb
  unfold sq sr
  generalize absv n x = X at *
  generalize absv m y = Y at *
  rcases e1 : neg n x with _ | _ <;> rcases e2 : neg m y with _ | _ <;> rw [e1] at na <;> rw [e2] at nb
  all_goals
    have na := Lib.hid na
    have nb := Lib.hid nb
    have e0 := Lib.hid e0
    clear e1 e2 hy
    go_enter Try.func33, Try.ntmps33
    go_wp2_with (first | (go_at_call 64; (first | ((with_reducible refine ca.out.mono ?_); rintro e w1 ⟨A1, c1, rfl, hv1, hb1⟩) | ((with_reducible refine (cb.out _ (h'.step hb1)).mono ?_); rintro e w2 ⟨A2, c2, rfl, hv2, hb2⟩))) | (go_at_call 32; refine (divmod_any _ _ _ _ _ _ _ _ _ (hv1.step hb2) hv2 hn hm e0.out).mono ?_; rintro e w3 ⟨A3, c3, A4, c4, rfl, hv3, hv4, hb3⟩; have ra := h.step (below_step (below_step hb1 hb2) hb3); have rb := h'.step (below_step (below_step hb1 hb2) hb3); have hb := below_step (below_step hb1 hb2) hb3; have hs := Nat.le_trans hb1.size hb2.size) | (go_at_call 61; (first | (with_reducible refine (na.out _ ra).mono ?_) | (with_reducible refine (nb.out _ rb).mono ?_)); rintro e w4 ⟨rfl, rfl⟩) | (go_at_call 18; (with_reducible refine (neg_any _ _ _ _ _ hv3.rd hn).mono ?_); rintro e w5 ⟨A5, c5, rfl, hv5, hb5⟩; have ra := ra.step hb5) | (go_at_call 18; (first | (with_reducible refine (neg_any _ _ _ _ _ hv4.rd hn).mono ?_) | (with_reducible refine (neg_any _ _ _ _ _ (hv4.step hb5).rd hn).mono ?_)); rintro e w6 ⟨A6, c6, rfl, hv6, hb6⟩))
    go_ret3
  · exact ⟨_, _, _, _, rfl, hv3.mono hs, hv4.mono hs, hb⟩
  · exact ⟨_, _, _, _, rfl, hv5.mono hb.size, (hv4.step hb5).mono hs, below_step hb hb5⟩
  · exact ⟨_, _, _, _, rfl, (hv5.mono hb.size).step hb6, hv6.mono (Nat.le_trans hb.size hb5.size), below_step (below_step hb hb5) hb6⟩
  · exact ⟨_, _, _, _, rfl, (hv3.mono hs).step hb6, hv6.mono hb.size, below_step hb hb6⟩
end Go.Proofs.Ytaedfoblniadfaa
