/-
  The reference's combination of intervals over the seat's translation: Levels, two, Combine. Conditions: intervals normalized where a contract says so.
-/
import Derived.Test.YtjfhhlbgiepkpaaDoorStrB
namespace Go.Proofs.YtjfhhlbgiepkpaaDoor
open Go Go.RowKit
attribute [local go_sem ↓] eql_p eql_r neq_p neq_r

def lvLo (m k : Int) : Int := if m = -k ∧ m ≠ 0 then min m k else if max k (-k) ≤ max m (-m) then m else k
def lvHi (m k : Int) : Int := if m = -k ∧ m ≠ 0 then max m k else if max k (-k) ≤ max m (-m) then m else k
theorem lvl_iff (n m k : Int) : lvl n m k ↔ lvLo m k ≤ n ∧ n ≤ lvHi m k := by
  unfold lvl lvLo lvHi
  by_cases h1 : m = -k ∧ m ≠ 0
  · rw [if_pos h1, if_pos h1]; omega
  · rw [if_neg h1, if_neg h1]
    by_cases h2 : max k (-k) ≤ max m (-m)
    · rw [if_pos h2]; omega
    · rw [if_neg h2]; omega
/-- A slice of levels from lo on. -/
def SlPost (w : World) (lo hi : Int) (e : Ending) (w' : World) : Prop := ∃ g cap n : Nat, e = .returned (.slice (some ⟨g, 0, none⟩) n cap) ∧ (n : Int) = hi - lo + 1 ∧ w.heap.size ≤ g ∧ g < w'.heap.size ∧
  (∀ i : Nat, i < n → w'.cell? ⟨g, i, none⟩ = some (.int .i8 (lo + i))) ∧ Below w.heap.size w w'
theorem info_i8 : (Tryd.prog.info? 26).map (fun i => (i.zero, i.size, i.bytes)) = some (some (.int .i8 0), 1, 1) := by kernel_rfl
theorem range_snoc (lo : Int) (j : Nat) : (List.range j).map (fun i : Nat => Value.int .i8 (lo + i)) ++ [.int .i8 (lo + j)] = (List.range (j + 1)).map (fun i : Nat => Value.int .i8 (lo + i)) := by
  rw [List.range_succ, List.map_append]; rfl

set_option maxRecDepth 100000 in
set_option maxHeartbeats 2000000 in
theorem levels_anti (m : Int) (w : World) (hm : m ≠ 0) (h0 : -7 ≤ m) (h1 : m ≤ 7) : Calls Tryd.prog 32 #[.int .i8 m, .int .i8 (-m)] w (SlPost w (min m (-m)) (max m (-m))) := by
  obtain ⟨M, hM⟩ : ∃ M, M = max m (-m) := ⟨_, rfl⟩
  have hlo : min m (-m) = -M := by omega
  rw [hlo, ← hM]
  have hMb : 1 ≤ M ∧ M ≤ 7 := by omega
  obtain ⟨hM1, hM2⟩ := hMb
  replace hM := Lib.hid hM
  replace hlo := Lib.hid hlo
  obtain ⟨i0, hi, hz0, hz1, hz2⟩ := info_parts info_i8
  replace hi := Lib.hid hi
  replace hz0 := Lib.hid hz0
  replace hz1 := Lib.hid hz1
  replace hz2 := Lib.hid hz2
  have hsg : m < 0 ∨ 0 < m := by omega
  rcases hsg with hs | hs
  · have hM' : m = -M := by have := hM.out; omega
    subst hM'
    clear hM hlo hs hm h0 h1
    rw [Int.neg_neg]
    have d1 : (-M != 0) = true := by simp; omega
    go_enter Tryd.func32, Tryd.ntmps32
    go_wp2
    go_loopw [5, 6] (fun v x wr => ∃ j : Nat, x = .int .i8 (-M + j) ∧ -M + j ≤ M + 1 ∧ wr.ownsRow w.heap.size 26 1 v j ((List.range j).map fun i : Nat => Value.int .i8 (-M + i)) ∧ Below w.heap.size w wr) (fun _ x _ => (M + 1 - intOf x).toNat)
    case atStart => exact ⟨0, by simp, by omega, ⟨rfl, .inl ⟨rfl, rfl⟩⟩, Below.refl _ _⟩
    case round =>
      obtain ⟨j, rfl, hj, hown, hB⟩ := hrel
      have hown := Lib.hid hown
      have hB := Lib.hid hB
      by_cases hlt : -M + j ≤ M
      · go_wp2_with (at_builtin; refine wpList_append_own _ rfl _ _ 52 rfl w.heap.size 26 i0 (.int .i8 0) 1 1 Tryd.underlying52 hi.out hz0.out hz1.out hz2.out rfl (by decide) _ _ _ rfl (hown.out.alloc _) ⟨wr.heap.size, 0, none⟩ 1 1 [.int .i8 (-M + j)] rfl rfl ?c1 ?c2 ?c3 ?c4 ?c5 ?_)
        case c1 => intro j1 u hu; match j1, hu with | 0, hu => simpa [Addr.add] using hu
        case c2 => intro u hu; simp at hu; subst hu; rfl
        case c3 => unfold maxLen; omega
        case c4 => omega
        case c5 => have := hB.out.size; simp; omega
        intro v1 w1 hown1 hg1 _
        rw [range_snoc] at hown1
        have hB1 : Below w.heap.size w w1 := (hB.out.alloc hB.out.size _).grown hg1 (by have := hB.out.size; simp; omega) (fun k hk => (hown.out.lt k hk).1)
        replace hown1 := Lib.hid hown1
        replace hB1 := Lib.hid hB1
        clear hg1
        go_wp2
        go_roundw
        case rel => exact ⟨j + 1, by go_num, by omega, hown1.out, hB1.out⟩
        case measure => simp [intOf]; omega
      · go_wp2
        go_ret
        obtain ⟨g, cap, hv, hg1, hg2⟩ := hown.out.form (by omega)
        subst hv
        refine ⟨g, cap, j, rfl, by omega, hg1, hg2, fun i hi => ?_, hB.out⟩
        rw [hown.out.cellAt i (by omega), List.getElem?_map, List.getElem?_range hi]
        rfl
  · have hM' : M = m := by have := hM.out; omega
    subst hM'
    clear hM hlo hs hm h0 h1
    have d1 : (M != 0) = true := by simp; omega
    go_enter Tryd.func32, Tryd.ntmps32
    go_wp2
    go_loopw [5, 6] (fun v x wr => ∃ j : Nat, x = .int .i8 (-M + j) ∧ -M + j ≤ M + 1 ∧ wr.ownsRow w.heap.size 26 1 v j ((List.range j).map fun i : Nat => Value.int .i8 (-M + i)) ∧ Below w.heap.size w wr) (fun _ x _ => (M + 1 - intOf x).toNat)
    case atStart => exact ⟨0, by simp, by omega, ⟨rfl, .inl ⟨rfl, rfl⟩⟩, Below.refl _ _⟩
    case round =>
      obtain ⟨j, rfl, hj, hown, hB⟩ := hrel
      have hown := Lib.hid hown
      have hB := Lib.hid hB
      by_cases hlt : -M + j ≤ M
      · go_wp2_with (at_builtin; refine wpList_append_own _ rfl _ _ 52 rfl w.heap.size 26 i0 (.int .i8 0) 1 1 Tryd.underlying52 hi.out hz0.out hz1.out hz2.out rfl (by decide) _ _ _ rfl (hown.out.alloc _) ⟨wr.heap.size, 0, none⟩ 1 1 [.int .i8 (-M + j)] rfl rfl ?c1 ?c2 ?c3 ?c4 ?c5 ?_)
        case c1 => intro j1 u hu; match j1, hu with | 0, hu => simpa [Addr.add] using hu
        case c2 => intro u hu; simp at hu; subst hu; rfl
        case c3 => unfold maxLen; omega
        case c4 => omega
        case c5 => have := hB.out.size; simp; omega
        intro v1 w1 hown1 hg1 _
        rw [range_snoc] at hown1
        have hB1 : Below w.heap.size w w1 := (hB.out.alloc hB.out.size _).grown hg1 (by have := hB.out.size; simp; omega) (fun k hk => (hown.out.lt k hk).1)
        replace hown1 := Lib.hid hown1
        replace hB1 := Lib.hid hB1
        clear hg1
        go_wp2
        go_roundw
        case rel => exact ⟨j + 1, by go_num, by omega, hown1.out, hB1.out⟩
        case measure => simp [intOf]; omega
      · go_wp2
        go_ret
        obtain ⟨g, cap, hv, hg1, hg2⟩ := hown.out.form (by omega)
        subst hv
        refine ⟨g, cap, j, rfl, by omega, hg1, hg2, fun i hi => ?_, hB.out⟩
        rw [hown.out.cellAt i (by omega), List.getElem?_map, List.getElem?_range hi]
        rfl

set_option maxRecDepth 100000 in
set_option maxHeartbeats 2000000 in
theorem levels_any (m k : Int) (w : World) (h0 : -7 ≤ m) (h1 : m ≤ 7) (k0 : -7 ≤ k) (k1 : k ≤ 7) : Calls Tryd.prog 32 #[.int .i8 m, .int .i8 k] w (SlPost w (lvLo m k) (lvHi m k)) := by
  by_cases ha : m = -k ∧ m ≠ 0
  · obtain ⟨e, hm⟩ := ha
    have : k = -m := by omega
    subst this
    have e1 : lvLo m (-m) = min m (-m) := if_pos ⟨e, hm⟩
    have e2 : lvHi m (-m) = max m (-m) := if_pos ⟨e, hm⟩
    rw [e1, e2]
    exact levels_anti m w hm h0 h1
  · have fin : ∀ x : Int, SlPost w x x (.returned (.slice (some ⟨w.heap.size, 0, none⟩) 1 1)) (w.alloc (.cells #[.int .i8 x] 26)) := fun x =>
      ⟨w.heap.size, 1, 1, rfl, by omega, Nat.le_refl _, by simp, fun i hi => by
        obtain rfl : i = 0 := by omega
        rw [(Own.new w 26 #[.int .i8 x]).cell]
        simp, below_new (Below.refl _ _) _⟩
    have hg : (m == -k) = false ∨ (m = 0 ∧ k = 0) := by
      by_cases e : m = -k
      · right; omega
      · left; simpa using e
    by_cases hc : max k (-k) ≤ max m (-m)
    · have e1 : lvLo m k = m := by unfold lvLo; rw [if_neg ha, if_pos hc]
      have e2 : lvHi m k = m := by unfold lvHi; rw [if_neg ha, if_pos hc]
      rw [e1, e2]
      replace fin := Lib.hid fin
      clear e1 e2 ha
      rcases hg with hg | ⟨rfl, rfl⟩
      all_goals
        go_enter Tryd.func32, Tryd.ntmps32
        go_wp2
        all_goals
          go_ret
          exact fin.out _
    · have e1 : lvLo m k = k := by unfold lvLo; rw [if_neg ha, if_neg hc]
      have e2 : lvHi m k = k := by unfold lvHi; rw [if_neg ha, if_neg hc]
      rw [e1, e2]
      replace fin := Lib.hid fin
      clear e1 e2 ha
      rcases hg with hg | ⟨rfl, rfl⟩
      · go_enter Tryd.func32, Tryd.ntmps32
        go_wp2
        all_goals
          go_ret
          exact fin.out _
      · omega

/-- What a walk of 'two' keeps: four blocks of its own. -/
def St (w u : World) (a0 a1 b0 b1 lo hi : Int) : Prop := Own u w.heap.size 28 #[.int .i8 a0, .int .i8 a1] ∧ Own u (w.heap.size + 1) 28 #[.int .i8 b0, .int .i8 b1] ∧
  Own u (w.heap.size + 1 + 1) 28 #[.int .i8 0, .int .i8 0] ∧ Own u (w.heap.size + 1 + 1 + 1) 28 #[.int .i8 lo, .int .i8 hi] ∧ Below w.heap.size w u
theorem St.step {w u v : World} {a0 a1 b0 b1 lo hi : Int} (h : St w u a0 a1 b0 b1 lo hi) (k : Below u.heap.size u v) : St w v a0 a1 b0 b1 lo hi :=
  ⟨h.1.step k, h.2.1.step k, h.2.2.1.step k, h.2.2.2.1.step k, below_step h.2.2.2.2 k⟩
theorem St.drewN {w u : World} {a0 a1 b0 b1 lo hi : Int} (h : St w u a0 a1 b0 b1 lo hi) (n : Nat) : St w (u.drewN n) a0 a1 b0 b1 lo hi := h.step (below_drewN (Below.refl _ _) n)
theorem St.set {w u : World} {a0 a1 b0 b1 lo hi : Int} (h : St w u a0 a1 b0 b1 lo hi) (x y : Int) : St w ((u.setCell ⟨w.heap.size + 1 + 1 + 1, 0, none⟩ (.int .i8 x)).setCell ⟨w.heap.size + 1 + 1 + 1, 1, none⟩ (.int .i8 y)) a0 a1 b0 b1 x y := by
  obtain ⟨h1, h2, h3, h4, h5⟩ := h
  refine ⟨(h1.far (by show _ ≠ _ + 1 + 1 + 1; omega) _).far (by show _ ≠ _ + 1 + 1 + 1; omega) _, (h2.far (by show _ ≠ _ + 1 + 1 + 1; omega) _).far (by show _ ≠ _ + 1 + 1 + 1; omega) _, (h3.far (by simp) _).far (by simp) _, ?_, below_set (below_set h5 (by show _ ≤ _ + 1 + 1 + 1; omega) _) (by show _ ≤ _ + 1 + 1 + 1; omega) _⟩
  have := (h4.put 0 (.int .i8 x)).put 1 (.int .i8 y)
  simpa using this
theorem St.new (w : World) (a0 a1 b0 b1 : Int) : St w ((((w.alloc (.cells #[.int .i8 a0, .int .i8 a1] 28)).alloc (.cells #[.int .i8 b0, .int .i8 b1] 28)).alloc (.cells #[.int .i8 0, .int .i8 0] 28)).alloc (.cells #[.int .i8 7, .int .i8 (-7)] 28)) a0 a1 b0 b1 7 (-7) := by
  refine ⟨(((Own.new _ _ _).alloc _).alloc _).alloc _, ?_, ?_, ?_, below_new (below_new (below_new (below_new (Below.refl _ _) _) _) _) _⟩
  · have := ((Own.new (w.alloc (.cells #[.int .i8 a0, .int .i8 a1] 28)) 28 #[.int .i8 b0, .int .i8 b1]).alloc (.cells #[.int .i8 0, .int .i8 0] 28)).alloc (.cells #[.int .i8 7, .int .i8 (-7)] 28)
    simpa using this
  · have := (Own.new ((w.alloc (.cells #[.int .i8 a0, .int .i8 a1] 28)).alloc (.cells #[.int .i8 b0, .int .i8 b1] 28)) 28 #[.int .i8 0, .int .i8 0]).alloc (.cells #[.int .i8 7, .int .i8 (-7)] 28)
    simpa using this
  · have := Own.new (((w.alloc (.cells #[.int .i8 a0, .int .i8 a1] 28)).alloc (.cells #[.int .i8 b0, .int .i8 b1] 28)).alloc (.cells #[.int .i8 0, .int .i8 0] 28)) 28 #[.int .i8 7, .int .i8 (-7)]
    simpa using this
/-- What the pairs of levels before (m, k) gave lies in lo to hi, and lo to hi in the combination. -/
def Seen (a0 a1 b0 b1 m k lo hi : Int) : Prop := (∀ m' k' : Int, a0 ≤ m' → m' ≤ a1 → b0 ≤ k' → k' ≤ b1 → (m' < m ∨ (m' = m ∧ k' < k)) → lo ≤ lvLo m' k' ∧ lvHi m' k' ≤ hi) ∧ cLo a0 a1 b0 b1 ≤ lo ∧ hi ≤ cHi a0 a1 b0 b1
theorem lv_le (m k : Int) : lvLo m k ≤ lvHi m k := by
  unfold lvLo lvHi
  by_cases h : m = -k ∧ m ≠ 0
  · rw [if_pos h, if_pos h]; omega
  · rw [if_neg h, if_neg h]; omega
theorem lv_in {a0 a1 b0 b1 : Int} (ha : a0 ≤ a1) (hb : b0 ≤ b1) {m k : Int} (m0 : a0 ≤ m) (m1 : m ≤ a1) (k0 : b0 ≤ k) (k1 : k ≤ b1) : cLo a0 a1 b0 b1 ≤ lvLo m k ∧ lvHi m k ≤ cHi a0 a1 b0 b1 := by
  have h := lv_le m k
  have h1 := (mem_comb ha hb _).2 ⟨m, k, m0, m1, k0, k1, (lvl_iff _ _ _).2 ⟨Int.le_refl _, h⟩⟩
  have h2 := (mem_comb ha hb _).2 ⟨m, k, m0, m1, k0, k1, (lvl_iff _ _ _).2 ⟨h, Int.le_refl _⟩⟩
  exact ⟨h1.1, h2.2⟩
theorem Seen.start {a0 a1 b0 b1 : Int} [A : Nm a0 a1] [B : Nm b0 b1] : Seen a0 a1 b0 b1 a0 b0 7 (-7) := by
  obtain ⟨p, q, r⟩ := (inferInstance : Nm (cLo a0 a1 b0 b1) (cHi a0 a1 b0 b1))
  exact ⟨fun m' k' h1 h2 h3 h4 h5 => by omega, by omega, by omega⟩
theorem Seen.next {a0 a1 b0 b1 m k lo hi : Int} (ha : a0 ≤ a1) (hb : b0 ≤ b1) (h : Seen a0 a1 b0 b1 m k lo hi) (m0 : a0 ≤ m) (m1 : m ≤ a1) (k0 : b0 ≤ k) (k1 : k ≤ b1) : Seen a0 a1 b0 b1 m (k + 1) (min lo (lvLo m k)) (max hi (lvHi m k)) := by
  obtain ⟨h1, h2, h3⟩ := h
  have := lv_in ha hb m0 m1 k0 k1
  refine ⟨fun m' k' a b c d e => ?_, by omega, by omega⟩
  by_cases hk : m' = m ∧ k' = k
  · obtain ⟨rfl, rfl⟩ := hk; omega
  · have := h1 m' k' a b c d (by omega); omega
theorem Seen.row {a0 a1 b0 b1 m lo hi : Int} (h : Seen a0 a1 b0 b1 m (b1 + 1) lo hi) : Seen a0 a1 b0 b1 (m + 1) b0 lo hi :=
  ⟨fun m' k' a b c d e => h.1 m' k' a b c d (by omega), h.2⟩
theorem Seen.all {a0 a1 b0 b1 lo hi : Int} (ha : a0 ≤ a1) (hb : b0 ≤ b1) (h : Seen a0 a1 b0 b1 (a1 + 1) b0 lo hi) : lo = cLo a0 a1 b0 b1 ∧ hi = cHi a0 a1 b0 b1 := by
  obtain ⟨h1, h2, h3⟩ := h
  have hle := comb_le ha hb
  obtain ⟨m, k, m0, m1, k0, k1, hl⟩ := (mem_comb ha hb _).1 ⟨Int.le_refl _, hle⟩
  obtain ⟨m', k', m0', m1', k0', k1', hl'⟩ := (mem_comb ha hb _).1 ⟨hle, Int.le_refl _⟩
  have := h1 m k m0 m1 k0 k1 (by omega)
  have := h1 m' k' m0' m1' k0' k1' (by omega)
  have := (lvl_iff _ _ _).1 hl
  have := (lvl_iff _ _ _).1 hl'
  omega
end Go.Proofs.YtjfhhlbgiepkpaaDoor
