/-
  Contracts of the shifts to the left, of the program and of the reference. Widths up to some thousands.
-/
import Derived.Test.YtaedfoblniadfaaBvK
namespace Go.Proofs.Ytaedfoblniadfaa
open Go Go.RowKit

def shlv (n x L : Nat) : Nat := (2 ^ L * x) % 2 ^ n
theorem rShl_any (A : Option Addr) (n c x : Nat) (m : Int) (w : World) (h : Rd w A n x) (hn : n ≤ 10000) :
    Calls Try.prog 39 #[.slice A n c, .int .i64 m] w (RetN w n (shlv n x (lim m n))) := by
  have hcase : (n : Int) < m ∨ (m ≤ 0) ∨ (0 < m ∧ m < n) ∨ (0 < m ∧ m = n) := by omega
  rcases hcase with h1 | h1 | ⟨h1, h2⟩ | ⟨h1, h2⟩
  · have e : lim m n = n := by unfold lim; omega
    rw [e]
    clear e
    have hmk := fun W => run_makeB n (by omega) W
    have h0 : (0 : Int) < m := by omega
    have hown := Nw.of_own (B := w.heap.size) (Own.new w _ (ba n 0)) (pow_p n) (Nat.le_refl _) (by unfold maxLen; omega)
    have hbb := below_new (Below.refl w.heap.size w) (.cells (ba n 0) 4)
    have hrr := h.alloc (.cells (ba n 0) 4)
    have hbd : n + n ≤ 1000000 := by omega
    go_enter Try.func39, Try.ntmps39
    go_wp2_with (first | (at_builtin; refine wpList_cat rfl (.tmp 11) (.tmp 12) rfl rfl hbb rfl hown rfl hrr hbd ?_; intro A1 c1 w1 hv1 hb1) | (go_at_call 50; refine (rFit_any _ _ _ _ _ _ hv1.rd (by omega) (by omega)).mono ?_; rintro e w2 ⟨A2, c2, rfl, hv2, hb2⟩))
    go_ret
    exact ⟨_, _, rfl, by unfold shlv; first | exact hv2.mono hb1.size | (rw [Nat.zero_add] at hv2; exact hv2.mono hb1.size), below_step hb1 hb2⟩
  · have e : lim m n = 0 := by unfold lim; omega
    rw [e]
    clear e
    have hmk : ∀ W : World, (Instr.makeSlice 22 (.int .i64 0) (.int .i64 0)).run Try.prog W = .ok (.slice (some ⟨W.heap.size, 0, none⟩) 0 0) (W.alloc (.cells (ba 0 0) 4)) := fun W => run_makeB 0 (by decide) W
    have hn0 : ¬ (n : Int) < 0 := by omega
    rcases (show m = 0 ∨ m < 0 by omega) with h2 | h2
    · subst h2
      clear h1
      go_enter Try.func39, Try.ntmps39
      go_wp2_with (first | (at_builtin; refine wpList_cat rfl (.tmp 11) (.tmp 12) rfl rfl (below_new (Below.refl _ _) _) rfl (Nw.of_own (Own.new w _ (ba 0 0)) (pow_p 0) (Nat.le_refl _) (by unfold maxLen; omega)) rfl (h.alloc _) (by omega) ?_; intro A1 c1 w1 hv1 hb1; simp only [Nat.zero_add] at hv1) | (go_at_call 50; refine (rFit_any _ _ _ _ _ _ hv1.rd (by omega) (by omega)).mono ?_; rintro e w2 ⟨A2, c2, rfl, hv2, hb2⟩))
      go_ret
      exact ⟨_, _, rfl, by unfold shlv; first | exact hv2.mono hb1.size | (rw [Nat.zero_add] at hv2; exact hv2.mono hb1.size), below_step hb1 hb2⟩
    · clear h1
      go_enter Try.func39, Try.ntmps39
      go_wp2_with (first | (at_builtin; refine wpList_cat rfl (.tmp 11) (.tmp 12) rfl rfl (below_new (Below.refl _ _) _) rfl (Nw.of_own (Own.new w _ (ba 0 0)) (pow_p 0) (Nat.le_refl _) (by unfold maxLen; omega)) rfl (h.alloc _) (by omega) ?_; intro A1 c1 w1 hv1 hb1; simp only [Nat.zero_add] at hv1) | (go_at_call 50; refine (rFit_any _ _ _ _ _ _ hv1.rd (by omega) (by omega)).mono ?_; rintro e w2 ⟨A2, c2, rfl, hv2, hb2⟩))
      go_ret
      exact ⟨_, _, rfl, by unfold shlv; first | exact hv2.mono hb1.size | (rw [Nat.zero_add] at hv2; exact hv2.mono hb1.size), below_step hb1 hb2⟩
  · obtain ⟨L, rfl⟩ : ∃ L : Nat, m = L := ⟨m.toNat, by omega⟩
    have e : lim L n = L := by unfold lim; omega
    rw [e]
    clear e
    have hmk := fun W => run_makeB L (by omega) W
    have h3 : (L : Int) ≤ n := by omega
    have h4 : L < n := by omega
    have h5 : 0 < L := by omega
    have hown := Nw.of_own (B := w.heap.size) (Own.new w _ (ba L 0)) (pow_p L) (Nat.le_refl _) (by unfold maxLen; omega)
    have hbb := below_new (Below.refl w.heap.size w) (.cells (ba L 0) 4)
    have hrr := h.alloc (.cells (ba L 0) 4)
    have hbd : L + n ≤ 1000000 := by omega
    go_enter Try.func39, Try.ntmps39
    go_wp2_with (first | (at_builtin; refine wpList_cat rfl (.tmp 11) (.tmp 12) rfl rfl hbb rfl hown rfl hrr hbd ?_; intro A1 c1 w1 hv1 hb1) | (go_at_call 50; refine (rFit_any _ _ _ _ _ _ hv1.rd (by omega) (by omega)).mono ?_; rintro e w2 ⟨A2, c2, rfl, hv2, hb2⟩))
    go_ret
    exact ⟨_, _, rfl, by unfold shlv; first | exact hv2.mono hb1.size | (rw [Nat.zero_add] at hv2; exact hv2.mono hb1.size), below_step hb1 hb2⟩
  · subst h2
    have e : lim n n = n := by unfold lim; omega
    rw [e]
    clear e
    have hmk := fun W => run_makeB n (by omega) W
    have h0 : 0 < n := by omega
    have hown := Nw.of_own (B := w.heap.size) (Own.new w _ (ba n 0)) (pow_p n) (Nat.le_refl _) (by unfold maxLen; omega)
    have hbb := below_new (Below.refl w.heap.size w) (.cells (ba n 0) 4)
    have hrr := h.alloc (.cells (ba n 0) 4)
    have hbd : n + n ≤ 1000000 := by omega
    go_enter Try.func39, Try.ntmps39
    go_wp2_with (first | (at_builtin; refine wpList_cat rfl (.tmp 11) (.tmp 12) rfl rfl hbb rfl hown rfl hrr hbd ?_; intro A1 c1 w1 hv1 hb1) | (go_at_call 50; refine (rFit_any _ _ _ _ _ _ hv1.rd (by omega) (by omega)).mono ?_; rintro e w2 ⟨A2, c2, rfl, hv2, hb2⟩))
    go_ret
    exact ⟨_, _, rfl, by unfold shlv; first | exact hv2.mono hb1.size | (rw [Nat.zero_add] at hv2; exact hv2.mono hb1.size), below_step hb1 hb2⟩
theorem shlv_bit {n x L i : Nat} : (shlv n x L).testBit i = (decide (i < n) && (decide (i ≥ L) && x.testBit (i - L))) := by
  unfold shlv
  rw [Nat.testBit_mod_two_pow, Nat.testBit_two_pow_mul]
theorem slice_at (g n L : Nat) (hL : L ≤ n) : ∃ dp : Option Addr, (∀ W : World, (Instr.slice 22 (.slice (some ⟨g, 0, none⟩) n n) (some (.int .i64 (L : Int))) none none).run Try.prog W = .ok (.slice dp (n - L) (n - L)) W) ∧
    (∀ W : World, (Instr.sliceAt 22 (.slice (some ⟨g, 0, none⟩) n n) (some (.int .i64 (L : Int))) none none).run Try.prog W = .ok (.slice dp (n - L) (n - L)) W) ∧ (L < n → dp = some ⟨g, L, none⟩) := by
  have hz : ∀ W : World, (sizeOf 4).run Try.prog W = .ok 1 W := fun W => by kernel_rfl
  have key : ∀ W : World, (Instr.slice 22 (.slice (some ⟨g, 0, none⟩) n n) (some (.int .i64 (L : Int))) none none).run Try.prog W = .ok (sliced (some ⟨g, 0, none⟩) L n n 1) W := fun W => by
    have h := run_slice_l (P := Try.prog) (w := W) 22 (some ⟨g, 0, none⟩) n n (by kernel_rfl) .i64 (L : Int) (by omega) (by omega)
    rw [h, show (Try.prog).elem 22 = 4 by kernel_rfl, hz W]
    rfl
  have e : sliced (some ⟨g, 0, none⟩) L n n 1 = .slice (if n = L then some ⟨g, 0, none⟩ else some ⟨g, L, none⟩) (n - L) (n - L) := by
    unfold sliced
    split
    · rfl
    · have : (⟨g, 0, none⟩ : Addr).add L = ⟨g, L, none⟩ := by unfold Addr.add; split <;> simp_all
      simp [this]
  refine ⟨if n = L then some ⟨g, 0, none⟩ else some ⟨g, L, none⟩, fun W => ?_, fun W => ?_, fun h => if_neg (by omega)⟩
  · rw [key W, e]
  · rw [run_sliceAt_slice (P := Try.prog) (w := W) _ _ _ _ _ (by kernel_rfl), key W, e]
theorem run_shl {w : World} (ty : TypeId) (g n x L c dCap : Nat) (A dp : Option Addr) (hL : L ≤ n) (hdp : L < n → dp = some ⟨g, L, none⟩) (hg : Own w g 4 (ba n 0)) (hr : Rd w A n x) :
    ∃ w', (Builtin.copy_ #[22, 22] ty #[.slice dp (n - L) dCap, .slice A n c]).run Try.prog w = .ok (goInt (n - L : Nat)) w' ∧ Own w' g 4 (ba n (shlv n x L)) ∧ w.grownBy w' (some g) := by
  have hsz : (Try.prog.info? 4).map (·.size) = some 1 := by kernel_rfl
  rcases Nat.lt_or_ge L n with h1 | h1
  · obtain rfl := hdp h1
    obtain ⟨b, o, rfl, hb, hcell⟩ := hr.2 (by omega)
    have hl : (bl (n - L) x).length = n - L := bl_length _ _
    have hrun := run_copy_row (P := Try.prog) w 22 22 ty 4 g L (n - L) dCap ⟨b, o, none⟩ n c (ba n 0) _ (bl (n - L) x) Try.underlying22 hsz hg (by rw [hl]; exact (Nat.min_eq_right (by omega)).symm)
      (fun j v hv => by
        have hj : j < n - L := by have := (List.getElem?_eq_some_iff.1 hv).1; rwa [hl] at this
        rw [bl_get _ _ _ hj] at hv
        have e : (⟨b, o, none⟩ : Addr).add j = ⟨b, o + j, none⟩ := by unfold Addr.add; split <;> simp_all
        rw [e, hcell j (by omega)]
        exact hv) (by rw [hl, ba_size]; omega) (fun v hv => bl_one _ x v hv)
    rw [hl] at hrun
    refine ⟨_, hrun, ?_, ⟨rfl, rfl, rfl, by simp [World.setRow], fun k hk hne => setRow_other w g k _ (by simpa using hne)⟩⟩
    have e : ((ba n 0).toList.take L ++ bl (n - L) x ++ (ba n 0).toList.drop (L + (n - L))).toArray = ba n (shlv n x L) := by
      unfold ba
      congr 1
      apply List.ext_getElem?
      intro i
      simp only [List.drop_eq_nil_of_le (show (bl n 0).toArray.toList.length ≤ L + (n - L) by simp [bl_length]; omega), List.append_nil]
      have e1 : ((bl n 0).toArray.toList.take L).length = L := by simp [bl_length]; omega
      rcases Nat.lt_or_ge i L with hi | hi
      · rw [List.getElem?_append_left (by rw [e1]; exact hi), List.getElem?_take, if_pos hi, bl_get _ _ _ (by omega), bl_get _ _ _ (by omega), shlv_bit]
        have : ¬ L ≤ i := by omega
        simp [this]
      · rw [List.getElem?_append_right (by rw [e1]; exact hi), e1]
        rcases Nat.lt_or_ge i n with h2 | h2
        · rw [bl_get _ _ _ (by omega), bl_get _ _ _ h2, shlv_bit]
          simp [h2, hi]
        · rw [List.getElem?_eq_none (by rw [bl_length]; omega), List.getElem?_eq_none (by rw [bl_length]; omega)]
    rw [← e]
    exact setRow_heap w g _ _ _ _ hg
  · obtain rfl : L = n := by omega
    have hrun := run_copy_none (P := Try.prog) w 22 22 ty 4 dp A (L - L) dCap L c Try.underlying22 hsz (by simp)
    refine ⟨w, ?_, ?_, World.grownBy.refl w _⟩
    · rw [hrun]; simp
    · rw [show shlv L x L = 0 by unfold shlv; exact Nat.mul_mod_right _ _]; exact hg
theorem upon_shl {w : World} {o : Oper} {a : Act} {K : Act → World → Prop} {Q : Exit → Act → World → Prop} (ty : TypeId) (g n x L c dCap : Nat) (A dp : Option Addr) (hL : L ≤ n) (hdp : L < n → dp = some ⟨g, L, none⟩) (hg : Own w g 4 (ba n 0)) (hr : Rd w A n x)
    (h : ∀ w', Own w' g 4 (ba n (shlv n x L)) → w.grownBy w' (some g) → K (a.put o.dst (goInt (n - L : Nat))) w') :
    Oper.upon Try.prog o a K Q (((Builtin.copy_ #[22, 22] ty #[.slice dp (n - L) dCap, .slice A n c]).run Try.prog w).andThen fun v w' => .ok (.value v) w') := by
  obtain ⟨w', hrun, h1, h2⟩ := run_shl ty g n x L c dCap A dp hL hdp hg hr
  rw [hrun]
  exact h w' h1 h2
theorem shl_any (A : Option Addr) (n c x : Nat) (m : Int) (w : World) (h : Rd w A n x) (hn : n ≤ 10000) :
    Calls Try.prog 35 #[.slice A n c, .int .i64 m] w (RetN w n (shlv n x (lim m n))) := by
  have hmk := fun W => run_makeB n (by omega) W
  have hL : lim m n ≤ n := by unfold lim; omega
  have hlim := fun W => limit_any m n W
  generalize lim m n = L at *
  obtain ⟨dp, hsl, hsl2, hdp⟩ := slice_at w.heap.size n L hL
  replace hdp := Lib.hid hdp
  have o1 := Own.new w 4 (ba n 0)
  have hr := h.alloc (.cells (ba n 0) 4)
  have hb := below_new (Below.refl w.heap.size w) (.cells (ba n 0) 4)
  go_enter Try.func35, Try.ntmps35
  go_wp2_with (go_at_call 65; refine (hlim _).mono ?_; rintro e w1 ⟨rfl, rfl⟩)
  refine upon_shl _ _ n x L _ _ _ _ hL hdp.out o1 hr ?_
  intro w1 oR1 hg1
  have hb1 : Below w.heap.size w w1 := hb.grown hg1 hb.size (fun k hk => by injection hk with hk; omega)
  go_wp2
  go_ret
  exact ⟨_, _, rfl, Nw.of_own oR1 (mod_lt' _ _) (Nat.le_refl _) (by unfold maxLen; omega), hb1⟩
end Go.Proofs.Ytaedfoblniadfaa
