/-
  Contracts of the reference's functions on numbers: minus, times, Trim. Widths up to some thousands.
-/
import Derived.Test.YtaedfoblniadfaaBvB
namespace Go.Proofs.Ytaedfoblniadfaa
open Go Go.RowKit

def MinR (n x y : Nat) (w : World) (v br i : Value) (wr : World) : Prop :=
  ∃ k q : Nat, k ≤ n ∧ i = .int .i64 k ∧ Cy br q ∧ ∃ A' c' S, v = .slice A' k c' ∧ Nw wr w.heap.size A' k c' S ∧ S + y % 2 ^ k = x % 2 ^ k + 2 ^ k * q ∧ Below w.heap.size w wr
theorem MinR.next {n x y k q S : Nat} {w : World} (hk1 : k < n) (hS : S + y % 2 ^ k = x % 2 ^ k + 2 ^ k * q) (b : Bool) (q' : Nat) (cv : Value) (A1 : Option Addr) (c1 : Nat) (w1 : World)
    (hv1 : Nw w1 w.heap.size A1 (k + 1) c1 (S + 2 ^ k * b.toNat)) (hb1 : Below w.heap.size w w1) (hc : Cy cv q') (he : b.toNat + (y.testBit k).toNat + q = (x.testBit k).toNat + 2 * q') : MinR n x y w (.slice A1 (k + 1) c1) cv (.int .i64 ((k : Int) + 1)) w1 := by
  have he' : (S + 2 ^ k * b.toNat) + y % 2 ^ (k + 1) = x % 2 ^ (k + 1) + 2 ^ (k + 1) * q' := by
    rw [mod_step, mod_step, pow_s]
    have : 2 ^ k * b.toNat + 2 ^ k * (y.testBit k).toNat + 2 ^ k * q = 2 ^ k * (x.testBit k).toNat + 2 * 2 ^ k * q' := by
      rw [← Nat.mul_add, ← Nat.mul_add, he, Nat.mul_add, Nat.mul_comm 2 (2 ^ k), Nat.mul_assoc]
    omega
  exact ⟨k + 1, q', by omega, by go_num, hc, A1, c1, _, rfl, hv1, he', hb1⟩
set_option maxHeartbeats 2000000 in
theorem minus_any (A B : Option Addr) (n c x m d y : Nat) (w : World) (h : Rd w A n x) (h' : Rd w B m y) (hn : n ≤ 10000) (hm : m ≤ 10000) (hle : y ≤ x) :
    Calls Try.prog 56 #[.slice A n c, .slice B m d] w (RetN w n (x - y)) := by
  go_enter Try.func56, Try.ntmps56
  go_wp2
  go_loopw [5, 6, 7] (fun v cy i wr => MinR n x y w v cy i wr) (fun _ _ i _ => n - (intOf i).toNat)
  case atStart => exact ⟨0, 0, Nat.zero_le _, rfl, Cy.zero, none, 0, 0, rfl, Nw.nil _ _, by simp [Nat.mod_one], Below.refl _ _⟩
  case round =>
    obtain ⟨k, q, hk, rfl, hcy, A', c', S, rfl, hv, hS, hb⟩ := hrel
    have hr := h.step hb
    have hr' := h'.step hb
    by_cases g1 : k < n
    · have hfin := MinR.next (w := w) g1 hS
      obtain ⟨bx, hbx⟩ : ∃ b, b = x.testBit k := ⟨_, rfl⟩
      obtain ⟨bz, hbz⟩ : ∃ b, b = y.testBit k := ⟨_, rfl⟩
      obtain ⟨ab, ao, rfl, hlt, hcell⟩ := hr.at_ g1
      have cB : Calls Try.prog 69 #[.slice B m d, .int .i64 k] wr (fun e w' => e = .returned (.bool bz) ∧ wr = w') := by rw [hbz]; exact rAt_any _ _ _ _ _ _ hr' (by omega) (by omega)
      rw [← hbx, ← hbz] at hfin
      rw [← hbx] at hcell
      have hfin := Lib.hid hfin
      have hcB := Lib.hid cB
      clear hbx hbz cB hS h h' hr hr' hle
      have d1 : decide ((k : Int) < n) = true := by simpa using g1
      rcases hcy with ⟨rfl, rfl⟩ | ⟨rfl, rfl⟩ <;> cases bx <;> cases bz
      all_goals
        go_wp2_with (first | (go_at_call 69; (with_reducible refine hcB.out.mono ?_); rintro e w1 ⟨rfl, rfl⟩) | (at_builtin; refine wpList_push rfl (.tmp 32) (.tmp 35) rfl rfl hb rfl hv _ rfl _ rfl (by omega) ?_; intro A1 c1 w1 hv1 hb1))
        go_roundw
        case rel => exact hfin.out _ _ _ A1 c1 _ hv1 hb1 (by first | exact Cy.zero | exact Cy.one) rfl
        case measure => simp [intOf]; omega
    · obtain rfl : k = n := by omega
      have hy : y < 2 ^ k := Nat.lt_of_le_of_lt hle h.1
      rw [Nat.mod_eq_of_lt hy, Nat.mod_eq_of_lt h.1] at hS
      obtain rfl : S = x - y := by
        have := hv.1
        rcases hcy with ⟨_, rfl⟩ | ⟨_, rfl⟩
        · rw [Nat.mul_zero] at hS; omega
        · rw [Nat.mul_one] at hS; omega
      have hcy := Lib.hid hcy
      clear hS hy hle
      go_wp2
      go_ret
      exact ⟨A', c', rfl, hv, hb⟩

def TimR (n m x y : Nat) (w : World) (v i : Value) (wr : World) : Prop :=
  ∃ k l : Nat, k ≤ m ∧ i = .int .i64 k ∧ l ≤ n + k ∧ ∃ A' c', v = .slice A' l c' ∧ Nw wr w.heap.size A' l c' (x * (y % 2 ^ k)) ∧ Below w.heap.size w wr
theorem times_any (A B : Option Addr) (n c x m d y : Nat) (w : World) (h : Rd w A n x) (h' : Rd w B m y) (hn : n ≤ 2000) (hm : m ≤ 2000) :
    Calls Try.prog 58 #[.slice A n c, .slice B m d] w fun e w' => ∃ l, l ≤ n + m ∧ RetN w l (x * y) e w' := by
  go_enter Try.func58, Try.ntmps58
  go_wp2
  go_loopw [5, 6] (fun v i wr => TimR n m x y w v i wr) (fun _ i _ => m - (intOf i).toNat)
  case atStart => exact ⟨0, 0, Nat.zero_le _, rfl, Nat.zero_le _, none, 0, rfl, by rw [Nat.pow_zero, Nat.mod_one, Nat.mul_zero]; exact Nw.nil _ _, Below.refl _ _⟩
  case round =>
    obtain ⟨k, l, hk, rfl, hl, A', c', rfl, hv, hb⟩ := hrel
    have hr := h.step hb
    have hr' := h'.step hb
    by_cases g1 : k < m
    · obtain ⟨ab, ao, rfl, hlt, hcell⟩ := hr'.at_ g1
      have d1 : decide ((k : Int) < m) = true := by simpa using g1
      rcases hbz : y.testBit k with _ | _
      · rw [hbz] at hcell
        have e : y % 2 ^ (k + 1) = y % 2 ^ k := by rw [mod_step, hbz]; simp
        have hv2 : Nw wr w.heap.size A' l c' (x * (y % 2 ^ (k + 1))) := by rw [e]; exact hv
        have hv := hv2
        clear e hbz h h' hr hr'
        go_wp2
        go_roundw
        case rel => exact ⟨k + 1, l, by omega, by go_num, by omega, A', c', rfl, hv, hb⟩
        case measure => simp [intOf]; omega
      · rw [hbz] at hcell
        have e : x * (y % 2 ^ (k + 1)) = x * (y % 2 ^ k) + (0 + 2 ^ k * x) := by rw [mod_step, hbz, Nat.mul_add, Nat.mul_comm (2 ^ k) x]; simp
        have e := Lib.hid e
        have hmk := fun W => run_makeB k (by omega) W
        clear hbz h h' hr'
        have hn1 : n ≤ 1000000 := by omega
        go_wp2_with (first | (at_builtin; refine wpList_cat rfl (.tmp 19) (.tmp 20) rfl rfl (below_new (Below.refl _ _) _) rfl (Nw.of_own (Own.new wr _ (ba k 0)) (pow_p k) (Nat.le_refl _) (by unfold maxLen; omega)) rfl (hr.alloc _) (by omega) ?_; intro A1 c1 w1 hv1 hb1) | (go_at_call 55; refine (rsum_any _ _ _ _ _ _ _ _ _ (hv.rd.step hb1) hv1.rd (by omega) (by omega)).mono ?_; rintro e2 w2 ⟨l2, hl2, A2, c2, rfl, hv2, hb2⟩))
        go_roundw
        case rel => exact ⟨k + 1, l2, by omega, by go_num, by omega, A2, c2, rfl, by rw [e.out]; exact hv2.mono (Nat.le_trans hb.size hb1.size), below_step (below_step hb hb1) hb2⟩
        case measure => simp [intOf]; omega
    · obtain rfl : k = m := by omega
      rw [Nat.mod_eq_of_lt h'.1] at hv
      have d1 : decide ((k : Int) < k) = false := by simp
      go_wp2
      go_ret
      exact ⟨l, hl, A', c', rfl, hv, hb⟩

/-- The number of bits of x. -/
def Tr (n x : Nat) : Prop := n = 0 ∨ x.testBit (n - 1) = true
theorem Trim_any (A : Option Addr) (n c x : Nat) (w : World) (h : Rd w A n x) (hn : n ≤ 10000) (hc : n ≤ c) :
    Calls Try.prog 60 #[.slice A n c] w fun e w' => ∃ l, l ≤ n ∧ Tr l x ∧ RetN w l x e w' := by
  go_enter Try.func60, Try.ntmps60
  go_wp2
  go_loop [3] (fun i => ∃ k : Nat, k ≤ n ∧ i = .int .i64 k ∧ x < 2 ^ k) (fun i => (intOf i).toNat)
  case atStart => exact ⟨n, Nat.le_refl _, rfl, h.1⟩
  case round =>
    obtain ⟨k, hk, rfl, hx⟩ := hrel
    rcases Nat.eq_zero_or_pos k with rfl | hpos
    · obtain rfl : x = 0 := by simpa using hx
      have h0 : Rd w A 0 0 := ⟨by decide, fun h => absurd h (by decide)⟩
      clear hx h
      go_wp2_with (at_builtin; refine wpList_cat rfl (.tmp 18) (.tmp 21) rfl rfl (below_new (Below.refl _ _) _) rfl (Nw.empty (Own.new w _ #[]) (Nat.le_refl _)) rfl (h0.alloc _) (by omega) ?_; intro A1 c1 w1 hv1 hb1)
      go_ret
      exact ⟨0, Nat.zero_le _, .inl rfl, A1, c1, by simp, by simpa using hv1, hb1⟩
    · obtain ⟨j, rfl⟩ : ∃ j, k = j + 1 := ⟨k - 1, by omega⟩
      obtain ⟨ab, ao, rfl, hlt, hcell⟩ := h.at_ (k := j) (by omega)
      have d1 : decide ((0 : Int) < ((j + 1 : Nat) : Int)) = true := by simp
      rcases hbz : x.testBit j with _ | _
      · rw [hbz] at hcell
        have hx2 : x < 2 ^ j := lt_of_bits fun i hi => by
          rcases Nat.lt_or_ge j i with h1 | h1
          · exact high_bit hx h1
          · obtain rfl : i = j := by omega
            exact hbz
        clear hbz
        go_wp2
        go_round
        case rel => exact ⟨j, by omega, by go_num, hx2⟩
        case measure => simp [intOf]
      · rw [hbz] at hcell
        have h1 : Rd w (some ⟨ab, ao, none⟩) (j + 1) x := ⟨hx, fun _ => by
          obtain ⟨b2, o2, e2, l2, c2⟩ := h.2 (by omega)
          exact ⟨b2, o2, e2, l2, fun i hi => c2 i (by omega)⟩⟩
        have hbz := Lib.hid hbz
        clear h hx
        go_wp2_with (at_builtin; refine wpList_cat rfl (.tmp 18) (.tmp 21) rfl rfl (below_new (Below.refl _ _) _) rfl (Nw.empty (Own.new w _ #[]) (Nat.le_refl _)) rfl (h1.alloc _) (by omega) ?_; intro A1 c1 w1 hv1 hb1)
        go_ret
        exact ⟨j + 1, hk, .inr hbz.out, A1, c1, by simp, by simpa using hv1, hb1⟩
end Go.Proofs.Ytaedfoblniadfaa
