/-
  Contracts of the reference's functions on numbers: Fit, sum, minus, times, Trim. Widths up to some thousands.
-/
import Derived.Test.YtaedfoblniadfaaBvA
namespace Go.Proofs.Ytaedfoblniadfaa
open Go Go.RowKit

theorem rFit_any (A : Option Addr) (n c x m : Nat) (w : World) (h : Rd w A n x) (hn : n ≤ 1000000) (hm : m ≤ 100000) :
    Calls Try.prog 50 #[.slice A n c, .int .i64 m] w (RetN w m (x % 2 ^ m)) := by
  go_enter Try.func50, Try.ntmps50
  go_wp2
  go_loopw [5, 6] (fun v i wr => ∃ k : Nat, k ≤ m ∧ i = .int .i64 k ∧ ∃ A' c', v = .slice A' k c' ∧ Nw wr w.heap.size A' k c' (x % 2 ^ k) ∧ Below w.heap.size w wr) (fun _ i _ => m - (intOf i).toNat)
  case atStart => exact ⟨0, Nat.zero_le _, rfl, none, 0, rfl, by rw [Nat.pow_zero, Nat.mod_one]; exact Nw.nil _ _, Below.refl _ _⟩
  case round =>
    obtain ⟨k, hk, rfl, A', c', rfl, hv, hb⟩ := hrel
    have hr := h.step hb
    by_cases hlt : k < m
    · go_wp2_with (first | (go_at_call 69; refine (rAt_any _ _ _ _ _ _ hr hn (by omega)).mono ?_; rintro e w1 ⟨rfl, rfl⟩) | (at_builtin; refine wpList_push rfl (.tmp 12) (.tmp 16) rfl rfl hb rfl hv _ rfl _ rfl (by omega) ?_; intro A1 c1 w1 hv1 hb1))
      go_roundw
      case rel => exact ⟨k + 1, by omega, by go_num, A1, c1, rfl, by rw [mod_step]; exact hv1, hb1⟩
      case measure => simp [intOf]; omega
    · obtain rfl : k = m := by omega
      go_wp2
      go_ret
      exact ⟨A', c', rfl, hv, hb⟩

def Cy (v : Value) (q : Nat) : Prop := (v = .int .i64 0 ∧ q = 0) ∨ (v = .int .i64 1 ∧ q = 1)
theorem Cy.zero : Cy (.int .i64 0) 0 := .inl ⟨rfl, rfl⟩
theorem Cy.one : Cy (.int .i64 1) 1 := .inr ⟨rfl, rfl⟩
def SumR (n m x y : Nat) (w : World) (v cy i : Value) (wr : World) : Prop :=
  ∃ k q : Nat, k ≤ max n m + 1 ∧ i = .int .i64 k ∧ Cy cy q ∧ (k ≤ max n m ∨ q = 0) ∧ ∃ A' c' S, v = .slice A' k c' ∧ Nw wr w.heap.size A' k c' S ∧ S + 2 ^ k * q = x % 2 ^ k + y % 2 ^ k ∧ Below w.heap.size w wr
theorem SumR.next {n m x y k q S : Nat} {w : World} (hx : x < 2 ^ n) (hy : y < 2 ^ m) (hk1 : k ≤ max n m) (hS : S + 2 ^ k * q = x % 2 ^ k + y % 2 ^ k) (b : Bool) (q' : Nat) (cv : Value) (A1 : Option Addr) (c1 : Nat) (w1 : World)
    (hv1 : Nw w1 w.heap.size A1 (k + 1) c1 (S + 2 ^ k * b.toNat)) (hb1 : Below w.heap.size w w1) (hc : Cy cv q') (he : b.toNat + 2 * q' = (x.testBit k).toNat + (y.testBit k).toNat + q) : SumR n m x y w (.slice A1 (k + 1) c1) cv (.int .i64 ((k : Int) + 1)) w1 := by
  have he' : (S + 2 ^ k * b.toNat) + 2 ^ (k + 1) * q' = x % 2 ^ (k + 1) + y % 2 ^ (k + 1) := by
    rw [mod_step, mod_step, pow_s]
    have := add_step (P := 2 ^ k) (C := 0) (by simpa using hS) he
    simpa using this
  refine ⟨k + 1, q', by omega, by go_num, hc, ?_, A1, c1, _, rfl, hv1, he', hb1⟩
  rcases Nat.lt_or_ge (max n m) (k + 1) with h1 | h1
  · right
    have e1 : x < 2 ^ k := Nat.lt_of_lt_of_le hx (Nat.pow_le_pow_right (by decide) (by omega))
    have e2 : y < 2 ^ k := Nat.lt_of_lt_of_le hy (Nat.pow_le_pow_right (by decide) (by omega))
    have := pow_s k
    rw [Nat.mod_eq_of_lt (by omega), Nat.mod_eq_of_lt (by omega)] at he'
    rcases Nat.eq_zero_or_pos q' with h0 | h0
    · exact h0
    · have := Nat.le_mul_of_pos_right (2 ^ (k + 1)) h0
      omega
  · exact .inl h1
set_option maxHeartbeats 2000000 in
theorem rsum_any (A B : Option Addr) (n c x m d y : Nat) (w : World) (h : Rd w A n x) (h' : Rd w B m y) (hn : n ≤ 10000) (hm : m ≤ 10000) :
    Calls Try.prog 55 #[.slice A n c, .slice B m d] w fun e w' => ∃ l, l ≤ max n m + 1 ∧ RetN w l (x + y) e w' := by
  go_enter Try.func55, Try.ntmps55
  go_wp2
  go_loopw [5, 6, 7] (fun v cy i wr => SumR n m x y w v cy i wr) (fun _ _ i _ => max n m + 1 - (intOf i).toNat)
  case atStart => exact ⟨0, 0, Nat.zero_le _, rfl, Cy.zero, by omega, none, 0, 0, rfl, Nw.nil _ _, by simp [Nat.mod_one], Below.refl _ _⟩
  case round =>
    obtain ⟨k, q, hk, rfl, hcy, hkq, A', c', S, rfl, hv, hS, hb⟩ := hrel
    have hr := h.step hb
    have hr' := h'.step hb
    by_cases hgo : k < n ∨ k < m ∨ 0 < q
    · have hk1 : k ≤ max n m := by omega
      have hfin := SumR.next (w := w) h.1 h'.1 hk1 hS
      obtain ⟨bx, hbx⟩ : ∃ b, b = x.testBit k := ⟨_, rfl⟩
      obtain ⟨bz, hbz⟩ : ∃ b, b = y.testBit k := ⟨_, rfl⟩
      have cA : Calls Try.prog 69 #[.slice A n c, .int .i64 k] wr (fun e w' => e = .returned (.bool bx) ∧ wr = w') := by rw [hbx]; exact rAt_any _ _ _ _ _ _ hr (by omega) (by omega)
      have cB : Calls Try.prog 69 #[.slice B m d, .int .i64 k] wr (fun e w' => e = .returned (.bool bz) ∧ wr = w') := by rw [hbz]; exact rAt_any _ _ _ _ _ _ hr' (by omega) (by omega)
      rw [← hbx, ← hbz] at hfin
      have hfin := Lib.hid hfin
      have hcA := Lib.hid cA
      have hcB := Lib.hid cB
      clear hbx hbz hkq cA cB hS
      have hg : (k < n) ∨ (¬ k < n ∧ k < m) ∨ (¬ k < n ∧ ¬ k < m ∧ q = 1) := by
        rcases hcy with ⟨_, rfl⟩ | ⟨_, rfl⟩ <;> omega
      clear hgo
      rcases hg with g1 | ⟨g1, g2⟩ | ⟨g1, g2, g3⟩
      · have d1 : decide ((k : Int) < n) = true := by simpa using g1
        rcases hcy with ⟨rfl, rfl⟩ | ⟨rfl, rfl⟩ <;> cases bx <;> cases bz
        all_goals
          go_wp2_with (first | (go_at_call 69; (first | (with_reducible refine hcA.out.mono ?_) | (with_reducible refine hcB.out.mono ?_)); rintro e w1 ⟨rfl, rfl⟩) | (at_builtin; refine wpList_push rfl (.tmp 36) (.tmp 40) rfl rfl hb rfl hv _ rfl _ rfl (by omega) ?_; intro A1 c1 w1 hv1 hb1))
          go_roundw
          case rel => exact hfin.out _ _ _ A1 c1 _ hv1 hb1 (by first | exact Cy.zero | exact Cy.one) rfl
          case measure => simp [intOf]; omega
      · have d1 : decide ((k : Int) < n) = false := by simpa using g1
        have d2 : decide ((k : Int) < m) = true := by simpa using g2
        rcases hcy with ⟨rfl, rfl⟩ | ⟨rfl, rfl⟩ <;> cases bx <;> cases bz
        all_goals
          go_wp2_with (first | (go_at_call 69; (first | (with_reducible refine hcA.out.mono ?_) | (with_reducible refine hcB.out.mono ?_)); rintro e w1 ⟨rfl, rfl⟩) | (at_builtin; refine wpList_push rfl (.tmp 36) (.tmp 40) rfl rfl hb rfl hv _ rfl _ rfl (by omega) ?_; intro A1 c1 w1 hv1 hb1))
          go_roundw
          case rel => exact hfin.out _ _ _ A1 c1 _ hv1 hb1 (by first | exact Cy.zero | exact Cy.one) rfl
          case measure => simp [intOf]; omega
      · subst g3
        rcases hcy with ⟨_, h0⟩ | ⟨rfl, _⟩
        · exact absurd h0 (by decide)
        have d1 : decide ((k : Int) < n) = false := by simpa using g1
        have d2 : decide ((k : Int) < m) = false := by simpa using g2
        cases bx <;> cases bz
        all_goals
          go_wp2_with (first | (go_at_call 69; (first | (with_reducible refine hcA.out.mono ?_) | (with_reducible refine hcB.out.mono ?_)); rintro e w1 ⟨rfl, rfl⟩) | (at_builtin; refine wpList_push rfl (.tmp 36) (.tmp 40) rfl rfl hb rfl hv _ rfl _ rfl (by omega) ?_; intro A1 c1 w1 hv1 hb1))
          go_roundw
          case rel => exact hfin.out _ _ _ A1 c1 _ hv1 hb1 (by first | exact Cy.zero | exact Cy.one) rfl
          case measure => simp [intOf]; omega
    · have hq0 : q = 0 := by omega
      subst hq0
      rcases hcy with ⟨rfl, _⟩ | ⟨_, h0⟩
      · have d1 : decide ((k : Int) < n) = false := by simp; omega
        have d2 : decide ((k : Int) < m) = false := by simp; omega
        have e1 : x % 2 ^ k = x := Nat.mod_eq_of_lt (Nat.lt_of_lt_of_le h.1 (Nat.pow_le_pow_right (by decide) (by omega)))
        have e2 : y % 2 ^ k = y := Nat.mod_eq_of_lt (Nat.lt_of_lt_of_le h'.1 (Nat.pow_le_pow_right (by decide) (by omega)))
        obtain rfl : S = x + y := by rw [e1, e2] at hS; simpa using hS
        clear e1 e2 hS
        go_wp2
        go_ret
        exact ⟨k, hk, A', c', rfl, hv, hb⟩
      · exact absurd h0 (by decide)
end Go.Proofs.Ytaedfoblniadfaa
