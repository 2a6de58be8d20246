/-
  Contracts of the small functions: a bit of a vector, the full adder and its maker, the sign, the limited distance, powers of two. Widths and indices up to a million.
-/
import Derived.Test.YtaedfoblniadfaaBvW
namespace Go.Proofs.Ytaedfoblniadfaa
open Go Go.RowKit

theorem at_any (A : Option Addr) (n c x k : Nat) (fill : Bool) (w : World) (h : Rd w A n x) (_hn : n ≤ 1000000) (_hk : k ≤ 2000000) :
    Calls Try.prog 70 #[.slice A n c, .int .i64 k, .bool fill] w fun e w' => e = .returned (.bool (if k < n then x.testBit k else fill)) ∧ w = w' := by
  by_cases hlt : k < n
  · obtain ⟨b, o, rfl, hb, hc⟩ := h.at_ hlt
    rw [if_pos hlt]
    clear h
    go_enter Try.func70, Try.ntmps70
    go_wp2
    go_ret
    exact ⟨rfl, rfl⟩
  · rw [if_neg hlt]
    clear h
    go_enter Try.func70, Try.ntmps70
    go_wp2
    go_ret
    exact ⟨rfl, rfl⟩

theorem rAt_any (A : Option Addr) (n c x k : Nat) (w : World) (h : Rd w A n x) (_hn : n ≤ 1000000) (_hk : k ≤ 2000000) :
    Calls Try.prog 69 #[.slice A n c, .int .i64 k] w fun e w' => e = .returned (.bool (x.testBit k)) ∧ w = w' := by
  by_cases hlt : k < n
  · obtain ⟨b, o, rfl, hb, hc⟩ := h.at_ hlt
    clear h
    have d : decide ((k : Int) < n) = true := by simpa using hlt
    have d2 : decide ((0 : Int) ≤ k) = true := by simp
    go_enter Try.func69, Try.ntmps69
    go_wp2
    go_ret
    exact ⟨rfl, rfl⟩
  · have hz : x.testBit k = false := high_bit h.1 (by omega)
    rw [hz]
    clear h hz
    have d : decide ((k : Int) < n) = false := by simpa using hlt
    have d2 : decide ((0 : Int) ≤ k) = true := by simp
    go_enter Try.func69, Try.ntmps69
    go_wp2
    go_ret
    exact ⟨rfl, rfl⟩

theorem adder1_any (g : Nat) (x y c : Bool) (w : World) (h : Own w g 4 #[.bool c]) :
    Calls Try.prog 71 #[.bool x, .bool y, .pointer (some ⟨g, 0, none⟩)] w fun e w' => e = .returned (.bool ((x != y) != c)) ∧ w' = w.setCell ⟨g, 0, none⟩ (.bool (x && y || c && (x || y))) := by
  have hc := h.cell 0
  have hf := h.free 0
  have hlt := h.lt
  clear h
  cases x <;> cases y <;> cases c
  all_goals
    go_enter Try.func71, Try.ntmps71
    go_wp2
    go_ret
    exact ⟨rfl, rfl⟩

theorem adder_any (c : Bool) (w : World) :
    Calls Try.prog 54 #[.bool c] w fun e w' => e = .returned (.func (.func 71) #[] #[.pointer (some ⟨w.heap.size, 0, none⟩)]) ∧ w.alloc (.cells #[.bool c] 4) = w' := by
  go_enter Try.func54, Try.ntmps54
  go_wp2
  go_ret
  exact ⟨rfl, rfl⟩

def neg (n x : Nat) : Bool := x.testBit (n - 1)
theorem negative_any (A : Option Addr) (n c x : Nat) (w : World) (h : Rd w A n x) (hn : n ≤ 1000000) :
    Calls Try.prog 61 #[.slice A n c] w fun e w' => e = .returned (.bool (neg n x)) ∧ w = w' := by
  rcases Nat.eq_zero_or_pos n with h0 | h0
  · subst h0
    have hz : neg 0 x = false := high_bit h.1 (Nat.zero_le _)
    rw [hz]
    clear h hz
    go_enter Try.func61, Try.ntmps61
    go_wp2
    go_ret
    exact ⟨rfl, rfl⟩
  · obtain ⟨k, rfl⟩ : ∃ k, n = k + 1 := ⟨n - 1, by omega⟩
    obtain ⟨b, o, rfl, hb, hc⟩ := h.at_ (Nat.lt_succ_self k)
    have hz : neg (k + 1) x = x.testBit k := rfl
    rw [hz]
    clear h hz
    have d : decide ((0 : Int) < ((k + 1 : Nat) : Int)) = true := by simp
    go_enter Try.func61, Try.ntmps61
    go_wp2
    go_ret
    exact ⟨rfl, rfl⟩
theorem rNegative_any (A : Option Addr) (n c x : Nat) (w : World) (h : Rd w A n x) (hn : n ≤ 1000000) :
    Calls Try.prog 51 #[.slice A n c] w fun e w' => e = .returned (.bool (neg n x)) ∧ w = w' := by
  rcases Nat.eq_zero_or_pos n with h0 | h0
  · subst h0
    have hz : neg 0 x = false := high_bit h.1 (Nat.zero_le _)
    rw [hz]
    clear h hz
    go_enter Try.func51, Try.ntmps51
    go_wp2
    go_ret
    exact ⟨rfl, rfl⟩
  · obtain ⟨k, rfl⟩ : ∃ k, n = k + 1 := ⟨n - 1, by omega⟩
    obtain ⟨b, o, rfl, hb, hc⟩ := h.at_ (Nat.lt_succ_self k)
    have hz : neg (k + 1) x = x.testBit k := rfl
    rw [hz]
    clear h hz
    have d : decide ((0 : Int) < ((k + 1 : Nat) : Int)) = true := by simp
    go_enter Try.func51, Try.ntmps51
    go_wp2
    go_ret
    exact ⟨rfl, rfl⟩

def lim (m : Int) (n : Nat) : Nat := min m.toNat n
theorem limit_any (m : Int) (n : Nat) (w : World) :
    Calls Try.prog 65 #[.int .i64 m, .int .i64 n] w fun e w' => e = .returned (.int .i64 (lim m n)) ∧ w = w' := by
  by_cases h1 : (n : Int) < m
  · have hz : lim m n = n := by unfold lim; omega
    rw [hz]
    clear hz
    have h0 : (0 : Int) ≤ n := by omega
    go_enter Try.func65, Try.ntmps65
    go_wp2
    all_goals
      go_ret
      exact ⟨ret_i (by omega), rfl⟩
  · have hz : (lim m n : Int) = if 0 < m then m else 0 := by unfold lim; split <;> omega
    rw [hz]
    clear hz
    by_cases h0 : 0 < m
    all_goals
      go_enter Try.func65, Try.ntmps65
      go_wp2
      all_goals
        go_ret
        exact ⟨ret_i (by first | rfl | (split <;> omega)), rfl⟩

theorem power_any (n : Nat) (w : World) (hn : n ≤ 100000) : Calls Try.prog 57 #[.int .i64 n] w (RetN w (n + 1) (2 ^ n)) := by
  have hmk := fun W => run_makeB n (by omega) W
  go_enter Try.func57, Try.ntmps57
  go_wp2_with (at_builtin; refine wpList_push rfl (.tmp 4) (.tmp 5) rfl rfl (below_new (Below.refl _ _) _) rfl (Nw.of_own (Own.new w _ (ba n 0)) (pow_p n) (Nat.le_refl _) (by unfold maxLen; omega)) (w.heap.size + 1) (by simp) true rfl (by omega) ?_; intro A' c' w' hv hb)
  go_ret
  exact ⟨A', c', rfl, by simpa using hv, hb⟩
end Go.Proofs.Ytaedfoblniadfaa
