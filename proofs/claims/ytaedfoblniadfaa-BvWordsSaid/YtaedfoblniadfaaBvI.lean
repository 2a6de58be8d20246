/-
  Contracts of the reference's arithmetic: Add, Neg, Sub, Mul, Pow, Cmp, Size, SCmp. Widths up to a thousand.
-/
import Derived.Test.YtaedfoblniadfaaBvH
namespace Go.Proofs.Ytaedfoblniadfaa
open Go Go.RowKit

theorem rAdd_any (A B : Option Addr) (n c x m d y : Nat) (w : World) (h : Rd w A n x) (h' : Rd w B m y) (hn : n ≤ 10000) (hm : m ≤ 10000) :
    Calls Try.prog 21 #[.slice A n c, .slice B m d] w (RetN w n ((x + y) % 2 ^ n)) := by
  go_enter Try.func21, Try.ntmps21
  go_wp2_with (first | (go_at_call 55; refine (rsum_any _ _ _ _ _ _ _ _ _ h h' hn hm).mono ?_; rintro e w1 ⟨l, hl, A1, c1, rfl, hv1, hb1⟩) | (go_at_call 50; refine (rFit_any _ _ _ _ _ _ hv1.rd (by omega) (by omega)).mono ?_; rintro e w2 ⟨A2, c2, rfl, hv2, hb2⟩))
  go_ret
  exact ⟨_, _, rfl, hv2.mono hb1.size, below_step hb1 hb2⟩
theorem rNeg_any (A : Option Addr) (n c x : Nat) (w : World) (h : Rd w A n x) (hn : n ≤ 9000) :
    Calls Try.prog 23 #[.slice A n c] w (RetN w n (subv n 0 x)) := by
  have hx := h.1
  have e : subv n 0 x = (2 ^ n - x) % 2 ^ n := by unfold subv; rw [Nat.mod_eq_of_lt hx, Nat.zero_add]
  rw [e]
  clear e
  go_enter Try.func23, Try.ntmps23
  go_wp2_with (first | (go_at_call 57; refine (power_any _ _ (by omega)).mono ?_; rintro e w1 ⟨A1, c1, rfl, hv1, hb1⟩) | (go_at_call 56; refine (minus_any _ _ _ _ _ _ _ _ _ hv1.rd (h.step hb1) (by omega) (by omega) (Nat.le_of_lt hx)).mono ?_; rintro e w2 ⟨A2, c2, rfl, hv2, hb2⟩) | (go_at_call 50; refine (rFit_any _ _ _ _ _ _ hv2.rd (by omega) (by omega)).mono ?_; rintro e w3 ⟨A3, c3, rfl, hv3, hb3⟩))
  go_ret
  exact ⟨_, _, rfl, hv3.mono (Nat.le_trans hb1.size hb2.size), below_step (below_step hb1 hb2) hb3⟩
theorem rSub_any (A B : Option Addr) (n c x m d y : Nat) (w : World) (h : Rd w A n x) (h' : Rd w B m y) (hn : n ≤ 9000) (hm : m ≤ 9000) :
    Calls Try.prog 22 #[.slice A n c, .slice B m d] w (RetN w n (subv n x y)) := by
  have e : subv n x y = (x + subv n 0 (y % 2 ^ n)) % 2 ^ n := by unfold subv; rw [Nat.zero_add, Nat.mod_mod, Nat.add_mod_mod]
  rw [e]
  clear e
  go_enter Try.func22, Try.ntmps22
  go_wp2_with (first | (go_at_call 50; refine (rFit_any _ _ _ _ _ _ h' (by omega) (by omega)).mono ?_; rintro e w1 ⟨A1, c1, rfl, hv1, hb1⟩) | (go_at_call 23; refine (rNeg_any _ _ _ _ _ hv1.rd hn).mono ?_; rintro e w2 ⟨A2, c2, rfl, hv2, hb2⟩) | (go_at_call 21; refine (rAdd_any _ _ _ _ _ _ _ _ _ (h.step (below_step hb1 hb2)) hv2.rd (by omega) (by omega)).mono ?_; rintro e w3 ⟨A3, c3, rfl, hv3, hb3⟩))
  go_ret
  exact ⟨_, _, rfl, hv3.mono (Nat.le_trans hb1.size hb2.size), below_step (below_step hb1 hb2) hb3⟩
theorem rMul_any (A B : Option Addr) (n c x m d y : Nat) (w : World) (h : Rd w A n x) (h' : Rd w B m y) (hn : n ≤ 2000) (hm : m ≤ 9000) :
    Calls Try.prog 24 #[.slice A n c, .slice B m d] w (RetN w n ((x * y) % 2 ^ n)) := by
  have e : (x * y) % 2 ^ n = (x * (y % 2 ^ n)) % 2 ^ n := by rw [Nat.mul_mod_mod]
  rw [e]
  clear e
  go_enter Try.func24, Try.ntmps24
  go_wp2_with (first | (go_at_call 50; ((with_reducible refine (rFit_any _ _ _ _ _ _ h' (by omega) (by omega)).mono ?_); rintro e w1 ⟨A1, c1, rfl, hv1, hb1⟩)) | (go_at_call 58; refine (times_any _ _ _ _ _ _ _ _ _ (h.step hb1) hv1.rd hn hn).mono ?_; rintro e w2 ⟨l, hl, A2, c2, rfl, hv2, hb2⟩) | (go_at_call 50; ((with_reducible refine (rFit_any _ _ _ _ _ _ hv2.rd (by omega) (by omega)).mono ?_); rintro e w3 ⟨A3, c3, rfl, hv3, hb3⟩)))
  go_ret
  exact ⟨_, _, rfl, hv3.mono (Nat.le_trans hb1.size hb2.size), below_step (below_step hb1 hb2) hb3⟩
def RPowR (n x y m : Nat) (w : World) (v i : Value) (wr : World) : Prop := ∃ (k : Nat) (j : Int), k ≤ m ∧ i = .int .i64 j ∧ j = (m : Int) - 1 - k ∧ ∃ A' c', v = .slice A' n c' ∧ Nw wr w.heap.size A' n c' (PowV n x y m k) ∧ Below w.heap.size w wr
theorem rPow_any (A B : Option Addr) (n c x m d y : Nat) (w : World) (h : Rd w A n x) (h' : Rd w B m y) (hn : n ≤ 2000) (hm : m ≤ 9000) :
    Calls Try.prog 47 #[.slice A n c, .slice B m d] w (RetN w n ((x ^ y) % 2 ^ n)) := by
  have o1 : Rd (w.alloc (.cells #[.bool true] 4)) (some ⟨w.heap.size, 0, none⟩) 1 1 := Rd.of_own (Own.new w _ _) (by decide)
  go_enter Try.func47, Try.ntmps47
  go_wp2_with (go_at_call 50; refine (rFit_any _ _ _ _ _ _ o1 (by omega) (by omega)).mono ?_; rintro e w1 ⟨A1, c1, rfl, hv1, hb1⟩)
  have hb0 := below_step (below_new (Below.refl w.heap.size w) (.cells #[.bool true] 4)) hb1
  go_loopw [5, 6] (fun v i wr => RPowR n x y m w v i wr) (fun _ i _ => (intOf i + 1).toNat)
  case atStart => exact ⟨0, _, Nat.zero_le _, rfl, by omega, A1, c1, rfl, by rw [PowV.zero h'.1]; exact hv1.mono (by simp), hb0⟩
  case round =>
    obtain ⟨k, j, hk, rfl, hj, A', c', rfl, hv, hb⟩ := hrel
    by_cases g1 : k < m
    · obtain ⟨p, rfl⟩ : ∃ p : Nat, j = p := ⟨m - 1 - k, by omega⟩
      obtain rfl : p = m - 1 - k := by omega
      clear hj
      obtain ⟨ab, ao, rfl, hlt0, hc0⟩ := h'.at_ (show m - 1 - k < m by omega)
      have hr := h.step hb
      have l1 : (0 : Int) ≤ ((m - 1 - k : Nat) : Int) := by omega
      have l2 : ((m - 1 - k : Nat) : Int) < m := by omega
      have hm1 := rMul_any A' A' n c' (PowV n x y m k) n c' (PowV n x y m k) wr hv.rd hv.rd hn (by omega)
      have hcell := (hb.cell (p := ⟨ab, ao + (m - 1 - k), none⟩) hlt0).trans hc0
      rcases hy : y.testBit (m - 1 - k) with _ | _
      · rw [hy] at hcell
        have e := PowV.next0 (n := n) (x := x) g1 hy
        rw [e] at hm1
        have hm1 := Lib.hid hm1
        obtain ⟨p, hp⟩ : ∃ p, p = m - 1 - k := ⟨_, rfl⟩
        rw [← hp] at hcell l1 l2 ⊢
        replace hp := Lib.hid hp
        clear hy hc0 e h h'
        go_wp2_with (go_at_call 24; refine hm1.out.mono ?_; rintro e w2 ⟨A2, c2, rfl, hv2, hb2⟩; have hcell := (hb2.cell (p := ⟨ab, ao + p, none⟩) (Nat.lt_of_lt_of_le hlt0 hb.size)).trans hcell)
        go_roundw
        case rel => exact ⟨k + 1, _, by omega, rfl, by have := hp.out; omega, A2, c2, rfl, hv2.mono hb.size, below_step hb hb2⟩
        case measure => simp [intOf]
      · rw [hy] at hcell
        have e := Lib.hid (PowV.next1 (n := n) (x := x) g1 hy)
        have hm1 := Lib.hid hm1
        obtain ⟨p, hp⟩ : ∃ p, p = m - 1 - k := ⟨_, rfl⟩
        rw [← hp] at hcell l1 l2 ⊢
        replace hp := Lib.hid hp
        clear hy hc0 h h'
        go_wp2_with (first | (go_at_call 24; (with_reducible refine hm1.out.mono ?_); rintro e w2 ⟨A2, c2, rfl, hv2, hb2⟩; have hcell := (hb2.cell (p := ⟨ab, ao + p, none⟩) (Nat.lt_of_lt_of_le hlt0 hb.size)).trans hcell) | (go_at_call 24; (with_reducible refine (rMul_any _ _ _ _ _ _ _ _ _ hv2.rd (hr.step hb2) hn (by omega)).mono ?_); rintro e w3 ⟨A3, c3, rfl, hv3, hb3⟩))
        go_roundw
        case rel => exact ⟨k + 1, _, by omega, rfl, by have := hp.out; omega, A3, c3, rfl, by rw [← e.out]; exact hv3.mono (Nat.le_trans hb.size hb2.size), below_step (below_step hb hb2) hb3⟩
        case measure => simp [intOf]
    · obtain rfl : k = m := by omega
      obtain rfl : j = -1 := by omega
      rw [PowV.last] at hv
      clear hj
      go_wp2
      go_ret
      exact ⟨A', c', rfl, hv, hb⟩
end Go.Proofs.Ytaedfoblniadfaa
