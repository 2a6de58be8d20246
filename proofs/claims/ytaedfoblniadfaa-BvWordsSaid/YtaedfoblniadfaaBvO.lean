/-
  Contracts of the reference's SDivMod and shifts. Widths up to some thousands.
-/
import Derived.Test.YtaedfoblniadfaaBvK
namespace Go.Proofs.Ytaedfoblniadfaa
open Go Go.RowKit

set_option maxHeartbeats 1000000 in
theorem rSDivMod_any (A B : Option Addr) (n c x m d y : Nat) (w : World) (h : Rd w A n x) (h' : Rd w B m y) (hn : n ≤ 8000) (hm : m ≤ 8000) (hc : n ≤ c) (hd : m ≤ d) (hy : y ≠ 0) :
    Calls Try.prog 31 #[.slice A n c, .slice B m d] w (RetD w n (sq n x m y) (sr n x m y)) := by
  have ct := Lib.hid (trim_nz B m d y w h' (by omega) hd hy)
  have e0 : absv m y ≠ 0 := fun e => hy ((absv_zero h'.1).1 e)
  have hX := absv_lt h.1
  have sa : ∀ W, Rd W A n x → _ := fun W hW => size_any A n c x W hW (by omega) hc
  have sb : ∀ W, Rd W B m y → _ := fun W hW => size_any B m d y W hW (by omega) hd
  have na : ∀ W, Rd W A n x → _ := fun W hW => rNegative_any A n c x W hW (by omega)
  have nb : ∀ W, Rd W B m y → _ := fun W hW => rNegative_any B m d y W hW (by omega)
  unfold sq sr
  generalize absv n x = X at *
  generalize absv m y = Y at *
  have e1 : X / Y = (X / Y) % 2 ^ n := (Nat.mod_eq_of_lt (Nat.lt_of_le_of_lt (Nat.div_le_self _ _) hX)).symm
  have e2 : X % Y = (X % Y) % 2 ^ n := (Nat.mod_eq_of_lt (Nat.lt_of_le_of_lt (Nat.mod_le _ _) hX)).symm
  rw [e1, e2]
  clear e1 e2
  have sa := Lib.hid sa
  have sb := Lib.hid sb
  rcases e1 : neg n x with _ | _ <;> rcases e2 : neg m y with _ | _ <;> rw [e1] at na <;> rw [e2] at nb
  all_goals
    have na := Lib.hid na
    have nb := Lib.hid nb
    have e0 := Lib.hid e0
    clear e1 e2 hy hX
    go_enter Try.func31, Try.ntmps31
    go_wp2_with (first | (go_at_call 60; refine ct.out.mono ?_; rintro e w1 ⟨l, hl0, A1, c1, rfl, hv1, hb1⟩; have ra := h.step hb1; have rb := h'.step hb1) | (go_at_call 52; (first | ((with_reducible refine (sa.out _ ra).mono ?_); rintro e w2 ⟨l2, hl2, A2, c2, rfl, hv2, hb2⟩; have rb := rb.step hb2) | ((with_reducible refine (sb.out _ rb).mono ?_); rintro e w3 ⟨l3, hl3, A3, c3, rfl, hv3, hb3⟩))) | (go_at_call 62; refine (divide_any _ _ _ _ _ _ _ _ _ (hv2.rd.step hb3) hv3.rd (by omega) (by omega) hv3.le e0.out).mono ?_; rintro e w4 ⟨A4, c4, A5, c5, rfl, hv4, hv5, hb4⟩) | (go_at_call 50; (first | ((with_reducible refine (rFit_any _ _ _ _ _ _ hv4.rd (by omega) (by omega)).mono ?_); rintro e w6 ⟨A6, c6, rfl, hv6, hb6⟩) | ((with_reducible refine (rFit_any _ _ _ _ _ _ (hv5.step hb6).rd (by omega) (by omega)).mono ?_); rintro e w7 ⟨A7, c7, rfl, hv7, hb7⟩; have hb := below_step (below_step (below_step (below_step (below_step hb1 hb2) hb3) hb4) hb6) hb7; have ra := h.step hb; have rb := h'.step hb; have hv6 := hv6.step hb7; have hs6 := Nat.le_trans (Nat.le_trans hb1.size hb2.size) (Nat.le_trans hb3.size hb4.size); have hs7 := Nat.le_trans hs6 hb6.size))) | (go_at_call 51; (first | (with_reducible refine (na.out _ ra).mono ?_) | (with_reducible refine (nb.out _ rb).mono ?_)); rintro e w8 ⟨rfl, rfl⟩) | (go_at_call 23; (first | ((with_reducible refine (rNeg_any _ _ _ _ _ hv6.rd (by omega)).mono ?_); rintro e w9 ⟨A9, c9, rfl, hv9, hb9⟩; have ra := ra.step hb9) | ((with_reducible refine (rNeg_any _ _ _ _ _ hv7.rd (by omega)).mono ?_); rintro e w10 ⟨A10, c10, rfl, hv10, hb10⟩) | ((with_reducible refine (rNeg_any _ _ _ _ _ (hv7.step hb9).rd (by omega)).mono ?_); rintro e w10 ⟨A10, c10, rfl, hv10, hb10⟩))))
    go_ret3
  · exact ⟨_, _, _, _, rfl, hv6.mono hs6, hv7.mono hs7, hb⟩
  · exact ⟨_, _, _, _, rfl, hv9.mono hb.size, (hv7.step hb9).mono hs7, below_step hb hb9⟩
  · exact ⟨_, _, _, _, rfl, (hv9.mono hb.size).step hb10, hv10.mono (Nat.le_trans hb.size hb9.size), below_step (below_step hb hb9) hb10⟩
  · exact ⟨_, _, _, _, rfl, (hv6.mono hs6).step hb10, hv10.mono hb.size, below_step hb hb10⟩

def RShR (n x m : Nat) (fill : Bool) (w : World) (v i : Value) (wr : World) : Prop :=
  ∃ k, k ≤ n ∧ i = .int .i64 k ∧ ∃ A' c', v = .slice A' k c' ∧ Nw wr w.heap.size A' k c' (mkn k fun i => if i + m < n then x.testBit (i + m) else fill) ∧ Below w.heap.size w wr
theorem shifted_any (A : Option Addr) (n c x : Nat) (m : Int) (fill : Bool) (w : World) (h : Rd w A n x) (hn : n ≤ 10000) (hm : 0 ≤ m) :
    Calls Try.prog 67 #[.slice A n c, .int .i64 m, .bool fill] w (RetN w n (shv n x (lim m n) fill)) := by
  have hL : lim m n ≤ n := by unfold lim; omega
  have hL2 : ∀ k : Nat, k < n → ((n : Int) - k ≤ m ↔ ¬ k + lim m n < n) := fun k hk => by unfold lim; omega
  have hL3 : ∀ k : Nat, k + lim m n < n → (lim m n : Int) = m := fun k hk => by unfold lim at hk ⊢; omega
  unfold shv
  generalize lim m n = L at *
  replace hL2 := Lib.hid hL2
  replace hL3 := Lib.hid hL3
  go_enter Try.func67, Try.ntmps67
  go_wp2
  go_loopw [7, 8] (fun v i wr => RShR n x L fill w v i wr) (fun _ i _ => n - (intOf i).toNat)
  case atStart => exact ⟨0, Nat.zero_le _, rfl, none, 0, rfl, Nw.nil _ _, Below.refl _ _⟩
  case round =>
    obtain ⟨k, hk, rfl, A', c', rfl, hv, hb⟩ := hrel
    by_cases g1 : k < n
    · have hr := h.step hb
      have d1 : decide ((k : Int) < n) = true := by simpa using g1
      have hi := hL2.out k g1
      by_cases g2 : k + L < n
      · have d2 : decide ((n : Int) - k ≤ m) = false := by simp; have := mt hi.1; omega
        have em := hL3.out k g2
        have cA : Calls Try.prog 69 #[.slice A n c, .int .i64 ((k : Int) + m)] wr (fun e w' => e = .returned (.bool (if k + L < n then x.testBit (k + L) else fill)) ∧ wr = w') := by
          rw [← em, show (k : Int) + L = ((k + L : Nat) : Int) by omega, if_pos g2]; exact rAt_any _ _ _ _ _ _ hr (by omega) (by omega)
        have lm : m ≤ 10000 := by omega
        obtain ⟨bx, hbx⟩ : ∃ b, b = (if k + L < n then x.testBit (k + L) else fill) := ⟨_, rfl⟩
        have e : mkn (k + 1) (fun i => if i + L < n then x.testBit (i + L) else fill) = mkn k (fun i => if i + L < n then x.testBit (i + L) else fill) + 2 ^ k * bx.toNat := by rw [hbx]; rfl
        rw [← hbx] at cA
        have e := Lib.hid e
        have cA := Lib.hid cA
        clear hbx em hi
        go_wp2_with (first | (go_at_call 69; refine cA.out.mono ?_; rintro e w1 ⟨rfl, rfl⟩) | (at_builtin; refine wpList_push rfl (.tmp 25) (.tmp 31) rfl rfl hb rfl hv _ rfl _ rfl (by omega) ?_; intro A1 c1 w1 hv1 hb1))
        go_roundw
        case rel => exact ⟨k + 1, by omega, by go_num, A1, c1, rfl, by rw [e.out]; exact hv1, hb1⟩
        case measure => simp [intOf]; omega
      · have d2 : decide ((n : Int) - k ≤ m) = true := by simp; exact hi.2 g2
        have e : mkn (k + 1) (fun i => if i + L < n then x.testBit (i + L) else fill) = mkn k (fun i => if i + L < n then x.testBit (i + L) else fill) + 2 ^ k * fill.toNat := by
          show _ + 2 ^ k * (if k + L < n then x.testBit (k + L) else fill).toNat = _
          rw [if_neg g2]
        have e := Lib.hid e
        clear hi g2
        go_wp2_with (at_builtin; refine wpList_push rfl (.tmp 21) (.tmp 23) rfl rfl hb rfl hv _ rfl _ rfl (by omega) ?_; intro A1 c1 w1 hv1 hb1)
        go_roundw
        case rel => exact ⟨k + 1, by omega, by go_num, A1, c1, rfl, by rw [e.out]; exact hv1, hb1⟩
        case measure => simp [intOf]; omega
    · obtain rfl : k = n := by omega
      go_wp2
      go_ret
      exact ⟨_, _, rfl, hv, hb⟩
theorem rShr_any (A : Option Addr) (n c x : Nat) (m : Int) (w : World) (h : Rd w A n x) (hn : n ≤ 10000) :
    Calls Try.prog 40 #[.slice A n c, .int .i64 m] w (RetN w n (shv n x (lim m n) false)) := by
  have h0 : lim 0 n = 0 := by unfold lim; omega
  by_cases hm : 0 < m
  · have cs := Lib.hid (shifted_any A n c x m false w h hn (by omega))
    go_enter Try.func40, Try.ntmps40
    go_wp2_with ((go_at_call 67; refine cs.out.mono ?_; rintro e w1 ⟨A1, c1, rfl, hv, hb⟩))
    go_ret
    exact ⟨_, _, rfl, hv, hb⟩
  · have cs := shifted_any A n c x 0 false w h hn (by decide)
    rw [show lim 0 n = lim m n by unfold lim; omega] at cs
    replace cs := Lib.hid cs
    clear h0
    rcases (show m = 0 ∨ m < 0 by omega) with h1 | h1
    · subst h1
      clear hm
      go_enter Try.func40, Try.ntmps40
      go_wp2_with ((go_at_call 67; refine cs.out.mono ?_; rintro e w1 ⟨A1, c1, rfl, hv, hb⟩))
      go_ret
      exact ⟨_, _, rfl, hv, hb⟩
    · clear hm
      go_enter Try.func40, Try.ntmps40
      go_wp2_with ((go_at_call 67; refine cs.out.mono ?_; rintro e w1 ⟨A1, c1, rfl, hv, hb⟩))
      go_ret
      exact ⟨_, _, rfl, hv, hb⟩
theorem rSar_any (A : Option Addr) (n c x : Nat) (m : Int) (w : World) (h : Rd w A n x) (hn : n ≤ 10000) :
    Calls Try.prog 41 #[.slice A n c, .int .i64 m] w (RetN w n (shv n x (lim m n) (neg n x))) := by
  have hng := rNegative_any A n c x w h (by omega)
  generalize neg n x = b at *
  have h0 : lim 0 n = 0 := by unfold lim; omega
  by_cases hm : 0 < m
  · have cs := Lib.hid (shifted_any A n c x m b w h hn (by omega))
    go_enter Try.func41, Try.ntmps41
    go_wp2_with (first | (go_at_call 51; refine hng.mono ?_; rintro e w1 ⟨rfl, rfl⟩) | (go_at_call 67; refine cs.out.mono ?_; rintro e w1 ⟨A1, c1, rfl, hv, hb⟩))
    go_ret
    exact ⟨_, _, rfl, hv, hb⟩
  · have cs := shifted_any A n c x 0 b w h hn (by decide)
    rw [show lim 0 n = lim m n by unfold lim; omega] at cs
    replace cs := Lib.hid cs
    clear h0
    rcases (show m = 0 ∨ m < 0 by omega) with h1 | h1
    · subst h1
      clear hm
      go_enter Try.func41, Try.ntmps41
      go_wp2_with (first | (go_at_call 51; refine hng.mono ?_; rintro e w1 ⟨rfl, rfl⟩) | (go_at_call 67; refine cs.out.mono ?_; rintro e w1 ⟨A1, c1, rfl, hv, hb⟩))
      go_ret
      exact ⟨_, _, rfl, hv, hb⟩
    · clear hm
      go_enter Try.func41, Try.ntmps41
      go_wp2_with (first | (go_at_call 51; refine hng.mono ?_; rintro e w1 ⟨rfl, rfl⟩) | (go_at_call 67; refine cs.out.mono ?_; rintro e w1 ⟨A1, c1, rfl, hv, hb⟩))
      go_ret
      exact ⟨_, _, rfl, hv, hb⟩
end Go.Proofs.Ytaedfoblniadfaa
