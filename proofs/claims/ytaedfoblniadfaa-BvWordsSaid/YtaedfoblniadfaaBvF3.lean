/-
  Contracts of Uint and Int of the reference. Widths up to some thousands.
-/
import Derived.Test.YtaedfoblniadfaaBvF2
import Derived.Test.YtaedfoblniadfaaBvJ
namespace Go.Proofs.Ytaedfoblniadfaa
open Go Go.RowKit

def RuiR (l x : Nat) (v i : Value) : Prop := ∃ (k : Nat) (j : Int) (N : Nat), k ≤ l ∧ i = .int .i64 j ∧ j = (l : Int) - 1 - k ∧ v = .int .u64 (N : Int) ∧ N = (x / 2 ^ (l - k)) % 2 ^ 64
theorem rUint_any (A : Option Addr) (n c x : Nat) (w : World) (h : Rd w A n x) (hn : n ≤ 10000) (hc : n ≤ c) :
    Calls Try.prog 43 #[.slice A n c] w fun e w' => e = .returned (.tuple #[.int .u64 (uVal x), .bool (uOk x)]) ∧ Below w.heap.size w w' := by
  have ct := Lib.hid (Trim_any A n c x w h hn hc)
  go_enter Try.func43, Try.ntmps43
  go_wp2_with (go_at_call 60; refine ct.out.mono ?_; rintro e w1 ⟨l, hl, ht, A1, c1, rfl, hv, hb⟩)
  have hr := hv.rd
  clear ct h
  go_loop [4, 5] (fun v i => RuiR l x v i) (fun _ i => (intOf i + 1).toNat)
  case atStart => exact ⟨0, _, 0, Nat.zero_le _, rfl, by omega, rfl, by rw [Nat.sub_zero, Nat.div_eq_of_lt hr.1]⟩
  case round =>
    obtain ⟨k, j, N, hk, rfl, hj, rfl, hN⟩ := hrel
    by_cases g1 : k < l
    · obtain ⟨p, rfl⟩ : ∃ p : Nat, j = p := ⟨l - 1 - k, by omega⟩
      have hp : p = l - 1 - k := by omega
      obtain ⟨ab, ao, rfl, hlt, hcell⟩ := hr.at_ (show p < l by omega)
      have l0 : (0 : Int) ≤ p := by omega
      have l1 : (p : Int) < l := by omega
      have hst := div_step x p
      rw [show p + 1 = l - k by omega] at hst
      have hN64 : N < 2 ^ 64 := by rw [hN]; exact mod_lt' _ _
      have hnx : (x / 2 ^ p) % 2 ^ 64 = (2 * N + (x.testBit p).toNat) % 2 ^ 64 := by rw [hst, hN]; generalize x / 2 ^ (l - k) = Z; omega
      rcases hbx : x.testBit p with _ | _ <;> rw [hbx] at hcell hnx
      · have hH := Lib.hid (And.intro hnx hp)
        clear hN hst hnx hbx hp hj
        go_wp2
        go_round
        case rel => exact ⟨k + 1, _, (2 * N) % 2 ^ 64, by omega, rfl, by have := hH.out.2; omega, by congr 1; rw [IntKind.wrap_u64]; omega, by rw [show l - (k + 1) = p by have := hH.out.2; omega, hH.out.1]; rfl⟩
        case measure => simp [intOf]
      · have hH := Lib.hid (And.intro hnx hp)
        clear hN hst hnx hbx hp hj
        go_wp2
        go_round
        case rel => exact ⟨k + 1, _, (2 * N + 1) % 2 ^ 64, by omega, rfl, by have := hH.out.2; omega, by congr 1; rw [IntKind.wrap_u64, IntKind.wrap_u64]; omega, by rw [show l - (k + 1) = p by have := hH.out.2; omega, hH.out.1]; rfl⟩
        case measure => simp [intOf]
    · obtain rfl : k = l := by omega
      obtain rfl : j = -1 := by omega
      rw [Nat.sub_self, Nat.pow_zero, Nat.div_one] at hN
      have hx := hr.1
      rcases Nat.lt_or_ge 64 k with h64 | h64
      · have hge : ¬ x < 2 ^ 64 := by
          have h1 := Tr.le ht (by omega)
          have h2 := Nat.pow_le_pow_right (show 0 < 2 by decide) (show 64 ≤ k - 1 by omega)
          omega
        have e1 : uVal x = 0 := if_neg hge
        have e2 : uOk x = false := decide_eq_false hge
        have e := Lib.hid (And.intro e1 e2)
        have d4 : decide ((64 : Int) < k) = true := by simp; omega
        clear hj hN hge e1 e2
        go_wp2
        go_ret2
        exact ⟨by rw [e.out.1, e.out.2]; rfl, hb⟩
      · have hlt : x < 2 ^ 64 := Nat.lt_of_lt_of_le hx (Nat.pow_le_pow_right (by decide) h64)
        have e1 : uVal x = N := (if_pos hlt).trans (by rw [hN, Nat.mod_eq_of_lt hlt])
        have e2 : uOk x = true := decide_eq_true hlt
        have e := Lib.hid (And.intro e1 e2)
        have d4 : decide ((64 : Int) < k) = false := by simp; omega
        clear hj hN hlt e1 e2
        go_wp2
        go_ret2
        exact ⟨by rw [e.out.1, e.out.2]; rfl, hb⟩
set_option maxRecDepth 20000 in
theorem rInt_any (A : Option Addr) (n c x : Nat) (w : World) (h : Rd w A n x) (hn : n ≤ 8000) (hc : n ≤ c) :
    Calls Try.prog 45 #[.slice A n c] w fun e w' => e = .returned (.tuple #[.int .i64 (iVal n x), .bool (iOk n x)]) ∧ Below w.heap.size w w' := by
  have cs := Lib.hid (size_any A n c x w h (by omega) hc)
  have hng : ∀ W, Rd W A n x → _ := fun W hW => rNegative_any A n c x W hW (by omega)
  have hs := sval_abs h.1
  have hxl := h.1
  obtain ⟨X, hX⟩ : ∃ X, X = absv n x := ⟨_, rfl⟩
  rw [← hX] at cs hs
  rcases Nat.lt_or_ge X (2 ^ 64) with h64 | h64
  · have e1 : uVal X = X := if_pos h64
    have e2 : uOk X = true := decide_eq_true h64
    have hu : ∀ (A : Option Addr) (n c : Nat) W, Rd W A n X → n ≤ 10000 → n ≤ c → Calls Try.prog 43 #[.slice A n c] W fun e w' => e = .returned (.tuple #[.int .u64 X, .bool true]) ∧ Below W.heap.size W w' := fun A n c W h1 h2 h3 => by
      have := rUint_any A n c X W h1 h2 h3; rwa [e1, e2] at this
    have hu := Lib.hid hu
    clear e1 e2
    rcases e1 : neg n x with _ | _ <;> rw [e1] at hng hs
    · simp only [Bool.false_eq_true, if_false] at hs
      replace hng := Lib.hid hng
      rcases Nat.lt_or_ge X (2 ^ 63) with h63 | h63
      · skip
        have hyes : iFit n x := ⟨by rw [hs]; omega, by rw [hs]; omega⟩
        have f1 : iVal n x = X := (if_pos hyes).trans hs
        have f2 : iOk n x = true := decide_eq_true hyes
        have e := Lib.hid (And.intro f1 f2)
        have b1 : (X : Int) < 9223372036854775808 := by omega
        have b0 : (0 : Int) ≤ X := by omega
        have d1 : decide ((9223372036854775808 : Int) ≤ X) = false := by simp; omega
        have d2 : decide ((9223372036854775808 : Int) < X) = false := by simp; omega
        clear hyes f1 f2 hs e1 hX h63 h64 hxl
        go_enter Try.func45, Try.ntmps45
        go_wp2_with (first | (go_at_call 52; refine cs.out.mono ?_; rintro e w1 ⟨l, hl, A1, c1, rfl, hv1, hb1⟩) | (go_at_call 43; refine (hu.out _ _ _ _ hv1.rd (by omega) hv1.le).mono ?_; rintro e w2 ⟨rfl, hb2⟩; have hr2 := h.step (below_step hb1 hb2)) | (go_at_call 51; refine (hng.out _ hr2).mono ?_; rintro e w3 ⟨rfl, rfl⟩))
        go_ret2
        exact ⟨by rw [e.out.1, e.out.2]; rfl, below_step hb1 hb2⟩
      · skip
        have hno : ¬ iFit n x := by
          rintro ⟨q1, q2⟩
          rw [hs] at q1 q2
          omega
        have f1 : iVal n x = 0 := if_neg hno
        have f2 : iOk n x = false := decide_eq_false hno
        have e := Lib.hid (And.intro f1 f2)
        have b1 : (X : Int) < 18446744073709551616 := by omega
        have b0 : (0 : Int) ≤ X := by omega
        have d1 : decide ((9223372036854775808 : Int) ≤ X) = true := by simp; omega
        clear hno f1 f2 hs e1 hX h63 h64 hxl
        go_enter Try.func45, Try.ntmps45
        go_wp2_with (first | (go_at_call 52; refine cs.out.mono ?_; rintro e w1 ⟨l, hl, A1, c1, rfl, hv1, hb1⟩) | (go_at_call 43; refine (hu.out _ _ _ _ hv1.rd (by omega) hv1.le).mono ?_; rintro e w2 ⟨rfl, hb2⟩; have hr2 := h.step (below_step hb1 hb2)) | (go_at_call 51; refine (hng.out _ hr2).mono ?_; rintro e w3 ⟨rfl, rfl⟩))
        go_ret2
        exact ⟨by rw [e.out.1, e.out.2]; rfl, below_step hb1 hb2⟩
    · simp only [if_true] at hs
      replace hng := Lib.hid hng
      rcases Nat.lt_or_ge (2 ^ 63) X with h63 | h63
      · skip
        have hno : ¬ iFit n x := by
          rintro ⟨q1, q2⟩
          rw [hs] at q1 q2
          omega
        have f1 : iVal n x = 0 := if_neg hno
        have f2 : iOk n x = false := decide_eq_false hno
        have e := Lib.hid (And.intro f1 f2)
        have b1 : (X : Int) < 18446744073709551616 := by omega
        have b0 : (0 : Int) ≤ X := by omega
        have d1 : decide ((9223372036854775808 : Int) < X) = true := by simp; omega
        clear hno f1 f2 hs e1 hX h63 h64 hxl
        go_enter Try.func45, Try.ntmps45
        go_wp2_with (first | (go_at_call 52; refine cs.out.mono ?_; rintro e w1 ⟨l, hl, A1, c1, rfl, hv1, hb1⟩) | (go_at_call 43; refine (hu.out _ _ _ _ hv1.rd (by omega) hv1.le).mono ?_; rintro e w2 ⟨rfl, hb2⟩; have hr2 := h.step (below_step hb1 hb2)) | (go_at_call 51; refine (hng.out _ hr2).mono ?_; rintro e w3 ⟨rfl, rfl⟩))
        go_ret2
        exact ⟨by rw [e.out.1, e.out.2]; rfl, below_step hb1 hb2⟩
      · have hX0 : 0 < X := by
          rw [hX]
          have h1 := absv_zero hxl
          have h2 : x ≠ 0 := by rintro rfl; simp [neg] at e1
          exact Nat.pos_of_ne_zero fun h3 => h2 (h1.1 h3)
        have hw := (show wrap64 (IntKind.u64.wrap (-(X : Int))) = -(X : Int) by rw [IntKind.wrap_u64]; unfold wrap64; omega)
        have hyes : iFit n x := ⟨by rw [hs]; omega, by rw [hs]; omega⟩
        have f1 : iVal n x = wrap64 (IntKind.u64.wrap (-(X : Int))) := (if_pos hyes).trans (hs.trans hw.symm)
        have f2 : iOk n x = true := decide_eq_true hyes
        have e := Lib.hid (And.intro f1 f2)
        have b1 : (X : Int) ≤ 9223372036854775808 := by omega
        have b0 : (0 : Int) < X := by omega
        have d2 : decide ((9223372036854775808 : Int) < X) = false := by simp; omega
        clear hw hyes f1 f2 hs e1 hX h63 h64 hxl
        go_enter Try.func45, Try.ntmps45
        go_wp2_with (first | (go_at_call 52; refine cs.out.mono ?_; rintro e w1 ⟨l, hl, A1, c1, rfl, hv1, hb1⟩) | (go_at_call 43; refine (hu.out _ _ _ _ hv1.rd (by omega) hv1.le).mono ?_; rintro e w2 ⟨rfl, hb2⟩; have hr2 := h.step (below_step hb1 hb2)) | (go_at_call 51; refine (hng.out _ hr2).mono ?_; rintro e w3 ⟨rfl, rfl⟩))
        go_ret2
        exact ⟨by rw [e.out.1, e.out.2]; rfl, below_step hb1 hb2⟩
  · have e1 : uVal X = 0 := if_neg (by omega)
    have e2 : uOk X = false := decide_eq_false (by omega)
    have hu : ∀ (A : Option Addr) (n c : Nat) W, Rd W A n X → n ≤ 10000 → n ≤ c → Calls Try.prog 43 #[.slice A n c] W fun e w' => e = .returned (.tuple #[.int .u64 0, .bool false]) ∧ Below W.heap.size W w' := fun A n c W h1 h2 h3 => by
      have := rUint_any A n c X W h1 h2 h3; rwa [e1, e2] at this
    have hu := Lib.hid hu
    have hng := Lib.hid hng
    have hno : ¬ iFit n x := by
      rintro ⟨q1, q2⟩
      rw [hs] at q1 q2
      cases hq : neg n x <;> rw [hq] at q1 q2 <;> simp only [Bool.false_eq_true, if_false, if_true] at q1 q2 <;> omega
    have f1 : iVal n x = 0 := if_neg hno
    have f2 : iOk n x = false := decide_eq_false hno
    have e := Lib.hid (And.intro f1 f2)
    clear hno f1 f2 hs e1 e2 hX h64 hxl
    go_enter Try.func45, Try.ntmps45
    go_wp2_with (first | (go_at_call 52; refine cs.out.mono ?_; rintro e w1 ⟨l, hl, A1, c1, rfl, hv1, hb1⟩) | (go_at_call 43; refine (hu.out _ _ _ _ hv1.rd (by omega) hv1.le).mono ?_; rintro e w2 ⟨rfl, hb2⟩; have hr2 := h.step (below_step hb1 hb2)) | (go_at_call 51; refine (hng.out _ hr2).mono ?_; rintro e w3 ⟨rfl, rfl⟩))
    go_ret2
    exact ⟨by rw [e.out.1, e.out.2]; rfl, below_step hb1 hb2⟩
end Go.Proofs.Ytaedfoblniadfaa
