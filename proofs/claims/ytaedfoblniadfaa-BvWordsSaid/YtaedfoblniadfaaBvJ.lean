/-
  Contracts of the reference's comparisons and division: Cmp, less, Size, SCmp, divide, DivMod, SDivMod. Widths up to some thousands.
-/
import Derived.Test.YtaedfoblniadfaaBvI
namespace Go.Proofs.Ytaedfoblniadfaa
open Go Go.RowKit

theorem Tr.le {l x : Nat} (h : Tr l x) (hl : 0 < l) : 2 ^ (l - 1) ≤ x := by
  rcases h with h | h
  · omega
  · rcases Nat.lt_or_ge x (2 ^ (l - 1)) with h1 | h1
    · rw [high_bit h1 (Nat.le_refl _)] at h; cases h
    · exact h1
theorem Tr.lt {l m x y : Nat} (hx : x < 2 ^ l) (h : Tr m y) (hlm : l < m) : x < y := by
  have h1 := Tr.le h (by omega)
  have h2 := Nat.pow_le_pow_right (show 0 < 2 by decide) (show l ≤ m - 1 by omega)
  omega
set_option maxHeartbeats 1000000 in
theorem rCmp_any (A B : Option Addr) (n c x m d y : Nat) (w : World) (h : Rd w A n x) (h' : Rd w B m y) (hn : n ≤ 10000) (hm : m ≤ 10000) (hc : n ≤ c) (hd : m ≤ d) :
    Calls Try.prog 27 #[.slice A n c, .slice B m d] w fun e w' => e = .returned (.int .i64 (cmpI x y)) ∧ Below w.heap.size w w' := by
  have ca := Lib.hid (Trim_any A n c x w h hn hc)
  have cb : ∀ W, Rd W B m y → _ := fun W hW => Trim_any B m d y W hW hm hd
  have cb := Lib.hid cb
  go_enter Try.func27, Try.ntmps27
  go_wp2_with fail
  refine ca.out.mono ?_
  rintro e w1 ⟨l1, hl1, ht1, A1, c1, rfl, hv1, hb1⟩
  go_wp2_with fail
  refine (cb.out _ (h'.step hb1)).mono ?_
  rintro e w2 ⟨l2, hl2, ht2, A2, c2, rfl, hv2, hb2⟩
  have hb := below_step hb1 hb2
  have hr1 := hv1.rd.step hb2
  have hr2 := hv2.rd
  rcases Nat.lt_trichotomy l1 l2 with hlt | heq | hgt
  · have hxy : cmpI x y = -1 := by unfold cmpI; rw [if_pos (by have := Tr.lt hr1.1 ht2 hlt; omega)]
    have hxy := Lib.hid hxy
    have d0 : ((l1 : Int) == l2) = false := by simp; omega
    have d1 : decide ((l1 : Int) < l2) = true := by simp; omega
    clear ca cb h h' ht1 ht2 hv1 hv2 hr1 hr2
    go_wp2
    go_ret
    exact ⟨ret_i (by simp [hxy.out]), hb⟩
  · subst heq
    clear ca cb h h' ht1 ht2 hv1 hv2 hb1 hb2
    go_wp2
    go_loopw [5] (fun i wr => ∃ (k : Nat) (j : Int), k ≤ l1 ∧ i = .int .i64 j ∧ j = (l1 : Int) - 1 - k ∧ x / 2 ^ (l1 - k) = y / 2 ^ (l1 - k) ∧ ∃ q, wr = w2.drewN q) (fun i _ => (intOf i + 1).toNat)
    case atStart => exact ⟨0, _, Nat.zero_le _, rfl, by omega, by rw [Nat.sub_zero, Nat.div_eq_of_lt hr1.1, Nat.div_eq_of_lt hr2.1], 0, rfl⟩
    case round =>
      obtain ⟨k, j, hk, rfl, hj, he, q, rfl⟩ := hrel
      by_cases g1 : k < l1
      · obtain ⟨p, rfl⟩ : ∃ p : Nat, j = p := ⟨l1 - 1 - k, by omega⟩
        have hp : p = l1 - 1 - k := by omega
        have e1 := div_step x p
        have e2 := div_step y p
        rw [show p + 1 = l1 - k by omega] at e1 e2
        rw [← he] at e2
        obtain ⟨ab, ao, rfl, hl1', hc1'⟩ := hr1.at_ (show p < l1 by omega)
        obtain ⟨bb, bo, rfl, hl2', hc2'⟩ := hr2.at_ (show p < l1 by omega)
        obtain ⟨bx, hbx⟩ : ∃ b, b = x.testBit p := ⟨_, rfl⟩
        obtain ⟨bz, hbz⟩ : ∃ b, b = y.testBit p := ⟨_, rfl⟩
        rw [← hbx] at hc1' e1
        rw [← hbz] at hc2' e2
        have l0 : (0 : Int) ≤ (p : Int) := by omega
        have l1' : (p : Int) < l1 := by omega
        have hlt : bx = true → bz = false → y < x := fun a b => by
          subst a b
          rcases Nat.lt_or_ge y x with h1 | h1
          · exact h1
          · have := Nat.div_le_div_right (c := 2 ^ p) h1; simp at e1 e2; omega
        have hgt : bx = false → bz = true → x < y := fun a b => by
          subst a b
          rcases Nat.lt_or_ge x y with h1 | h1
          · exact h1
          · have := Nat.div_le_div_right (c := 2 ^ p) h1; simp at e1 e2; omega
        have heq : bx = bz → x / 2 ^ (l1 - (k + 1)) = y / 2 ^ (l1 - (k + 1)) := fun a => by
          rw [show l1 - (k + 1) = p by omega, e1, e2, a]
        have H := Lib.hid (And.intro hlt (And.intro hgt (And.intro heq hp)))
        clear hlt hgt heq e1 e2 he hbx hbz hr1 hr2 hj hp
        cases bx <;> cases bz
        all_goals
          go_wp2
          go_quiet (fail)
          go_wp2
        · go_roundw
          case rel => exact ⟨k + 1, _, by omega, rfl, by have := H.out.2.2.2; omega, H.out.2.2.1 (by first | trivial | rfl), _, by first | rfl | exact World.drewN_drewN _ _ _⟩
          case measure => simp [intOf]
        · go_ret
          exact ⟨ret_i (by have := H.out.2.1 (by first | trivial | rfl) (by first | trivial | rfl); unfold cmpI; rw [if_pos (by omega)]), by first | exact below_drewN (below_drewN hb _) _ | exact below_drewN hb _⟩
        · go_ret
          exact ⟨ret_i (by have := H.out.1 (by first | trivial | rfl) (by first | trivial | rfl); unfold cmpI; rw [if_neg (by omega), if_neg (by omega)]), by first | exact below_drewN (below_drewN hb _) _ | exact below_drewN hb _⟩
        · go_roundw
          case rel => exact ⟨k + 1, _, by omega, rfl, by have := H.out.2.2.2; omega, H.out.2.2.1 (by first | trivial | rfl), _, by first | rfl | exact World.drewN_drewN _ _ _⟩
          case measure => simp [intOf]
      · obtain rfl : k = l1 := by omega
        obtain rfl : j = -1 := by omega
        rw [Nat.sub_self, Nat.pow_zero, Nat.div_one, Nat.div_one] at he
        replace he := Lib.hid he
        clear hj
        go_wp2
        go_ret
        exact ⟨ret_i (by rw [he.out]; unfold cmpI; simp), below_drewN hb _⟩
  · have hxy : cmpI x y = 1 := by unfold cmpI; have := Tr.lt hr2.1 ht1 hgt; rw [if_neg (by omega), if_neg (by omega)]
    have hxy := Lib.hid hxy
    have d0 : ((l1 : Int) == l2) = false := by simp; omega
    have d1 : decide ((l1 : Int) < l2) = false := by simp; omega
    clear ca cb h h' ht1 ht2 hv1 hv2 hr1 hr2
    go_wp2
    go_ret
    exact ⟨ret_i (by simp [hxy.out]), hb⟩
theorem less_any (A B : Option Addr) (n c x m d y : Nat) (w : World) (h : Rd w A n x) (h' : Rd w B m y) (hn : n ≤ 10000) (hm : m ≤ 10000) (hc : n ≤ c) (hd : m ≤ d) :
    Calls Try.prog 72 #[.slice A n c, .slice B m d] w fun e w' => e = .returned (.bool (decide (x < y))) ∧ Below w.heap.size w w' := by
  have hz : decide (cmpI x y < 0) = decide (x < y) := by
    unfold cmpI
    by_cases h : x < y
    · rw [if_pos (by omega)]; simp [h]
    · rw [if_neg (by omega)]; split <;> simp [h]
  rw [← hz]
  have cc := Lib.hid (rCmp_any A B n c x m d y w h h' hn hm hc hd)
  clear hz h h'
  go_enter Try.func72, Try.ntmps72
  go_wp2_with (go_at_call 27; refine cc.out.mono ?_; rintro e w1 ⟨rfl, hb⟩)
  go_ret
  exact ⟨rfl, hb⟩
theorem size_any (A : Option Addr) (n c x : Nat) (w : World) (h : Rd w A n x) (hn : n ≤ 9000) (hc : n ≤ c) :
    Calls Try.prog 52 #[.slice A n c] w fun e w' => ∃ l, l ≤ n + 1 ∧ RetN w l (absv n x) e w' := by
  have hng := rNegative_any A n c x w h (by omega)
  unfold absv
  rcases e1 : neg n x with _ | _ <;> rw [e1] at hng
  · clear e1
    have ct := Lib.hid (Trim_any A n c x w h (by omega) hc)
    go_enter Try.func52, Try.ntmps52
    go_wp2_with (first | (go_at_call 51; refine hng.mono ?_; rintro e w1 ⟨rfl, rfl⟩) | (go_at_call 60; refine ct.out.mono ?_; rintro e w1 ⟨l, hl, _, A1, c1, rfl, hv, hb⟩))
    go_ret
    exact ⟨l, by omega, _, _, rfl, hv, hb⟩
  · clear e1
    have hx := Lib.hid h.1
    go_enter Try.func52, Try.ntmps52
    go_wp2_with (first | (go_at_call 51; refine hng.mono ?_; rintro e w1 ⟨rfl, rfl⟩) | (go_at_call 57; refine (power_any _ _ (by omega)).mono ?_; rintro e w1 ⟨A1, c1, rfl, hv1, hb1⟩) | (go_at_call 56; refine (minus_any _ _ _ _ _ _ _ _ _ hv1.rd (h.step hb1) (by omega) (by omega) (Nat.le_of_lt hx.out)).mono ?_; rintro e w2 ⟨A2, c2, rfl, hv2, hb2⟩))
    go_ret
    exact ⟨_, Nat.le_refl _, _, _, rfl, hv2.mono hb1.size, below_step hb1 hb2⟩
theorem cmp_nn {n x m y : Nat} (hx : x < 2 ^ n) (hy : y < 2 ^ m) (h : neg n x = true) (h' : neg m y = true) : cmpI (absv m y) (absv n x) = cmpI (sval n x) (sval m y) := by
  unfold absv
  rw [sval_neg h, sval_neg h', h, h']
  simp only [if_true]
  unfold cmpI
  have e1 : ((2 ^ m - y : Nat) : Int) < ((2 ^ n - x : Nat) : Int) ↔ (x : Int) - (2 ^ n : Nat) < (y : Int) - (2 ^ m : Nat) := by omega
  have e2 : ((2 ^ m - y : Nat) : Int) = ((2 ^ n - x : Nat) : Int) ↔ (x : Int) - (2 ^ n : Nat) = (y : Int) - (2 ^ m : Nat) := by omega
  simp only [e1, e2]
set_option maxHeartbeats 1000000 in
theorem rSCmp_any (A B : Option Addr) (n c x m d y : Nat) (w : World) (h : Rd w A n x) (h' : Rd w B m y) (hn : n ≤ 9000) (hm : m ≤ 9000) (hc : n ≤ c) (hd : m ≤ d) :
    Calls Try.prog 29 #[.slice A n c, .slice B m d] w fun e w' => e = .returned (.int .i64 (cmpI (sval n x) (sval m y))) ∧ Below w.heap.size w w' := by
  have c1 := rNegative_any A n c x w h (by omega)
  have c2 := rNegative_any B m d y w h' (by omega)
  have sa : ∀ W, Rd W A n x → _ := fun W hW => size_any A n c x W hW hn hc
  have sb : ∀ W, Rd W B m y → _ := fun W hW => size_any B m d y W hW hm hd
  have sa := Lib.hid sa
  have sb := Lib.hid sb
  rcases e1 : neg n x with _ | _ <;> rcases e2 : neg m y with _ | _ <;> rw [e1] at c1 <;> rw [e2] at c2
  · have e : cmpI (absv n x) (absv m y) = cmpI (sval n x) (sval m y) := by unfold absv; rw [sval_pos e1, sval_pos e2, e1, e2]; rfl
    rw [← e]
    clear e1 e2 e
    go_enter Try.func29, Try.ntmps29
    go_wp2_with (first | (go_at_call 51; (first | (with_reducible refine c1.mono ?_) | (with_reducible refine c2.mono ?_)); rintro e w1 ⟨rfl, rfl⟩) | (go_at_call 52; (first | ((with_reducible refine (sa.out _ h).mono ?_); rintro e w1 ⟨l1, hl1, A1, c1, rfl, hv1, hb1⟩) | ((with_reducible refine (sb.out _ (h'.step hb1)).mono ?_); rintro e w2 ⟨l2, hl2, A2, c2, rfl, hv2, hb2⟩))) | (go_at_call 27; refine (rCmp_any _ _ _ _ _ _ _ _ _ (hv1.rd.step hb2) hv2.rd (by omega) (by omega) hv1.le hv2.le).mono ?_; rintro e w3 ⟨rfl, hb3⟩))
    go_ret
    exact ⟨rfl, below_step (below_step hb1 hb2) hb3⟩
  · have c3 := Lib.hid (cmp_pn h'.1 e1 e2)
    clear e1 e2 h h'
    go_enter Try.func29, Try.ntmps29
    go_wp2_with (go_at_call 51; (first | (with_reducible refine c1.mono ?_) | (with_reducible refine c2.mono ?_)); rintro e w1 ⟨rfl, rfl⟩)
    go_ret
    exact ⟨ret_i c3.out.symm, Below.refl _ _⟩
  · have c3 := Lib.hid (cmp_np h.1 e1 e2)
    clear e1 e2 h h'
    go_enter Try.func29, Try.ntmps29
    go_wp2_with (go_at_call 51; (first | (with_reducible refine c1.mono ?_) | (with_reducible refine c2.mono ?_)); rintro e w1 ⟨rfl, rfl⟩)
    go_ret
    exact ⟨ret_i c3.out.symm, Below.refl _ _⟩
  · have e := cmp_nn h.1 h'.1 e1 e2
    rw [← e]
    clear e1 e2 e
    go_enter Try.func29, Try.ntmps29
    go_wp2_with (first | (go_at_call 51; (first | (with_reducible refine c1.mono ?_) | (with_reducible refine c2.mono ?_)); rintro e w1 ⟨rfl, rfl⟩) | (go_at_call 52; (first | ((with_reducible refine (sb.out _ h').mono ?_); rintro e w1 ⟨l1, hl1, A1, c1, rfl, hv1, hb1⟩) | ((with_reducible refine (sa.out _ (h.step hb1)).mono ?_); rintro e w2 ⟨l2, hl2, A2, c2, rfl, hv2, hb2⟩))) | (go_at_call 27; refine (rCmp_any _ _ _ _ _ _ _ _ _ (hv1.rd.step hb2) hv2.rd (by omega) (by omega) hv1.le hv2.le).mono ?_; rintro e w3 ⟨rfl, hb3⟩))
    go_ret
    exact ⟨rfl, below_step (below_step hb1 hb2) hb3⟩
end Go.Proofs.Ytaedfoblniadfaa
