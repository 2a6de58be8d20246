/-
  Contracts of the reference's arithmetic: Add, Neg, Sub, Mul, Pow, Cmp, Size, SCmp. Widths up to a thousand.
  Contracts of the reference's comparisons and division: Cmp, less, Size, SCmp, divide, DivMod, SDivMod. Widths up to some thousands.
  Contracts of the reference's division: divide, DivMod, SDivMod. Widths up to some thousands.
  Contracts of the reference's SDivMod and shifts. Widths up to some thousands.
  The plain mathematics of the signed division. No conditions; nothing of the program.
  Contracts of FromInt, Uint and Int of the program. Widths up to some thousands.
  Contracts of Uint and Int of the reference. Widths up to some thousands.
-/
import Derived.Test.YtognpmggfplekaaGreatDoorPaQf

set_option maxRecDepth 100000
namespace Go.Proofs.YtognpmggfplekaaGreatDoor.B
open Go Go.RowKit

theorem rAdd_any (A B : Option Addr) (n c x m d y : Nat) (w : World) (h : Rd w A n x) (h' : Rd w B m y) (hn : n ≤ 10000) (hm : m ≤ 10000) :
    Calls Tryz.prog 183 #[.slice A n c, .slice B m d] w (RetN w n ((x + y) % 2 ^ n)) := by
  go_enter Tryz.func183, Tryz.ntmps183
  go_wp2_with (first | (go_at_call 215; refine (rsum_any _ _ _ _ _ _ _ _ _ h h' hn hm).mono ?_; rintro e w1 ⟨l, hl, A1, c1, rfl, hv1, hb1⟩) | (go_at_call 180; refine (rFit_any _ _ _ _ _ _ hv1.rd (by omega) (by omega)).mono ?_; rintro e w2 ⟨A2, c2, rfl, hv2, hb2⟩))
  go_ret
  exact ⟨_, _, rfl, hv2.mono hb1.size, below_step hb1 hb2⟩
theorem rNeg_any (A : Option Addr) (n c x : Nat) (w : World) (h : Rd w A n x) (hn : n ≤ 9000) :
    Calls Tryz.prog 216 #[.slice A n c] w (RetN w n (subv n 0 x)) := by
  have hx := h.1
  have e : subv n 0 x = (2 ^ n - x) % 2 ^ n := by unfold subv; rw [Nat.mod_eq_of_lt hx, Nat.zero_add]
  rw [e]
  clear e
  go_enter Tryz.func216, Tryz.ntmps216
  go_wp2_with (first | (go_at_call 212; refine (power_any _ _ (by omega)).mono ?_; rintro e w1 ⟨A1, c1, rfl, hv1, hb1⟩) | (go_at_call 211; refine (minus_any _ _ _ _ _ _ _ _ _ hv1.rd (h.step hb1) (by omega) (by omega) (Nat.le_of_lt hx)).mono ?_; rintro e w2 ⟨A2, c2, rfl, hv2, hb2⟩) | (go_at_call 180; refine (rFit_any _ _ _ _ _ _ hv2.rd (by omega) (by omega)).mono ?_; rintro e w3 ⟨A3, c3, rfl, hv3, hb3⟩))
  go_ret
  exact ⟨_, _, rfl, hv3.mono (Nat.le_trans hb1.size hb2.size), below_step (below_step hb1 hb2) hb3⟩
theorem rSub_any (A B : Option Addr) (n c x m d y : Nat) (w : World) (h : Rd w A n x) (h' : Rd w B m y) (hn : n ≤ 9000) (hm : m ≤ 9000) :
    Calls Tryz.prog 184 #[.slice A n c, .slice B m d] w (RetN w n (subv n x y)) := by
  have e : subv n x y = (x + subv n 0 (y % 2 ^ n)) % 2 ^ n := by unfold subv; rw [Nat.zero_add, Nat.mod_mod, Nat.add_mod_mod]
  rw [e]
  clear e
  go_enter Tryz.func184, Tryz.ntmps184
  go_wp2_with (first | (go_at_call 180; refine (rFit_any _ _ _ _ _ _ h' (by omega) (by omega)).mono ?_; rintro e w1 ⟨A1, c1, rfl, hv1, hb1⟩) | (go_at_call 216; refine (rNeg_any _ _ _ _ _ hv1.rd hn).mono ?_; rintro e w2 ⟨A2, c2, rfl, hv2, hb2⟩) | (go_at_call 183; refine (rAdd_any _ _ _ _ _ _ _ _ _ (h.step (below_step hb1 hb2)) hv2.rd (by omega) (by omega)).mono ?_; rintro e w3 ⟨A3, c3, rfl, hv3, hb3⟩))
  go_ret
  exact ⟨_, _, rfl, hv3.mono (Nat.le_trans hb1.size hb2.size), below_step (below_step hb1 hb2) hb3⟩
theorem rMul_any (A B : Option Addr) (n c x m d y : Nat) (w : World) (h : Rd w A n x) (h' : Rd w B m y) (hn : n ≤ 2000) (hm : m ≤ 9000) :
    Calls Tryz.prog 185 #[.slice A n c, .slice B m d] w (RetN w n ((x * y) % 2 ^ n)) := by
  have e : (x * y) % 2 ^ n = (x * (y % 2 ^ n)) % 2 ^ n := by rw [Nat.mul_mod_mod]
  rw [e]
  clear e
  go_enter Tryz.func185, Tryz.ntmps185
  go_wp2_with (first | (go_at_call 180; ((with_reducible refine (rFit_any _ _ _ _ _ _ h' (by omega) (by omega)).mono ?_); rintro e w1 ⟨A1, c1, rfl, hv1, hb1⟩)) | (go_at_call 217; refine (times_any _ _ _ _ _ _ _ _ _ (h.step hb1) hv1.rd hn hn).mono ?_; rintro e w2 ⟨l, hl, A2, c2, rfl, hv2, hb2⟩) | (go_at_call 180; ((with_reducible refine (rFit_any _ _ _ _ _ _ hv2.rd (by omega) (by omega)).mono ?_); rintro e w3 ⟨A3, c3, rfl, hv3, hb3⟩)))
  go_ret
  exact ⟨_, _, rfl, hv3.mono (Nat.le_trans hb1.size hb2.size), below_step (below_step hb1 hb2) hb3⟩
def RPowR (n x y m : Nat) (w : World) (v i : Value) (wr : World) : Prop := ∃ (k : Nat) (j : Int), k ≤ m ∧ i = .int .i64 j ∧ j = (m : Int) - 1 - k ∧ ∃ A' c', v = .slice A' n c' ∧ Nw wr w.heap.size A' n c' (PowV n x y m k) ∧ Below w.heap.size w wr
theorem rPow_any (A B : Option Addr) (n c x m d y : Nat) (w : World) (h : Rd w A n x) (h' : Rd w B m y) (hn : n ≤ 2000) (hm : m ≤ 9000) :
    Calls Tryz.prog 177 #[.slice A n c, .slice B m d] w (RetN w n ((x ^ y) % 2 ^ n)) := by
  have o1 : Rd (w.alloc (.cells #[.bool true] 4)) (some ⟨w.heap.size, 0, none⟩) 1 1 := Rd.of_own (Own.new w _ _) (by decide)
  go_enter Tryz.func177, Tryz.ntmps177
  go_wp2_with (go_at_call 180; refine (rFit_any _ _ _ _ _ _ o1 (by omega) (by omega)).mono ?_; rintro e w1 ⟨A1, c1, rfl, hv1, hb1⟩)
  have hb0 := below_step (below_new (Below.refl w.heap.size w) (.cells #[.bool true] 4)) hb1
  go_loopw [5, 6] (fun v i wr => RPowR n x y m w v i wr) (fun _ i _ => (intOf i + 1).toNat)
  case atStart => exact ⟨0, _, Nat.zero_le _, rfl, by omega, A1, c1, rfl, by rw [PowV.zero h'.1]; exact hv1.mono (by simp), hb0⟩
  case round =>
    obtain ⟨k, j, hk, rfl, hj, A', c', rfl, hv, hb⟩ := hrel
    by_cases g1 : k < m
    · obtain ⟨p, rfl⟩ : ∃ p : Nat, j = p := ⟨m - 1 - k, by omega⟩
      obtain rfl : p = m - 1 - k := by omega
      clear hj
      obtain ⟨ab, ao, rfl, hlt0, hc0⟩ := h'.at_ (show m - 1 - k < m by omega)
      have hr := h.step hb
      have l1 : (0 : Int) ≤ ((m - 1 - k : Nat) : Int) := by omega
      have l2 : ((m - 1 - k : Nat) : Int) < m := by omega
      have hm1 := rMul_any A' A' n c' (PowV n x y m k) n c' (PowV n x y m k) wr hv.rd hv.rd hn (by omega)
      have hcell := (hb.cell (p := ⟨ab, ao + (m - 1 - k), none⟩) hlt0).trans hc0
      rcases hy : y.testBit (m - 1 - k) with _ | _
      · rw [hy] at hcell
        have e := PowV.next0 (n := n) (x := x) g1 hy
        rw [e] at hm1
        have hm1 := Lib.hid hm1
        obtain ⟨p, hp⟩ : ∃ p, p = m - 1 - k := ⟨_, rfl⟩
        rw [← hp] at hcell l1 l2 ⊢
        replace hp := Lib.hid hp
        clear hy hc0 e h h'
        go_wp2_with (go_at_call 185; refine hm1.out.mono ?_; rintro e w2 ⟨A2, c2, rfl, hv2, hb2⟩; have hcell := (hb2.cell (p := ⟨ab, ao + p, none⟩) (Nat.lt_of_lt_of_le hlt0 hb.size)).trans hcell)
        go_roundw
        case rel => exact ⟨k + 1, _, by omega, rfl, by have := hp.out; omega, A2, c2, rfl, hv2.mono hb.size, below_step hb hb2⟩
        case measure => simp [intOf]
      · rw [hy] at hcell
        have e := Lib.hid (PowV.next1 (n := n) (x := x) g1 hy)
        have hm1 := Lib.hid hm1
        obtain ⟨p, hp⟩ : ∃ p, p = m - 1 - k := ⟨_, rfl⟩
        rw [← hp] at hcell l1 l2 ⊢
        replace hp := Lib.hid hp
        clear hy hc0 h h'
        go_wp2_with (first | (go_at_call 185; (with_reducible refine hm1.out.mono ?_); rintro e w2 ⟨A2, c2, rfl, hv2, hb2⟩; have hcell := (hb2.cell (p := ⟨ab, ao + p, none⟩) (Nat.lt_of_lt_of_le hlt0 hb.size)).trans hcell) | (go_at_call 185; (with_reducible refine (rMul_any _ _ _ _ _ _ _ _ _ hv2.rd (hr.step hb2) hn (by omega)).mono ?_); rintro e w3 ⟨A3, c3, rfl, hv3, hb3⟩))
        go_roundw
        case rel => exact ⟨k + 1, _, by omega, rfl, by have := hp.out; omega, A3, c3, rfl, by rw [← e.out]; exact hv3.mono (Nat.le_trans hb.size hb2.size), below_step (below_step hb hb2) hb3⟩
        case measure => simp [intOf]
    · obtain rfl : k = m := by omega
      obtain rfl : j = -1 := by omega
      rw [PowV.last] at hv
      clear hj
      go_wp2
      go_ret
      exact ⟨A', c', rfl, hv, hb⟩

end Go.Proofs.YtognpmggfplekaaGreatDoor.B

namespace Go.Proofs.YtognpmggfplekaaGreatDoor.B
open Go Go.RowKit

theorem Tr.le {l x : Nat} (h : Tr l x) (hl : 0 < l) : 2 ^ (l - 1) ≤ x := by
  rcases h with h | h
  · omega
  · rcases Nat.lt_or_ge x (2 ^ (l - 1)) with h1 | h1
    · rw [high_bit h1 (Nat.le_refl _)] at h; cases h
    · exact h1
theorem Tr.lt {l m x y : Nat} (hx : x < 2 ^ l) (h : Tr m y) (hlm : l < m) : x < y := by
  have h1 := Tr.le h (by omega)
  have h2 := Nat.pow_le_pow_right (show 0 < 2 by decide) (show l ≤ m - 1 by omega)
  omega
set_option maxHeartbeats 1000000 in
theorem rCmp_any (A B : Option Addr) (n c x m d y : Nat) (w : World) (h : Rd w A n x) (h' : Rd w B m y) (hn : n ≤ 10000) (hm : m ≤ 10000) (hc : n ≤ c) (hd : m ≤ d) :
    Calls Tryz.prog 179 #[.slice A n c, .slice B m d] w fun e w' => e = .returned (.int .i64 (cmpI x y)) ∧ Below w.heap.size w w' := by
  have ca := Lib.hid (Trim_any A n c x w h hn hc)
  have cb : ∀ W, Rd W B m y → _ := fun W hW => Trim_any B m d y W hW hm hd
  have cb := Lib.hid cb
  go_enter Tryz.func179, Tryz.ntmps179
  go_wp2_with fail
  refine ca.out.mono ?_
  rintro e w1 ⟨l1, hl1, ht1, A1, c1, rfl, hv1, hb1⟩
  go_wp2_with fail
  refine (cb.out _ (h'.step hb1)).mono ?_
  rintro e w2 ⟨l2, hl2, ht2, A2, c2, rfl, hv2, hb2⟩
  have hb := below_step hb1 hb2
  have hr1 := hv1.rd.step hb2
  have hr2 := hv2.rd
  rcases Nat.lt_trichotomy l1 l2 with hlt | heq | hgt
  · have hxy : cmpI x y = -1 := by unfold cmpI; rw [if_pos (by have := Tr.lt hr1.1 ht2 hlt; omega)]
    have hxy := Lib.hid hxy
    have d0 : ((l1 : Int) == l2) = false := by simp; omega
    have d1 : decide ((l1 : Int) < l2) = true := by simp; omega
    clear ca cb h h' ht1 ht2 hv1 hv2 hr1 hr2
    go_wp2
    go_ret
    exact ⟨ret_i (by simp [hxy.out]), hb⟩
  · subst heq
    clear ca cb h h' ht1 ht2 hv1 hv2 hb1 hb2
    go_wp2
    go_loopw [5] (fun i wr => ∃ (k : Nat) (j : Int), k ≤ l1 ∧ i = .int .i64 j ∧ j = (l1 : Int) - 1 - k ∧ x / 2 ^ (l1 - k) = y / 2 ^ (l1 - k) ∧ ∃ q, wr = w2.drewN q) (fun i _ => (intOf i + 1).toNat)
    case atStart => exact ⟨0, _, Nat.zero_le _, rfl, by omega, by rw [Nat.sub_zero, Nat.div_eq_of_lt hr1.1, Nat.div_eq_of_lt hr2.1], 0, rfl⟩
    case round =>
      obtain ⟨k, j, hk, rfl, hj, he, q, rfl⟩ := hrel
      by_cases g1 : k < l1
      · obtain ⟨p, rfl⟩ : ∃ p : Nat, j = p := ⟨l1 - 1 - k, by omega⟩
        have hp : p = l1 - 1 - k := by omega
        have e1 := div_step x p
        have e2 := div_step y p
        rw [show p + 1 = l1 - k by omega] at e1 e2
        rw [← he] at e2
        obtain ⟨ab, ao, rfl, hl1', hc1'⟩ := hr1.at_ (show p < l1 by omega)
        obtain ⟨bb, bo, rfl, hl2', hc2'⟩ := hr2.at_ (show p < l1 by omega)
        obtain ⟨bx, hbx⟩ : ∃ b, b = x.testBit p := ⟨_, rfl⟩
        obtain ⟨bz, hbz⟩ : ∃ b, b = y.testBit p := ⟨_, rfl⟩
        rw [← hbx] at hc1' e1
        rw [← hbz] at hc2' e2
        have l0 : (0 : Int) ≤ (p : Int) := by omega
        have l1' : (p : Int) < l1 := by omega
        have hlt : bx = true → bz = false → y < x := fun a b => by
          subst a b
          rcases Nat.lt_or_ge y x with h1 | h1
          · exact h1
          · have := Nat.div_le_div_right (c := 2 ^ p) h1; simp at e1 e2; omega
        have hgt : bx = false → bz = true → x < y := fun a b => by
          subst a b
          rcases Nat.lt_or_ge x y with h1 | h1
          · exact h1
          · have := Nat.div_le_div_right (c := 2 ^ p) h1; simp at e1 e2; omega
        have heq : bx = bz → x / 2 ^ (l1 - (k + 1)) = y / 2 ^ (l1 - (k + 1)) := fun a => by
          rw [show l1 - (k + 1) = p by omega, e1, e2, a]
        have H := Lib.hid (And.intro hlt (And.intro hgt (And.intro heq hp)))
        clear hlt hgt heq e1 e2 he hbx hbz hr1 hr2 hj hp
        cases bx <;> cases bz
        all_goals
          go_wp2
          go_quiet (fail)
          go_wp2
        · go_roundw
          case rel => exact ⟨k + 1, _, by omega, rfl, by have := H.out.2.2.2; omega, H.out.2.2.1 (by first | trivial | rfl), _, by first | rfl | exact World.drewN_drewN _ _ _⟩
          case measure => simp [intOf]
        · go_ret
          exact ⟨ret_i (by have := H.out.2.1 (by first | trivial | rfl) (by first | trivial | rfl); unfold cmpI; rw [if_pos (by omega)]), by first | exact below_drewN (below_drewN hb _) _ | exact below_drewN hb _⟩
        · go_ret
          exact ⟨ret_i (by have := H.out.1 (by first | trivial | rfl) (by first | trivial | rfl); unfold cmpI; rw [if_neg (by omega), if_neg (by omega)]), by first | exact below_drewN (below_drewN hb _) _ | exact below_drewN hb _⟩
        · go_roundw
          case rel => exact ⟨k + 1, _, by omega, rfl, by have := H.out.2.2.2; omega, H.out.2.2.1 (by first | trivial | rfl), _, by first | rfl | exact World.drewN_drewN _ _ _⟩
          case measure => simp [intOf]
      · obtain rfl : k = l1 := by omega
        obtain rfl : j = -1 := by omega
        rw [Nat.sub_self, Nat.pow_zero, Nat.div_one, Nat.div_one] at he
        replace he := Lib.hid he
        clear hj
        go_wp2
        go_ret
        exact ⟨ret_i (by rw [he.out]; unfold cmpI; simp), below_drewN hb _⟩
  · have hxy : cmpI x y = 1 := by unfold cmpI; have := Tr.lt hr2.1 ht1 hgt; rw [if_neg (by omega), if_neg (by omega)]
    have hxy := Lib.hid hxy
    have d0 : ((l1 : Int) == l2) = false := by simp; omega
    have d1 : decide ((l1 : Int) < l2) = false := by simp; omega
    clear ca cb h h' ht1 ht2 hv1 hv2 hr1 hr2
    go_wp2
    go_ret
    exact ⟨ret_i (by simp [hxy.out]), hb⟩
theorem less_any (A B : Option Addr) (n c x m d y : Nat) (w : World) (h : Rd w A n x) (h' : Rd w B m y) (hn : n ≤ 10000) (hm : m ≤ 10000) (hc : n ≤ c) (hd : m ≤ d) :
    Calls Tryz.prog 228 #[.slice A n c, .slice B m d] w fun e w' => e = .returned (.bool (decide (x < y))) ∧ Below w.heap.size w w' := by
  have hz : decide (cmpI x y < 0) = decide (x < y) := by
    unfold cmpI
    by_cases h : x < y
    · rw [if_pos (by omega)]; simp [h]
    · rw [if_neg (by omega)]; split <;> simp [h]
  rw [← hz]
  have cc := Lib.hid (rCmp_any A B n c x m d y w h h' hn hm hc hd)
  clear hz h h'
  go_enter Tryz.func228, Tryz.ntmps228
  go_wp2_with (go_at_call 179; refine cc.out.mono ?_; rintro e w1 ⟨rfl, hb⟩)
  go_ret
  exact ⟨rfl, hb⟩
theorem size_any (A : Option Addr) (n c x : Nat) (w : World) (h : Rd w A n x) (hn : n ≤ 9000) (hc : n ≤ c) :
    Calls Tryz.prog 178 #[.slice A n c] w fun e w' => ∃ l, l ≤ n + 1 ∧ RetN w l (absv n x) e w' := by
  have hng := rNegative_any A n c x w h (by omega)
  unfold absv
  rcases e1 : neg n x with _ | _ <;> rw [e1] at hng
  · clear e1
    have ct := Lib.hid (Trim_any A n c x w h (by omega) hc)
    go_enter Tryz.func178, Tryz.ntmps178
    go_wp2_with (first | (go_at_call 176; refine hng.mono ?_; rintro e w1 ⟨rfl, rfl⟩) | (go_at_call 213; refine ct.out.mono ?_; rintro e w1 ⟨l, hl, _, A1, c1, rfl, hv, hb⟩))
    go_ret
    exact ⟨l, by omega, _, _, rfl, hv, hb⟩
  · clear e1
    have hx := Lib.hid h.1
    go_enter Tryz.func178, Tryz.ntmps178
    go_wp2_with (first | (go_at_call 176; refine hng.mono ?_; rintro e w1 ⟨rfl, rfl⟩) | (go_at_call 212; refine (power_any _ _ (by omega)).mono ?_; rintro e w1 ⟨A1, c1, rfl, hv1, hb1⟩) | (go_at_call 211; refine (minus_any _ _ _ _ _ _ _ _ _ hv1.rd (h.step hb1) (by omega) (by omega) (Nat.le_of_lt hx.out)).mono ?_; rintro e w2 ⟨A2, c2, rfl, hv2, hb2⟩))
    go_ret
    exact ⟨_, Nat.le_refl _, _, _, rfl, hv2.mono hb1.size, below_step hb1 hb2⟩
theorem cmp_nn {n x m y : Nat} (hx : x < 2 ^ n) (hy : y < 2 ^ m) (h : neg n x = true) (h' : neg m y = true) : cmpI (absv m y) (absv n x) = cmpI (sval n x) (sval m y) := by
  unfold absv
  rw [sval_neg h, sval_neg h', h, h']
  simp only [if_true]
  unfold cmpI
  have e1 : ((2 ^ m - y : Nat) : Int) < ((2 ^ n - x : Nat) : Int) ↔ (x : Int) - (2 ^ n : Nat) < (y : Int) - (2 ^ m : Nat) := by omega
  have e2 : ((2 ^ m - y : Nat) : Int) = ((2 ^ n - x : Nat) : Int) ↔ (x : Int) - (2 ^ n : Nat) = (y : Int) - (2 ^ m : Nat) := by omega
  simp only [e1, e2]
set_option maxHeartbeats 1000000 in
theorem rSCmp_any (A B : Option Addr) (n c x m d y : Nat) (w : World) (h : Rd w A n x) (h' : Rd w B m y) (hn : n ≤ 9000) (hm : m ≤ 9000) (hc : n ≤ c) (hd : m ≤ d) :
    Calls Tryz.prog 189 #[.slice A n c, .slice B m d] w fun e w' => e = .returned (.int .i64 (cmpI (sval n x) (sval m y))) ∧ Below w.heap.size w w' := by
  have c1 := rNegative_any A n c x w h (by omega)
  have c2 := rNegative_any B m d y w h' (by omega)
  have sa : ∀ W, Rd W A n x → _ := fun W hW => size_any A n c x W hW hn hc
  have sb : ∀ W, Rd W B m y → _ := fun W hW => size_any B m d y W hW hm hd
  have sa := Lib.hid sa
  have sb := Lib.hid sb
  rcases e1 : neg n x with _ | _ <;> rcases e2 : neg m y with _ | _ <;> rw [e1] at c1 <;> rw [e2] at c2
  · have e : cmpI (absv n x) (absv m y) = cmpI (sval n x) (sval m y) := by unfold absv; rw [sval_pos e1, sval_pos e2, e1, e2]; rfl
    rw [← e]
    clear e1 e2 e
    go_enter Tryz.func189, Tryz.ntmps189
    go_wp2_with (first | (go_at_call 176; (first | (with_reducible refine c1.mono ?_) | (with_reducible refine c2.mono ?_)); rintro e w1 ⟨rfl, rfl⟩) | (go_at_call 178; (first | ((with_reducible refine (sa.out _ h).mono ?_); rintro e w1 ⟨l1, hl1, A1, c1, rfl, hv1, hb1⟩) | ((with_reducible refine (sb.out _ (h'.step hb1)).mono ?_); rintro e w2 ⟨l2, hl2, A2, c2, rfl, hv2, hb2⟩))) | (go_at_call 179; refine (rCmp_any _ _ _ _ _ _ _ _ _ (hv1.rd.step hb2) hv2.rd (by omega) (by omega) hv1.le hv2.le).mono ?_; rintro e w3 ⟨rfl, hb3⟩))
    go_ret
    exact ⟨rfl, below_step (below_step hb1 hb2) hb3⟩
  · have c3 := Lib.hid (cmp_pn h'.1 e1 e2)
    clear e1 e2 h h'
    go_enter Tryz.func189, Tryz.ntmps189
    go_wp2_with (go_at_call 176; (first | (with_reducible refine c1.mono ?_) | (with_reducible refine c2.mono ?_)); rintro e w1 ⟨rfl, rfl⟩)
    go_ret
    exact ⟨ret_i c3.out.symm, Below.refl _ _⟩
  · have c3 := Lib.hid (cmp_np h.1 e1 e2)
    clear e1 e2 h h'
    go_enter Tryz.func189, Tryz.ntmps189
    go_wp2_with (go_at_call 176; (first | (with_reducible refine c1.mono ?_) | (with_reducible refine c2.mono ?_)); rintro e w1 ⟨rfl, rfl⟩)
    go_ret
    exact ⟨ret_i c3.out.symm, Below.refl _ _⟩
  · have e := cmp_nn h.1 h'.1 e1 e2
    rw [← e]
    clear e1 e2 e
    go_enter Tryz.func189, Tryz.ntmps189
    go_wp2_with (first | (go_at_call 176; (first | (with_reducible refine c1.mono ?_) | (with_reducible refine c2.mono ?_)); rintro e w1 ⟨rfl, rfl⟩) | (go_at_call 178; (first | ((with_reducible refine (sb.out _ h').mono ?_); rintro e w1 ⟨l1, hl1, A1, c1, rfl, hv1, hb1⟩) | ((with_reducible refine (sa.out _ (h.step hb1)).mono ?_); rintro e w2 ⟨l2, hl2, A2, c2, rfl, hv2, hb2⟩))) | (go_at_call 179; refine (rCmp_any _ _ _ _ _ _ _ _ _ (hv1.rd.step hb2) hv2.rd (by omega) (by omega) hv1.le hv2.le).mono ?_; rintro e w3 ⟨rfl, hb3⟩))
    go_ret
    exact ⟨rfl, below_step (below_step hb1 hb2) hb3⟩

end Go.Proofs.YtognpmggfplekaaGreatDoor.B

namespace Go.Proofs.YtognpmggfplekaaGreatDoor.B
open Go Go.RowKit

theorem wpList_pre {w W : World} {ops : Array Oper} {rest : List Oper} {o : Oper} {a : Act} {Q : Exit → Act → World → Prop} (hgd : o.guard = none) (s x : Operand)
    (ho : o.op = .call { callee := .builtin .append, args := #[s, x], argTypes := #[90, 90] }) (hty : o.type = 90)
    (hb : Below W.heap.size W w) (H : Nat) (hH : w.heap.size = H) (b : Bool) (hs : a.eval s = .slice (some ⟨H, 0, none⟩) 1 1) {X : Option Addr} {m d y : Nat} (hx : a.eval x = .slice X m d) (hr : Rd w X m y) (hn : m ≤ 100000)
    (h : ∀ A' c' w', Nw w' W.heap.size A' (m + 1) c' (2 * y + b.toNat) → Below W.heap.size W w' → wpList Tryz.prog ops Q rest (a.put o.dst (.slice A' (m + 1) c')) w') : wpList Tryz.prog ops Q (o :: rest) a (w.alloc (.cells #[.bool b] 4)) := by
  subst hH
  have ho1 : Own (w.alloc (.cells #[.bool b] 4)) w.heap.size 4 (ba 1 b.toNat) := by
    have := Own.new w 4 #[.bool b]
    rwa [show (#[Value.bool b] : Array Value) = ba 1 b.toNat from by rw [ba, ← bl_single]] at this ⊢
  refine wpList_cat hgd s x ho hty (below_new hb _) hs (Nw.of_own ho1 (toNat_lt b) hb.size (by decide)) hx (hr.alloc _) (by omega) fun A' c' w' hv hb' => ?_
  rw [Nat.add_comm 1 m] at hv ⊢
  rw [show b.toNat + 2 ^ 1 * y = 2 * y + b.toNat by omega] at hv
  exact h A' c' w' hv hb'
theorem Nw.far {w : World} {A : Option Addr} {n c x B g k : Nat} (h : Nw w B A n c x) (hg : g < B) (v : Value) : Nw (w.setCell ⟨g, k, none⟩ v) B A n c x := by
  refine ⟨h.1, h.2.1, h.2.2.imp id fun ⟨g', cap, cur, h1, h2, h3, h4⟩ => ⟨g', cap, cur, h1, h2, ?_, h4⟩⟩
  exact (Below.heap_setCell w ⟨g, k, none⟩ v g' (by show g' ≠ g; omega)).trans h3
def RetQ (w : World) (n m q r : Nat) (e : Ending) (w' : World) : Prop := ∃ A c A' c', e = .returned (.tuple #[.slice A n c, .slice A' m c']) ∧ Nw w' w.heap.size A n c q ∧ Nw w' w.heap.size A' m c' r ∧ Below w.heap.size w w'
def RDivR (n x y : Nat) (w : World) (v i : Value) (u : World) : Prop :=
  ∃ (k : Nat) (j : Int), k ≤ n ∧ i = .int .i64 j ∧ j = (n : Int) - 1 - k ∧ ∃ A' c', v = .slice A' k c' ∧ Nw u (w.heap.size + 1) A' k c' (DR n x y k) ∧ Own u w.heap.size 4 (ba n (DQ n x y k)) ∧ Below w.heap.size w u
set_option maxHeartbeats 1000000 in
theorem divide_any (A B : Option Addr) (n c x m d y : Nat) (w : World) (h : Rd w A n x) (h' : Rd w B m y) (hn : n ≤ 9000) (hm : m ≤ 9000) (hd : m ≤ d) (hy : y ≠ 0) :
    Calls Tryz.prog 218 #[.slice A n c, .slice B m d] w (RetQ w n n (x / y) (x % y)) := by
  have hmk := fun W => run_makeB n (by omega) W
  go_enter Tryz.func218, Tryz.ntmps218
  go_wp2
  go_loopw [7, 8] (fun v i u => RDivR n x y w v i u) (fun _ i _ => (intOf i + 1).toNat)
  case atStart => exact ⟨0, _, Nat.zero_le _, rfl, by omega, none, 0, rfl, by rw [DR.zero h.1]; exact Nw.nil _ _, by rw [DQ.zero h.1]; exact Own.new w _ _, below_new (Below.refl _ _) _⟩
  case round =>
    obtain ⟨k, j, hk, rfl, hj, A', c', rfl, hv, oQ, hb⟩ := hrel
    by_cases g1 : k < n
    · obtain ⟨p, rfl⟩ : ∃ p : Nat, j = p := ⟨n - 1 - k, by omega⟩
      have hp : p = n - 1 - k := by omega
      obtain ⟨ab, ao, rfl, hlt0, hc0⟩ := h.at_ (show p < n by omega)
      have hcell := (hb.cell (p := ⟨ab, ao + p, none⟩) hlt0).trans hc0
      obtain ⟨hd1, hd2⟩ := D_next (x := x) (Nat.pos_of_ne_zero hy) g1
      have hqb := DQ_bit (x := x) (y := y) g1
      rw [← hp] at hd1 hd2 hqb
      obtain ⟨bx, hbx⟩ : ∃ b, b = x.testBit p := ⟨_, rfl⟩
      rw [← hbx] at hcell hd1 hd2
      have l0 : (0 : Int) ≤ (p : Int) := by omega
      have l1 : (p : Int) < n := by omega
      have hr' := h'.step hb
      have hle : ∀ (W : World) (A1 : Option Addr) (c1 : Nat), Nw W (w.heap.size + 1) A1 (k + 1) c1 (2 * DR n x y k + bx.toNat) → Rd W B m y → Calls Tryz.prog 228 #[.slice A1 (k + 1) c1, .slice B m d] W fun e w' => e = .returned (.bool (decide (2 * DR n x y k + bx.toNat < y))) ∧ Below W.heap.size W w' :=
        fun W A1 c1 hv1 hB => less_any A1 B (k + 1) c1 _ m d y W hv1.rd hB (by omega) (by omega) hv1.le hd
      by_cases hge : y ≤ 2 * DR n x y k + bx.toNat
      · rw [if_pos hge] at hd1 hd2
        rw [show decide (2 * DR n x y k + bx.toNat < y) = false by simp; omega] at hle
        have eQ : setb (DQ n x y k) p true = DQ n x y (k + 1) := by
          rw [hd2]; unfold setb; rw [hqb]; simp
        have H := Lib.hid (And.intro hp (And.intro hge (And.intro hd1 eQ)))
        have hle := Lib.hid hle
        have hgs := oQ.lt
        clear hp hge hd1 hd2 hqb eQ hbx hc0 hj h hy
        go_wp2_with (first | (at_builtin; refine wpList_pre rfl (.tmp 23) (.tmp 24) rfl rfl (Below.refl _ _) _ rfl _ rfl rfl hv.rd (by omega) ?_; intro A1 c1 w1 hv1 hb1; replace hv1 := hv1.mono (show w.heap.size + 1 ≤ wr.heap.size from hgs)) | (go_at_call 228; refine (hle.out _ _ _ hv1 (hr'.step hb1)).mono ?_; rintro e w2 ⟨rfl, hb2⟩) | (go_at_call 211; refine (minus_any _ _ _ _ _ _ _ _ _ (hv1.rd.step hb2) (hr'.step (below_step hb1 hb2)) (by omega) (by omega) H.out.2.1).mono ?_; rintro e w3 ⟨A3, c3, rfl, hv3, hb3⟩; have hB3 := below_step (below_step hb1 hb2) hb3; have oQ3 := oQ.step hB3; have cQ := (oQ3.cell p).trans (ba_get _ _ _ (by omega)); have fQ := oQ3.free p; have lQ := oQ3.lt))
        have oQ4 := oQ3.put p (.bool true)
        rw [ba_set true (by omega), H.out.2.2.2] at oQ4
        rw [← H.out.2.2.1] at hv3
        have hsz : w.heap.size + 1 ≤ w2.heap.size := by have := hb1.size; have := hb2.size; omega
        go_roundw
        case rel => exact ⟨k + 1, _, by omega, rfl, by have := H.out.1; omega, A3, c3, rfl, (hv3.mono hsz).far (Nat.lt_succ_self _) _, oQ4, below_set (below_step hb hB3) (Nat.le_refl _) _⟩
        case measure => simp [intOf]
      · rw [if_neg hge] at hd1 hd2
        simp only [Nat.mul_zero, Nat.add_zero, Nat.sub_zero] at hd1 hd2
        rw [show decide (2 * DR n x y k + bx.toNat < y) = true by simp; omega] at hle
        have H := Lib.hid (And.intro hp (And.intro hd1 hd2))
        have hle := Lib.hid hle
        have hgs := oQ.lt
        clear hp hge hd1 hd2 hqb hbx hc0 hj h hy
        go_wp2_with (first | (at_builtin; refine wpList_pre rfl (.tmp 23) (.tmp 24) rfl rfl (Below.refl _ _) _ rfl _ rfl rfl hv.rd (by omega) ?_; intro A1 c1 w1 hv1 hb1; replace hv1 := hv1.mono (show w.heap.size + 1 ≤ wr.heap.size from hgs)) | (go_at_call 228; refine (hle.out _ _ _ hv1 (hr'.step hb1)).mono ?_; rintro e w2 ⟨rfl, hb2⟩))
        have hB2 := below_step hb1 hb2
        have oQ2 := oQ.step hB2
        rw [← H.out.2.2] at oQ2
        rw [← H.out.2.1] at hv1
        go_roundw
        case rel => exact ⟨k + 1, _, by omega, rfl, by have := H.out.1; omega, A1, c1, rfl, hv1.step hb2, oQ2, below_step hb hB2⟩
        case measure => simp [intOf]
    · obtain rfl : k = n := by omega
      obtain rfl : j = -1 := by omega
      rw [DR.last] at hv
      rw [DQ.last] at oQ
      have hx := h.1
      clear hj hmk
      go_wp2
      go_ret2
      exact ⟨_, _, _, _, rfl, Nw.of_own oQ (Nat.lt_of_le_of_lt (Nat.div_le_self _ _) hx) (Nat.le_refl _) (by unfold maxLen; omega), hv.mono (Nat.le_succ _), hb⟩
theorem Tr.zero {l : Nat} (h : Tr l 0) : l = 0 := by
  rcases h with h | h
  · exact h
  · simp at h
theorem rDivMod_zero (A B : Option Addr) (n c m d : Nat) (w : World) (h' : Rd w B m 0) (hm : m ≤ 9000) (hd : m ≤ d) :
    Calls Tryz.prog 186 #[.slice A n c, .slice B m d] w fun e w' => e = .returned (.tuple #[.slice none 0 0, .slice none 0 0, .int .i64 7]) ∧ Below w.heap.size w w' := by
  have ct : Calls Tryz.prog 213 #[.slice B m d] w (RetN w 0 0) := (Trim_any B m d 0 w h' (by omega) hd).mono fun e w' ⟨l, _, ht, hr⟩ => by rw [ht.zero] at hr; exact hr
  clear h'
  go_enter Tryz.func186, Tryz.ntmps186
  go_wp2_with (go_at_call 213; refine ct.mono ?_; rintro e w1 ⟨A1, c1, rfl, hv, hb⟩)
  go_ret3
  exact ⟨rfl, hb⟩
theorem rSDivMod_zero (A B : Option Addr) (n c m d : Nat) (w : World) (h' : Rd w B m 0) (hm : m ≤ 9000) (hd : m ≤ d) :
    Calls Tryz.prog 187 #[.slice A n c, .slice B m d] w fun e w' => e = .returned (.tuple #[.slice none 0 0, .slice none 0 0, .int .i64 7]) ∧ Below w.heap.size w w' := by
  have ct : Calls Tryz.prog 213 #[.slice B m d] w (RetN w 0 0) := (Trim_any B m d 0 w h' (by omega) hd).mono fun e w' ⟨l, _, ht, hr⟩ => by rw [ht.zero] at hr; exact hr
  clear h'
  go_enter Tryz.func187, Tryz.ntmps187
  go_wp2_with (go_at_call 213; refine ct.mono ?_; rintro e w1 ⟨A1, c1, rfl, hv, hb⟩)
  go_ret3
  exact ⟨rfl, hb⟩
theorem trim_nz (B : Option Addr) (m d y : Nat) (w : World) (h' : Rd w B m y) (hm : m ≤ 9000) (hd : m ≤ d) (hy : y ≠ 0) :
    Calls Tryz.prog 213 #[.slice B m d] w fun e w' => ∃ l : Nat, ((l : Int) == 0) = false ∧ RetN w l y e w' :=
  (Trim_any B m d y w h' (by omega) hd).mono fun e w' ⟨l, _, ht, hr⟩ => ⟨l, by
    have : l ≠ 0 := by
      rintro rfl
      obtain ⟨A1, c1, _, hv, _⟩ := hr
      have := hv.1
      simp at this
      exact hy this
    simp; omega, hr⟩
theorem rDivMod_any (A B : Option Addr) (n c x m d y : Nat) (w : World) (h : Rd w A n x) (h' : Rd w B m y) (hn : n ≤ 9000) (hm : m ≤ 9000) (hd : m ≤ d) (hy : y ≠ 0) :
    Calls Tryz.prog 186 #[.slice A n c, .slice B m d] w (RetD w n (x / y) (x % y)) := by
  have ct := Lib.hid (trim_nz B m d y w h' hm hd hy)
  have e1 : x / y = (x / y) % 2 ^ n := (Nat.mod_eq_of_lt (Nat.lt_of_le_of_lt (Nat.div_le_self _ _) h.1)).symm
  have e2 : x % y = (x % y) % 2 ^ n := (Nat.mod_eq_of_lt (Nat.lt_of_le_of_lt (Nat.mod_le _ _) h.1)).symm
  rw [e1, e2]
  clear e1 e2
  go_enter Tryz.func186, Tryz.ntmps186
  go_wp2_with (first | (go_at_call 213; refine ct.out.mono ?_; rintro e w1 ⟨l, hl0, A1, c1, rfl, hv1, hb1⟩) | (go_at_call 218; refine (divide_any _ _ _ _ _ _ _ _ _ (h.step hb1) (h'.step hb1) hn hm hd hy).mono ?_; rintro e w2 ⟨A2, c2, A3, c3, rfl, hv2, hv3, hb2⟩) | (go_at_call 180; (first | ((with_reducible refine (rFit_any _ _ _ _ _ _ hv2.rd (by omega) (by omega)).mono ?_); rintro e w3 ⟨A4, c4, rfl, hv4, hb3⟩) | ((with_reducible refine (rFit_any _ _ _ _ _ _ (hv3.step hb3).rd (by omega) (by omega)).mono ?_); rintro e w4 ⟨A5, c5, rfl, hv5, hb4⟩))))
  go_ret3
  exact ⟨_, _, _, _, rfl, (hv4.mono (Nat.le_trans hb1.size hb2.size)).step hb4, hv5.mono (Nat.le_trans hb1.size (Nat.le_trans hb2.size hb3.size)), below_step (below_step (below_step hb1 hb2) hb3) hb4⟩

end Go.Proofs.YtognpmggfplekaaGreatDoor.B

namespace Go.Proofs.YtognpmggfplekaaGreatDoor.B
open Go Go.RowKit

set_option maxHeartbeats 1000000 in
theorem rSDivMod_any (A B : Option Addr) (n c x m d y : Nat) (w : World) (h : Rd w A n x) (h' : Rd w B m y) (hn : n ≤ 8000) (hm : m ≤ 8000) (hc : n ≤ c) (hd : m ≤ d) (hy : y ≠ 0) :
    Calls Tryz.prog 187 #[.slice A n c, .slice B m d] w (RetD w n (sq n x m y) (sr n x m y)) := by
  have ct := Lib.hid (trim_nz B m d y w h' (by omega) hd hy)
  have e0 : absv m y ≠ 0 := fun e => hy ((absv_zero h'.1).1 e)
  have hX := absv_lt h.1
  have sa : ∀ W, Rd W A n x → _ := fun W hW => size_any A n c x W hW (by omega) hc
  have sb : ∀ W, Rd W B m y → _ := fun W hW => size_any B m d y W hW (by omega) hd
  have na : ∀ W, Rd W A n x → _ := fun W hW => rNegative_any A n c x W hW (by omega)
  have nb : ∀ W, Rd W B m y → _ := fun W hW => rNegative_any B m d y W hW (by omega)
  unfold sq sr
  generalize absv n x = X at *
  generalize absv m y = Y at *
  have e1 : X / Y = (X / Y) % 2 ^ n := (Nat.mod_eq_of_lt (Nat.lt_of_le_of_lt (Nat.div_le_self _ _) hX)).symm
  have e2 : X % Y = (X % Y) % 2 ^ n := (Nat.mod_eq_of_lt (Nat.lt_of_le_of_lt (Nat.mod_le _ _) hX)).symm
  rw [e1, e2]
  clear e1 e2
  have sa := Lib.hid sa
  have sb := Lib.hid sb
  rcases e1 : neg n x with _ | _ <;> rcases e2 : neg m y with _ | _ <;> rw [e1] at na <;> rw [e2] at nb
  all_goals
    have na := Lib.hid na
    have nb := Lib.hid nb
    have e0 := Lib.hid e0
    clear e1 e2 hy hX
    go_enter Tryz.func187, Tryz.ntmps187
    go_wp2_with (first | (go_at_call 213; refine ct.out.mono ?_; rintro e w1 ⟨l, hl0, A1, c1, rfl, hv1, hb1⟩; have ra := h.step hb1; have rb := h'.step hb1) | (go_at_call 178; (first | ((with_reducible refine (sa.out _ ra).mono ?_); rintro e w2 ⟨l2, hl2, A2, c2, rfl, hv2, hb2⟩; have rb := rb.step hb2) | ((with_reducible refine (sb.out _ rb).mono ?_); rintro e w3 ⟨l3, hl3, A3, c3, rfl, hv3, hb3⟩))) | (go_at_call 218; refine (divide_any _ _ _ _ _ _ _ _ _ (hv2.rd.step hb3) hv3.rd (by omega) (by omega) hv3.le e0.out).mono ?_; rintro e w4 ⟨A4, c4, A5, c5, rfl, hv4, hv5, hb4⟩) | (go_at_call 180; (first | ((with_reducible refine (rFit_any _ _ _ _ _ _ hv4.rd (by omega) (by omega)).mono ?_); rintro e w6 ⟨A6, c6, rfl, hv6, hb6⟩) | ((with_reducible refine (rFit_any _ _ _ _ _ _ (hv5.step hb6).rd (by omega) (by omega)).mono ?_); rintro e w7 ⟨A7, c7, rfl, hv7, hb7⟩; have hb := below_step (below_step (below_step (below_step (below_step hb1 hb2) hb3) hb4) hb6) hb7; have ra := h.step hb; have rb := h'.step hb; have hv6 := hv6.step hb7; have hs6 := Nat.le_trans (Nat.le_trans hb1.size hb2.size) (Nat.le_trans hb3.size hb4.size); have hs7 := Nat.le_trans hs6 hb6.size))) | (go_at_call 176; (first | (with_reducible refine (na.out _ ra).mono ?_) | (with_reducible refine (nb.out _ rb).mono ?_)); rintro e w8 ⟨rfl, rfl⟩) | (go_at_call 216; (first | ((with_reducible refine (rNeg_any _ _ _ _ _ hv6.rd (by omega)).mono ?_); rintro e w9 ⟨A9, c9, rfl, hv9, hb9⟩; have ra := ra.step hb9) | ((with_reducible refine (rNeg_any _ _ _ _ _ hv7.rd (by omega)).mono ?_); rintro e w10 ⟨A10, c10, rfl, hv10, hb10⟩) | ((with_reducible refine (rNeg_any _ _ _ _ _ (hv7.step hb9).rd (by omega)).mono ?_); rintro e w10 ⟨A10, c10, rfl, hv10, hb10⟩))))
    go_ret3
  · exact ⟨_, _, _, _, rfl, hv6.mono hs6, hv7.mono hs7, hb⟩
  · exact ⟨_, _, _, _, rfl, hv9.mono hb.size, (hv7.step hb9).mono hs7, below_step hb hb9⟩
  · exact ⟨_, _, _, _, rfl, (hv9.mono hb.size).step hb10, hv10.mono (Nat.le_trans hb.size hb9.size), below_step (below_step hb hb9) hb10⟩
  · exact ⟨_, _, _, _, rfl, (hv6.mono hs6).step hb10, hv10.mono hb.size, below_step hb hb10⟩

end Go.Proofs.YtognpmggfplekaaGreatDoor.B

namespace Go.Proofs.YtognpmggfplekaaGreatDoor.B

theorem neg_iff {n x : Nat} (hn : 0 < n) (hx : x < 2 ^ n) : neg n x = true ↔ 2 ^ (n - 1) ≤ x := by
  have hp : 2 ^ n = 2 * 2 ^ (n - 1) := by rw [← pow_s]; congr 1; omega
  have e := div_step x (n - 1)
  rw [show n - 1 + 1 = n by omega, Nat.div_eq_of_lt hx] at e
  have h0 := pow_p (n - 1)
  unfold neg
  constructor
  · intro h
    rw [h] at e
    have := Nat.div_mul_le_self x (2 ^ (n - 1))
    rw [e] at this
    simpa using this
  · intro h
    have : 1 ≤ x / 2 ^ (n - 1) := (Nat.le_div_iff_mul_le h0).2 (by omega)
    cases hb : x.testBit (n - 1)
    · rw [hb] at e; simp at e; omega
    · rfl
theorem neg_zero_width {x : Nat} (hx : x < 2 ^ 0) : neg 0 x = false := by
  have : x = 0 := by simpa using hx
  subst this; rfl
theorem absv_le {n x : Nat} (hx : x < 2 ^ n) (h : neg n x = true) : absv n x = 2 ^ n - x ∧ absv n x ≤ 2 ^ (n - 1) := by
  have e : absv n x = 2 ^ n - x := by unfold absv; rw [h]; rfl
  rcases Nat.eq_zero_or_pos n with rfl | hn
  · rw [neg_zero_width hx] at h; cases h
  · have := (neg_iff hn hx).1 h
    have hp : 2 ^ n = 2 * 2 ^ (n - 1) := by rw [← pow_s]; congr 1; omega
    exact ⟨e, by omega⟩
theorem absv_pos {n x : Nat} (h : neg n x = false) : absv n x = x := by unfold absv; rw [h]; rfl
theorem sval_abs {n x : Nat} (hx : x < 2 ^ n) : sval n x = if neg n x then -(absv n x : Int) else (absv n x : Int) := by
  rcases hn : neg n x with _ | _
  · rw [sval_pos hn, absv_pos hn]; rfl
  · rw [sval_neg hn, (absv_le hx hn).1, if_pos rfl]; omega

end Go.Proofs.YtognpmggfplekaaGreatDoor.B

namespace Go.Proofs.YtognpmggfplekaaGreatDoor.B
open Go Go.RowKit

theorem shr_min (z : Int) (hz : -9223372036854775808 ≤ z ∧ z ≤ 9223372036854775807) (k : Nat) (hk : 64 ≤ k) : z / (2 : Int) ^ k = z / (2 : Int) ^ 64 := by
  have e : (2 : Int) ^ k = (2 : Int) ^ 64 * (2 : Int) ^ (k - 64) := by rw [← Int.pow_add]; congr 1; omega
  rw [e, ← Int.ediv_ediv_of_nonneg (Int.pow_nonneg (by decide))]
  have hp : (1 : Int) ≤ (2 : Int) ^ (k - 64) := by rw [p2]; have := pow_p (k - 64); omega
  rcases (show z / (2 : Int) ^ 64 = 0 ∨ z / (2 : Int) ^ 64 = -1 by omega) with h | h <;> rw [h]
  · simp
  · exact Int.ediv_eq_neg_one_of_neg_of_le (by decide) (by omega)
def FiB (z : Int) (m g : Nat) (w : World) (i : Value) (u : World) : Prop := ∃ k, k ≤ m ∧ i = .int .i64 k ∧ Own u g 4 (ba m (fi z k)) ∧ Below w.heap.size w u
theorem fromInt_any (z : Int) (m : Nat) (w : World) (hz : -9223372036854775808 ≤ z ∧ z ≤ 9223372036854775807) (hm : m ≤ 128) :
    Calls Tryz.prog 129 #[.int .i64 z, .int .i64 m] w fun e w' => ∃ A' c', e = .returned (.tuple #[.slice A' m c', .int .i64 0]) ∧ Nw w' w.heap.size A' m c' (fi z m) ∧ Below w.heap.size w w' := by
  have d1 : decide ((m : Int) < 0) = false := by simp
  have d2 : decide ((128 : Int) < m) = false := by simp; omega
  have hmk := fun W => run_makeB m (by omega) W
  go_enter Tryz.func129, Tryz.ntmps129
  go_wp2
  go_loopw [17] (fun i u => FiB z m w.heap.size w i u) (fun i _ => m - (intOf i).toNat)
  case atStart => exact ⟨0, Nat.zero_le _, rfl, by rw [show fi z 0 = 0 by simp [fi, Int.emod_one]]; exact Own.new w _ _, below_new (Below.refl _ _) _⟩
  case round =>
    obtain ⟨k, hk, rfl, o, hb⟩ := hrel
    by_cases g1 : k < m
    · have hst := fi_step z k
      have d3 : decide ((k : Int) < m) = true := by simpa using g1
      have l0 : (0 : Int) ≤ k := by omega
      have cc := (o.cell k).trans (ba_get _ _ _ g1)
      have ff := o.free k
      have o2 := o.put k (.bool (z / (2 : Int) ^ k % 2 == 1))
      rw [ba_set _ g1, setb_new (fi_lt _ _), ← hst] at o2
      have hbit : (bits BinOp.and IntKind.i64 (z / (2 : Int) ^ min k 64) 1 == 1) = (z / (2 : Int) ^ k % 2 == 1) := by
        rw [and_one]
        rcases Nat.le_total k 64 with h | h
        · rw [Nat.min_eq_left h]
        · rw [Nat.min_eq_right h, shr_min z hz k h]
      replace hbit := Lib.hid hbit
      replace o2 := Lib.hid o2
      clear hst o
      go_wp2
      go_roundw
      case rel => exact ⟨k + 1, by omega, by go_num, by rw [hbit.out]; exact o2.out, below_set hb (Nat.le_refl _) _⟩
      case measure => simp [intOf]; omega
    · obtain rfl : k = m := by omega
      go_wp2
      go_ret2
      exact ⟨_, _, rfl, Nw.of_own o (fi_lt _ _) (Nat.le_refl _) (by unfold maxLen; omega), hb⟩

def uOk (x : Nat) : Bool := decide (x < 2 ^ 64)
def uVal (x : Nat) : Int := if x < 2 ^ 64 then x else 0
theorem or_bit (S k : Nat) (hS : S < 2 ^ k) (hk : k < 64) : bits BinOp.or IntKind.u64 (S : Int) ((2 ^ k : Nat) : Int) = ((S + 2 ^ k : Nat) : Int) := by
  have hp : 2 ^ k < 2 ^ 64 := Nat.pow_lt_pow_right (by decide) hk
  show IntKind.u64.wrap ((BitVec.ofInt 64 (S : Int) ||| BitVec.ofInt 64 ((2 ^ k : Nat) : Int)).toNat : Int) = _
  rw [BitVec.toNat_or, BitVec.ofInt_natCast, BitVec.ofInt_natCast, BitVec.toNat_ofNat, BitVec.toNat_ofNat, Nat.mod_eq_of_lt (by omega), Nat.mod_eq_of_lt hp]
  have e : S ||| 2 ^ k = S + 2 ^ k := by
    rw [Nat.add_comm, ← Nat.mul_one (2 ^ k), Nat.or_comm]
    exact (Nat.two_pow_add_eq_or_of_lt hS 1).symm
  rw [e]
  have : S + 2 ^ k < 2 ^ 64 := by
    have := Nat.pow_le_pow_right (show 0 < 2 by decide) (show k + 1 ≤ 64 by omega)
    have := pow_s k
    omega
  rw [IntKind.wrap_u64]; omega
def UiR (n x : Nat) (v i : Value) : Prop := ∃ k, k ≤ n ∧ i = .int .i64 k ∧ v = .int .u64 ((x % 2 ^ k : Nat) : Int) ∧ x % 2 ^ k < 2 ^ 64
theorem uint_any (A : Option Addr) (n c x : Nat) (w : World) (h : Rd w A n x) (hn : n ≤ 10000) :
    Calls Tryz.prog 206 #[.slice A n c] w fun e w' => e = .returned (.tuple #[.int .u64 (uVal x), .bool (uOk x)]) ∧ w = w' := by
  go_enter Tryz.func206, Tryz.ntmps206
  go_wp2
  go_loop [4, 8] (fun v i => UiR n x v i) (fun _ i => n - (intOf i).toNat)
  case atStart => exact ⟨0, Nat.zero_le _, rfl, by simp [Nat.mod_one], by simp [Nat.mod_one]⟩
  case round =>
    obtain ⟨k, hk, rfl, rfl, hS⟩ := hrel
    by_cases g1 : k < n
    · obtain ⟨ab, ao, rfl, hlt, hcell⟩ := h.at_ g1
      have d3 : decide ((k : Int) < n) = true := by simpa using g1
      have l0 : (0 : Int) ≤ k := by omega
      have l1 : (k : Int) < n := by omega
      have hst := mod_step x k
      have hpl := mod_lt' x k
      rcases hb : x.testBit k with _ | _ <;> rw [hb] at hcell hst
      · simp only [Bool.toNat_false, Nat.mul_zero, Nat.add_zero] at hst
        rw [← hst] at hS
        have hst := Lib.hid hst
        have hS := Lib.hid hS
        generalize x % 2 ^ k = S at *
        clear hb hpl
        go_wp2
        go_round
        case rel => exact ⟨k + 1, by omega, by go_num, by rw [hst.out], hS.out⟩
        case measure => simp [intOf]; omega
      · rw [Bool.toNat_true, Nat.mul_one] at hst
        rcases Nat.lt_or_ge k 64 with h64 | h64
        · have hor : bits BinOp.or IntKind.u64 ((x : Int) % 2 ^ k) (IntKind.u64.wrap (2 ^ k)) = ((x % 2 ^ (k + 1) : Nat) : Int) := by
            have e := or_bit _ k hpl h64
            rw [← hst, Int.natCast_emod, ← p2] at e
            rw [← e]
            congr 1
            have := Nat.pow_lt_pow_right (show 1 < 2 by decide) h64
            rw [p2, IntKind.wrap_u64]; omega
          have hlt64 : x % 2 ^ (k + 1) < 2 ^ 64 := Nat.lt_of_lt_of_le (mod_lt' _ _) (Nat.pow_le_pow_right (by decide) (by omega))
          replace hor := Lib.hid (And.intro hor hlt64)
          have d4 : decide ((64 : Int) ≤ k) = false := by simp; omega
          have l3 : (k : Int) < 64 := by omega
          have l4 : (k : Int) ≤ 64 := by omega
          clear hst hlt64 hpl hb hS
          go_wp2
          go_round
          case rel => exact ⟨k + 1, by omega, by go_num, by rw [hor.out.1], hor.out.2⟩
          case measure => simp [intOf]; omega
        · have hge : ¬ x < 2 ^ 64 := fun hlt => by
            have := high_bit hlt h64
            rw [hb] at this; cases this
          have e1 : uVal x = 0 := by unfold uVal; rw [if_neg hge]
          have e2 : uOk x = false := by unfold uOk; simp; omega
          have e := Lib.hid (And.intro e1 e2)
          have d4 : decide ((64 : Int) ≤ k) = true := by simp; omega
          clear hst hpl hb hS hge e1 e2
          go_wp2
          go_ret2
          exact ⟨by rw [e.out.1, e.out.2]; rfl, rfl⟩
    · obtain rfl : k = n := by omega
      rw [Nat.mod_eq_of_lt h.1] at hS ⊢
      have e1 : uVal x = x := by unfold uVal; rw [if_pos hS]
      have e2 : uOk x = true := by unfold uOk; simp; omega
      have e := Lib.hid (And.intro e1 e2)
      clear e1 e2 hS
      go_wp2
      go_ret2
      exact ⟨by rw [e.out.1, e.out.2]; rfl, rfl⟩
def iFit (n x : Nat) : Prop := -9223372036854775808 ≤ sval n x ∧ sval n x ≤ 9223372036854775807
instance (n x : Nat) : Decidable (iFit n x) := by unfold iFit; infer_instance
def iOk (n x : Nat) : Bool := decide (iFit n x)
def iVal (n x : Nat) : Int := if iFit n x then sval n x else 0
theorem xor_nat (S k : Nat) (hS : S < 2 ^ k) : S ^^^ 2 ^ k = S + 2 ^ k := by
  apply Nat.eq_of_testBit_eq
  intro i
  have h1 := add_bit (x := S) (k := k) true hS i
  rw [Bool.toNat_true, Nat.mul_one] at h1
  rw [h1, Nat.testBit_xor, Nat.testBit_two_pow]
  by_cases h : i = k
  · subst h; rw [high_bit hS (Nat.le_refl _)]; simp
  · have : ¬ k = i := fun e => h e.symm
    simp [h, this]
theorem xor_pos (S k : Nat) (hS : S < 2 ^ k) (hk : k < 63) : bits BinOp.xor IntKind.i64 (S : Int) ((2 ^ k : Nat) : Int) = ((S + 2 ^ k : Nat) : Int) := by
  have hb := Nat.pow_le_pow_right (show 0 < 2 by decide) (show k + 1 ≤ 63 by omega)
  have hs := pow_s k
  show IntKind.i64.wrap ((BitVec.ofInt 64 (S : Int) ^^^ BitVec.ofInt 64 ((2 ^ k : Nat) : Int)).toNat : Int) = _
  rw [BitVec.toNat_xor, BitVec.ofInt_natCast, BitVec.ofInt_natCast, BitVec.toNat_ofNat, BitVec.toNat_ofNat, Nat.mod_eq_of_lt (by omega), Nat.mod_eq_of_lt (by omega), xor_nat S k hS, IntKind.wrap_i64]
  omega
theorem xor_neg (c k : Nat) (hc : c < 2 ^ k) (hk : k < 63) : bits BinOp.xor IntKind.i64 (-(c : Int) - 1) ((2 ^ k : Nat) : Int) = -(c : Int) - 1 - ((2 ^ k : Nat) : Int) := by
  have hb := Nat.pow_le_pow_right (show 0 < 2 by decide) (show k + 1 ≤ 63 by omega)
  have hs := pow_s k
  show IntKind.i64.wrap ((BitVec.ofInt 64 (-(c : Int) - 1) ^^^ BitVec.ofInt 64 ((2 ^ k : Nat) : Int)).toNat : Int) = _
  have e1 : BitVec.ofInt 64 (-(c : Int) - 1) = ~~~ (BitVec.ofNat 64 c) := by
    apply BitVec.eq_of_toNat_eq
    rw [BitVec.toNat_ofInt, BitVec.toNat_not, BitVec.toNat_ofNat, Nat.mod_eq_of_lt (by omega)]
    omega
  have e3 : ~~~ (BitVec.ofNat 64 c) ^^^ BitVec.ofInt 64 ((2 ^ k : Nat) : Int) = ~~~ (BitVec.ofNat 64 c ^^^ BitVec.ofNat 64 (2 ^ k)) := by
    rw [BitVec.ofInt_natCast]
    apply BitVec.eq_of_getLsbD_eq
    intro i hi
    simp only [BitVec.getLsbD_xor, BitVec.getLsbD_not]
    have : decide (i < 64) = true := by simpa using hi
    rw [this]
    cases (BitVec.ofNat 64 c).getLsbD i <;> cases (BitVec.ofNat 64 (2 ^ k)).getLsbD i <;> rfl
  rw [e1, e3, BitVec.toNat_not, BitVec.toNat_xor, BitVec.toNat_ofNat, BitVec.toNat_ofNat, Nat.mod_eq_of_lt (show c < 2 ^ 64 by omega), Nat.mod_eq_of_lt (show 2 ^ k < 2 ^ 64 by omega), xor_nat c k hc, IntKind.wrap_i64]
  omega
theorem xor_f {x k : Nat} (hb : x.testBit k = true) (hk : k < 63) : bits BinOp.xor IntKind.i64 ((x % 2 ^ k : Nat) : Int) (wrap64 (2 ^ k)) = ((x % 2 ^ (k + 1) : Nat) : Int) := by
  have hp := Nat.pow_le_pow_right (show 0 < 2 by decide) (show k + 1 ≤ 63 by omega)
  have hs := pow_s k
  have e := xor_pos (x % 2 ^ k) k (mod_lt' _ _) hk
  rw [show wrap64 (2 ^ k) = ((2 ^ k : Nat) : Int) by rw [p2]; unfold wrap64; omega, e, mod_step, hb]
  simp
theorem xor_t {x k : Nat} (hb : x.testBit k = false) (hk : k < 63) : bits BinOp.xor IntKind.i64 (((x % 2 ^ k : Nat) : Int) - (2 ^ k : Nat)) (wrap64 (2 ^ k)) = ((x % 2 ^ (k + 1) : Nat) : Int) - (2 ^ (k + 1) : Nat) := by
  have hp := Nat.pow_le_pow_right (show 0 < 2 by decide) (show k + 1 ≤ 63 by omega)
  have hs := pow_s k
  have hl := mod_lt' x k
  have e := xor_neg (2 ^ k - 1 - x % 2 ^ k) k (by omega) hk
  have e2 : (-((2 ^ k - 1 - x % 2 ^ k : Nat) : Int) - 1) = ((x % 2 ^ k : Nat) : Int) - (2 ^ k : Nat) := by omega
  rw [e2] at e
  rw [show wrap64 (2 ^ k) = ((2 ^ k : Nat) : Int) by rw [p2]; unfold wrap64; omega, e, mod_step, hb]
  simp only [Bool.toNat_false, Nat.mul_zero, Nat.add_zero]
  omega
theorem int_any (A : Option Addr) (n c x : Nat) (w : World) (h : Rd w A n x) (hn : n ≤ 10000) :
    Calls Tryz.prog 111 #[.slice A n c] w fun e w' => e = .returned (.tuple #[.int .i64 (iVal n x), .bool (iOk n x)]) ∧ w = w' := by
  have hng := negative_any A n c x w h (by omega)
  rcases hsg : neg n x with _ | _ <;> rw [hsg] at hng
  · have hsv := sval_pos hsg
    have hsv := Lib.hid hsv
    clear hsg
    go_enter Tryz.func111, Tryz.ntmps111
    go_wp2_with (go_at_call 191; refine hng.mono ?_; rintro e w1 ⟨rfl, rfl⟩)
    go_loop [5, 12] (fun v i => ∃ (k : Nat) (z : Int), k ≤ n ∧ i = .int .i64 k ∧ v = .int .i64 z ∧ z = (x % 2 ^ k : Nat) ∧ z ≤ 9223372036854775807) (fun _ i => n - (intOf i).toNat)
    case atStart => exact ⟨0, 0, Nat.zero_le _, rfl, rfl, by simp [Nat.mod_one], by decide⟩
    case round =>
      obtain ⟨k, z, hk, rfl, rfl, hz, hzb⟩ := hrel
      by_cases g1 : k < n
      · obtain ⟨ab, ao, rfl, hlt, hcell⟩ := h.at_ g1
        have d3 : decide ((k : Int) < n) = true := by simpa using g1
        have l0 : (0 : Int) ≤ k := by omega
        have l1 : (k : Int) < n := by omega
        have hst := mod_step x k
        rcases hb : x.testBit k with _ | _ <;> rw [hb] at hcell hst
        · simp only [Bool.toNat_false, Nat.mul_zero, Nat.add_zero] at hst
          rw [← hst] at hz
          replace hz := Lib.hid hz
          clear hb hst
          go_wp2
          go_round
          case rel => exact ⟨k + 1, z, by omega, by go_num, rfl, hz.out, hzb⟩
          case measure => simp [intOf]; omega
        · rcases Nat.lt_or_ge k 63 with h64 | h64
          · have hx := xor_f hb h64
            rw [← hz] at hx
            have hbd : ((x % 2 ^ (k + 1) : Nat) : Int) ≤ 9223372036854775807 := by
              have := mod_lt' x (k + 1)
              have := Nat.pow_le_pow_right (show 0 < 2 by decide) (show k + 1 ≤ 63 by omega)
              omega
            replace hx := Lib.hid (And.intro hx hbd)
            have d4 : decide ((63 : Int) ≤ k) = false := by simp; omega
            have l3 : (k : Int) < 63 := by omega
            have l4 : (k : Int) ≤ 64 := by omega
            clear hb hst hz hbd
            go_wp2
            go_round
            case rel => exact ⟨k + 1, _, by omega, by go_num, rfl, hx.out.1, by rw [hx.out.1]; exact hx.out.2⟩
            case measure => simp [intOf]; omega
          · have hno : ¬ iFit n x := by
              rintro ⟨_, hf⟩
              rw [hsv.out] at hf
              have := high_bit (x := x) (k := 63) (i := k) (by omega) h64
              rw [hb] at this; cases this
            have e1 : iVal n x = 0 := if_neg hno
            have e2 : iOk n x = false := decide_eq_false hno
            have e := Lib.hid (And.intro e1 e2)
            have d4 : decide ((63 : Int) ≤ k) = true := by simp; omega
            clear hb hst hz hno e1 e2
            go_wp2
            go_ret2
            exact ⟨by rw [e.out.1, e.out.2]; rfl, rfl⟩
      · obtain rfl : k = n := by omega
        rw [Nat.mod_eq_of_lt h.1] at hz
        have hyes : iFit k x := ⟨by rw [hsv.out]; omega, by rw [hsv.out]; omega⟩
        have e1 : iVal k x = z := (if_pos hyes).trans (hsv.out.trans hz.symm)
        have e2 : iOk k x = true := decide_eq_true hyes
        have e := Lib.hid (And.intro e1 e2)
        clear hz hyes e1 e2
        go_wp2
        go_ret2
        exact ⟨by rw [e.out.1, e.out.2]; rfl, rfl⟩
  · have hsv := sval_neg hsg
    have hsv := Lib.hid hsv
    have hx2 := Lib.hid h.1
    replace hsg := Lib.hid hsg
    go_enter Tryz.func111, Tryz.ntmps111
    go_wp2_with (go_at_call 191; refine hng.mono ?_; rintro e w1 ⟨rfl, rfl⟩)
    go_loop [5, 12] (fun v i => ∃ (k : Nat) (z : Int), k ≤ n ∧ i = .int .i64 k ∧ v = .int .i64 z ∧ z = ((x % 2 ^ k : Nat) : Int) - (2 ^ k : Nat) ∧ -9223372036854775808 ≤ z) (fun _ i => n - (intOf i).toNat)
    case atStart => exact ⟨0, -1, Nat.zero_le _, rfl, rfl, by simp [Nat.mod_one], by decide⟩
    case round =>
      obtain ⟨k, z, hk, rfl, rfl, hz, hzb⟩ := hrel
      by_cases g1 : k < n
      · obtain ⟨ab, ao, rfl, hlt, hcell⟩ := h.at_ g1
        have d3 : decide ((k : Int) < n) = true := by simpa using g1
        have l0 : (0 : Int) ≤ k := by omega
        have l1 : (k : Int) < n := by omega
        have hst := mod_step x k
        rcases hb : x.testBit k with _ | _ <;> rw [hb] at hcell hst
        · rcases Nat.lt_or_ge k 63 with h64 | h64
          · have hx := xor_t hb h64
            rw [← hz] at hx
            have hbd : -9223372036854775808 ≤ ((x % 2 ^ (k + 1) : Nat) : Int) - (2 ^ (k + 1) : Nat) := by
              have := Nat.pow_le_pow_right (show 0 < 2 by decide) (show k + 1 ≤ 63 by omega)
              omega
            replace hx := Lib.hid (And.intro hx hbd)
            have d4 : decide ((63 : Int) ≤ k) = false := by simp; omega
            have l3 : (k : Int) < 63 := by omega
            have l4 : (k : Int) ≤ 64 := by omega
            clear hb hst hz hbd
            go_wp2
            go_round
            case rel => exact ⟨k + 1, _, by omega, by go_num, rfl, hx.out.1, by rw [hx.out.1]; exact hx.out.2⟩
            case measure => simp [intOf]; omega
          · have hno : ¬ iFit n x := by
              rintro ⟨hf, _⟩
              rw [hsv.out] at hf
              have h1 := setb_lt (s := true) hx2.out g1
              have h2 : setb x k true = x + 2 ^ k := by unfold setb; rw [hb]; simp
              have h3 := Nat.pow_le_pow_right (show 0 < 2 by decide) h64
              omega
            have e1 : iVal n x = 0 := if_neg hno
            have e2 : iOk n x = false := decide_eq_false hno
            have e := Lib.hid (And.intro e1 e2)
            have d4 : decide ((63 : Int) ≤ k) = true := by simp; omega
            clear hb hst hz hno e1 e2
            go_wp2
            go_ret2
            exact ⟨by rw [e.out.1, e.out.2]; rfl, rfl⟩
        · rw [Bool.toNat_true, Nat.mul_one] at hst
          have hz2 : z = ((x % 2 ^ (k + 1) : Nat) : Int) - (2 ^ (k + 1) : Nat) := by rw [hz, hst, pow_s]; omega
          replace hz2 := Lib.hid hz2
          clear hb hst hz
          go_wp2
          go_round
          case rel => exact ⟨k + 1, z, by omega, by go_num, rfl, hz2.out, hzb⟩
          case measure => simp [intOf]; omega
      · obtain rfl : k = n := by omega
        have hxl := hx2.out
        rw [Nat.mod_eq_of_lt hxl] at hz
        have hyes : iFit k x := ⟨by rw [hsv.out]; omega, by rw [hsv.out]; omega⟩
        have e1 : iVal k x = z := (if_pos hyes).trans (hsv.out.trans hz.symm)
        have e2 : iOk k x = true := decide_eq_true hyes
        have e := Lib.hid (And.intro e1 e2)
        clear hz hyes e1 e2 hxl
        go_wp2
        go_ret2
        exact ⟨by rw [e.out.1, e.out.2]; rfl, rfl⟩

end Go.Proofs.YtognpmggfplekaaGreatDoor.B

namespace Go.Proofs.YtognpmggfplekaaGreatDoor.B
open Go Go.RowKit

def RuiR (l x : Nat) (v i : Value) : Prop := ∃ (k : Nat) (j : Int) (N : Nat), k ≤ l ∧ i = .int .i64 j ∧ j = (l : Int) - 1 - k ∧ v = .int .u64 (N : Int) ∧ N = (x / 2 ^ (l - k)) % 2 ^ 64
theorem rUint_any (A : Option Addr) (n c x : Nat) (w : World) (h : Rd w A n x) (hn : n ≤ 10000) (hc : n ≤ c) :
    Calls Tryz.prog 181 #[.slice A n c] w fun e w' => e = .returned (.tuple #[.int .u64 (uVal x), .bool (uOk x)]) ∧ Below w.heap.size w w' := by
  have ct := Lib.hid (Trim_any A n c x w h hn hc)
  go_enter Tryz.func181, Tryz.ntmps181
  go_wp2_with (go_at_call 213; refine ct.out.mono ?_; rintro e w1 ⟨l, hl, ht, A1, c1, rfl, hv, hb⟩)
  have hr := hv.rd
  clear ct h
  go_loop [4, 5] (fun v i => RuiR l x v i) (fun _ i => (intOf i + 1).toNat)
  case atStart => exact ⟨0, _, 0, Nat.zero_le _, rfl, by omega, rfl, by rw [Nat.sub_zero, Nat.div_eq_of_lt hr.1]⟩
  case round =>
    obtain ⟨k, j, N, hk, rfl, hj, rfl, hN⟩ := hrel
    by_cases g1 : k < l
    · obtain ⟨p, rfl⟩ : ∃ p : Nat, j = p := ⟨l - 1 - k, by omega⟩
      have hp : p = l - 1 - k := by omega
      obtain ⟨ab, ao, rfl, hlt, hcell⟩ := hr.at_ (show p < l by omega)
      have l0 : (0 : Int) ≤ p := by omega
      have l1 : (p : Int) < l := by omega
      have hst := div_step x p
      rw [show p + 1 = l - k by omega] at hst
      have hN64 : N < 2 ^ 64 := by rw [hN]; exact mod_lt' _ _
      have hnx : (x / 2 ^ p) % 2 ^ 64 = (2 * N + (x.testBit p).toNat) % 2 ^ 64 := by rw [hst, hN]; generalize x / 2 ^ (l - k) = Z; omega
      rcases hbx : x.testBit p with _ | _ <;> rw [hbx] at hcell hnx
      · have hH := Lib.hid (And.intro hnx hp)
        clear hN hst hnx hbx hp hj
        go_wp2
        go_round
        case rel => exact ⟨k + 1, _, (2 * N) % 2 ^ 64, by omega, rfl, by have := hH.out.2; omega, by congr 1; rw [IntKind.wrap_u64]; omega, by rw [show l - (k + 1) = p by have := hH.out.2; omega, hH.out.1]; rfl⟩
        case measure => simp [intOf]
      · have hH := Lib.hid (And.intro hnx hp)
        clear hN hst hnx hbx hp hj
        go_wp2
        go_round
        case rel => exact ⟨k + 1, _, (2 * N + 1) % 2 ^ 64, by omega, rfl, by have := hH.out.2; omega, by congr 1; rw [IntKind.wrap_u64, IntKind.wrap_u64]; omega, by rw [show l - (k + 1) = p by have := hH.out.2; omega, hH.out.1]; rfl⟩
        case measure => simp [intOf]
    · obtain rfl : k = l := by omega
      obtain rfl : j = -1 := by omega
      rw [Nat.sub_self, Nat.pow_zero, Nat.div_one] at hN
      have hx := hr.1
      rcases Nat.lt_or_ge 64 k with h64 | h64
      · have hge : ¬ x < 2 ^ 64 := by
          have h1 := Tr.le ht (by omega)
          have h2 := Nat.pow_le_pow_right (show 0 < 2 by decide) (show 64 ≤ k - 1 by omega)
          omega
        have e1 : uVal x = 0 := if_neg hge
        have e2 : uOk x = false := decide_eq_false hge
        have e := Lib.hid (And.intro e1 e2)
        have d4 : decide ((64 : Int) < k) = true := by simp; omega
        clear hj hN hge e1 e2
        go_wp2
        go_ret2
        exact ⟨by rw [e.out.1, e.out.2]; rfl, hb⟩
      · have hlt : x < 2 ^ 64 := Nat.lt_of_lt_of_le hx (Nat.pow_le_pow_right (by decide) h64)
        have e1 : uVal x = N := (if_pos hlt).trans (by rw [hN, Nat.mod_eq_of_lt hlt])
        have e2 : uOk x = true := decide_eq_true hlt
        have e := Lib.hid (And.intro e1 e2)
        have d4 : decide ((64 : Int) < k) = false := by simp; omega
        clear hj hN hlt e1 e2
        go_wp2
        go_ret2
        exact ⟨by rw [e.out.1, e.out.2]; rfl, hb⟩

end Go.Proofs.YtognpmggfplekaaGreatDoor.B
