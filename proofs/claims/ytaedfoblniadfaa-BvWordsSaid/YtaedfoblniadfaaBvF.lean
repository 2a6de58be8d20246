/-
  Contracts of the program's power, comparisons, absolute value. Widths up to some thousands.
-/
import Derived.Test.YtaedfoblniadfaaBvE
namespace Go.Proofs.Ytaedfoblniadfaa
open Go Go.RowKit

theorem one_any (n : Nat) (w : World) (hn : n ≤ 10000) : Calls Try.prog 68 #[.int .i64 n] w (RetN w n (1 % 2 ^ n)) := by
  have hmk := fun W => run_makeB n (by omega) W
  rcases Nat.eq_zero_or_pos n with h0 | h0
  · subst h0
    have hmk0 : ∀ W : World, (Instr.makeSlice 22 (.int .i64 0) (.int .i64 0)).run Try.prog W = .ok (.slice (some ⟨W.heap.size, 0, none⟩) 0 0) (W.alloc (.cells (ba 0 0) 4)) := fun W => run_makeB 0 (by decide) W
    have o := Own.new w 4 (ba 0 0)
    clear hmk
    show Calls Try.prog 68 #[.int .i64 0] w (RetN w 0 0)
    go_enter Try.func68, Try.ntmps68
    go_wp2
    go_ret
    exact ⟨_, _, rfl, Nw.of_own o (by decide) (Nat.le_refl _) (by decide), below_new (Below.refl _ _) _⟩
  · have d : decide ((0 : Int) < n) = true := by simpa using h0
    have l0 : (0 : Int) < n := by omega
    have o := Own.new w 4 (ba n 0)
    have hc : (w.alloc (.cells (ba n 0) 4)).cell? ⟨w.heap.size, 0, none⟩ = some (.bool false) := (o.cell 0).trans (ba_get _ _ _ h0)
    have hf := o.free 0
    have o2 := Own.new w 4 ((ba n 0).setIfInBounds 0 (.bool true))
    have hp : 2 ≤ 2 ^ n := by obtain ⟨k, rfl⟩ : ∃ k, n = k + 1 := ⟨n - 1, by omega⟩
                              rw [pow_s]; have := pow_p k; omega
    have e := ba_set (x := 0) true h0
    rw [setb_new (k := 0) (by decide), show 0 + 2 ^ 0 * true.toNat = 1 % 2 ^ n by rw [Nat.mod_eq_of_lt (by omega)]; rfl] at e
    have o2 : Own (w.alloc (.cells ((ba n 0).setIfInBounds 0 (.bool true)) 4)) w.heap.size 4 (ba n (1 % 2 ^ n)) := by rw [← e]; exact o2
    have o2 := Lib.hid o2
    clear o e
    go_enter Try.func68, Try.ntmps68
    go_wp2
    go_ret
    exact ⟨_, _, rfl, Nw.of_own o2.out (mod_lt' _ _) (Nat.le_refl _) (by unfold maxLen; omega), below_new (Below.refl _ _) _⟩
def PowV (n x y m k : Nat) : Nat := (x ^ (y / 2 ^ (m - k))) % 2 ^ n
theorem PowV.zero {n x y m : Nat} (hy : y < 2 ^ m) : PowV n x y m 0 = 1 % 2 ^ n := by unfold PowV; rw [Nat.sub_zero, Nat.div_eq_of_lt hy, Nat.pow_zero]
theorem PowV.last (n x y m : Nat) : PowV n x y m m = (x ^ y) % 2 ^ n := by unfold PowV; simp
theorem PowV.next0 {n x y m k : Nat} (hk : k < m) (h : y.testBit (m - 1 - k) = false) : (PowV n x y m k * PowV n x y m k) % 2 ^ n = PowV n x y m (k + 1) := by
  unfold PowV
  have e := div_step y (m - 1 - k)
  rw [h, show m - 1 - k + 1 = m - k by omega] at e
  rw [show m - (k + 1) = m - 1 - k by omega, e, ← Nat.mul_mod, Bool.toNat_false, Nat.add_zero, Nat.two_mul, Nat.pow_add]
theorem PowV.next1 {n x y m k : Nat} (hk : k < m) (h : y.testBit (m - 1 - k) = true) : (((PowV n x y m k * PowV n x y m k) % 2 ^ n) * x) % 2 ^ n = PowV n x y m (k + 1) := by
  unfold PowV
  have e := div_step y (m - 1 - k)
  rw [h, show m - 1 - k + 1 = m - k by omega] at e
  rw [show m - (k + 1) = m - 1 - k by omega, e, ← Nat.mul_mod, Nat.mod_mul_mod, Nat.two_mul, Nat.pow_add, Nat.pow_add]
  simp
def PowR (n x y m : Nat) (w : World) (v i : Value) (wr : World) : Prop := ∃ k, k ≤ m ∧ i = .int .i64 k ∧ ∃ A' c', v = .slice A' n c' ∧ Nw wr w.heap.size A' n c' (PowV n x y m k) ∧ Below w.heap.size w wr
theorem pow_any (A B : Option Addr) (n c x m d y : Nat) (w : World) (h : Rd w A n x) (h' : Rd w B m y) (hn : n ≤ 10000) (hm : m ≤ 10000) :
    Calls Try.prog 46 #[.slice A n c, .slice B m d] w (RetN w n ((x ^ y) % 2 ^ n)) := by
  go_enter Try.func46, Try.ntmps46
  go_wp2_with (go_at_call 68; refine (one_any _ _ hn).mono ?_; rintro e w1 ⟨A1, c1, rfl, hv1, hb1⟩)
  go_loopw [5, 12] (fun v i wr => PowR n x y m w v i wr) (fun _ i _ => m - (intOf i).toNat)
  case atStart => exact ⟨0, Nat.zero_le _, rfl, A1, c1, rfl, by rw [PowV.zero h'.1]; exact hv1, hb1⟩
  case round =>
    obtain ⟨k, hk, rfl, A', c', rfl, hv, hb⟩ := hrel
    by_cases g1 : k < m
    · obtain ⟨ab, ao, rfl, hlt0, hc0⟩ := h'.at_ (show m - 1 - k < m by omega)
      have hr := h.step hb
      have d1 : decide ((k : Int) < m) = true := by simpa using g1
      have l1 : (k : Int) < m := by omega
      have hm1 := mul_any A' A' n c' (PowV n x y m k) n c' (PowV n x y m k) wr hv.rd hv.rd hn hn
      have hcell := (hb.cell (p := ⟨ab, ao + (m - 1 - k), none⟩) hlt0).trans hc0
      have hx : ((m : Int) - 1 - k).toNat = m - 1 - k := by omega
      rcases hy : y.testBit (m - 1 - k) with _ | _
      · rw [hy] at hcell
        have e := PowV.next0 (n := n) (x := x) g1 hy
        rw [e] at hm1
        have hm1 := Lib.hid hm1
        clear hy hc0 e h h'
        go_wp2_with (go_at_call 19; refine hm1.out.mono ?_; rintro e w2 ⟨A2, c2, rfl, hv2, hb2⟩; have hcell := (hb2.cell (p := ⟨ab, ao + (m - 1 - k), none⟩) (Nat.lt_of_lt_of_le hlt0 hb.size)).trans hcell)
        go_roundw
        case rel => exact ⟨k + 1, by omega, by go_num, A2, c2, rfl, hv2.mono hb.size, below_step hb hb2⟩
        case measure => simp [intOf]; omega
      · rw [hy] at hcell
        have e := Lib.hid (PowV.next1 (n := n) (x := x) g1 hy)
        have hm1 := Lib.hid hm1
        clear hy hc0 h h'
        go_wp2_with (first | (go_at_call 19; (with_reducible refine hm1.out.mono ?_); rintro e w2 ⟨A2, c2, rfl, hv2, hb2⟩; have hcell := (hb2.cell (p := ⟨ab, ao + (m - 1 - k), none⟩) (Nat.lt_of_lt_of_le hlt0 hb.size)).trans hcell) | (go_at_call 19; (with_reducible refine (mul_any _ _ _ _ _ _ _ _ _ hv2.rd (hr.step hb2) hn hn).mono ?_); rintro e w3 ⟨A3, c3, rfl, hv3, hb3⟩))
        go_roundw
        case rel => exact ⟨k + 1, by omega, by go_num, A3, c3, rfl, by rw [← e.out]; exact hv3.mono (Nat.le_trans hb.size hb2.size), below_step (below_step hb hb2) hb3⟩
        case measure => simp [intOf]; omega
    · obtain rfl : k = m := by omega
      rw [PowV.last] at hv
      go_wp2
      go_ret
      exact ⟨A', c', rfl, hv, hb⟩

/-- x continued with copies of a bit up to the width W. -/
def ext (n x W : Nat) (fill : Bool) : Nat := if fill then x + 2 ^ n * (2 ^ (W - n) - 1) else x
theorem ext_bit {n x W i : Nat} {fill : Bool} (hx : x < 2 ^ n) (hi : i < W) : (ext n x W fill).testBit i = if i < n then x.testBit i else fill := by
  unfold ext
  cases fill
  · simp only [Bool.false_eq_true, if_false]
    split
    · rfl
    · exact high_bit hx (by omega)
  · rw [if_pos rfl, Nat.add_comm, Nat.testBit_two_pow_mul_add _ hx]
    split
    · rfl
    · rw [Nat.testBit_two_pow_sub_one]; simp; omega
theorem ext_lt {n x W : Nat} {fill : Bool} (hx : x < 2 ^ n) (hn : n ≤ W) : ext n x W fill < 2 ^ W := by
  have e : 2 ^ W = 2 ^ n * 2 ^ (W - n) := by rw [← Nat.pow_add]; congr 1; omega
  have hp := pow_p (W - n)
  unfold ext
  rw [e]
  cases fill
  · simp only [Bool.false_eq_true, if_false]
    exact Nat.lt_of_lt_of_le hx (Nat.le_mul_of_pos_right _ hp)
  · rw [if_pos rfl, Nat.mul_sub, Nat.mul_one]
    have := Nat.le_mul_of_pos_right (2 ^ n) hp
    omega
def cmpI (x y : Int) : Int := if x < y then -1 else if x = y then 0 else 1
def CmpR (n x m y W : Nat) (fill : Bool) (i : Value) : Prop := ∃ k, k ≤ W ∧ i = .int .i64 k ∧ ext n x W fill / 2 ^ (W - k) = ext m y W fill / 2 ^ (W - k)
theorem compare_any (A B : Option Addr) (n c x m d y : Nat) (fill : Bool) (w : World) (h : Rd w A n x) (h' : Rd w B m y) (hn : n ≤ 10000) (hm : m ≤ 10000) :
    Calls Try.prog 59 #[.slice A n c, .slice B m d, .bool fill] w fun e w' => e = .returned (.int .i64 (cmpI (ext n x (max n m) fill) (ext m y (max n m) fill))) ∧ w = w' := by
  obtain ⟨W, hW⟩ : ∃ W, W = max n m := ⟨_, rfl⟩
  rw [← hW]
  have hcase : n < m ∨ ¬ n < m := by omega
  have hlast : W = if n < m then m else n := by split <;> omega
  have hX := ext_lt (W := W) (fill := fill) h.1 (by omega)
  have hY := ext_lt (W := W) (fill := fill) h'.1 (by omega)
  rcases hcase with hmn | hmn
  · rw [if_pos hmn] at hlast
    subst hlast
    clear hW
    go_enter Try.func59, Try.ntmps59
    go_wp2
    go_loop [17] (fun i => CmpR n x W y W fill i) (fun i => W - (intOf i).toNat)
    case atStart => exact ⟨0, Nat.zero_le _, rfl, by rw [Nat.sub_zero, Nat.div_eq_of_lt hX, Nat.div_eq_of_lt hY]⟩
    case round =>
      obtain ⟨k, hk, rfl, he⟩ := hrel
      by_cases g1 : k < W
      · have d1 : decide ((k : Int) < W) = true := by simpa using g1
        have e1 := div_step (ext n x W fill) (W - 1 - k)
        have e2 := div_step (ext W y W fill) (W - 1 - k)
        rw [show W - 1 - k + 1 = W - k by omega] at e1 e2
        rw [← he] at e2
        obtain ⟨bx, hbx⟩ : ∃ b, b = (ext n x W fill).testBit (W - 1 - k) := ⟨_, rfl⟩
        obtain ⟨bz, hbz⟩ : ∃ b, b = (ext W y W fill).testBit (W - 1 - k) := ⟨_, rfl⟩
        rw [← hbx] at e1
        rw [← hbz] at e2
        have cA : Calls Try.prog 70 #[.slice A n c, .int .i64 ((W : Int) - 1 - k), .bool fill] w (fun e w' => e = .returned (.bool bx) ∧ w = w') := by
          rw [show (W : Int) - 1 - k = ((W - 1 - k : Nat) : Int) by omega, hbx, ext_bit h.1 (by omega)]; exact at_any _ _ _ _ _ _ _ h (by omega) (by omega)
        have cB : Calls Try.prog 70 #[.slice B W d, .int .i64 ((W : Int) - 1 - k), .bool fill] w (fun e w' => e = .returned (.bool bz) ∧ w = w') := by
          rw [show (W : Int) - 1 - k = ((W - 1 - k : Nat) : Int) by omega, hbz, ext_bit h'.1 (by omega)]; exact at_any _ _ _ _ _ _ _ h' (by omega) (by omega)
        obtain ⟨X, hXX⟩ : ∃ X, X = ext n x W fill := ⟨_, rfl⟩
        obtain ⟨Y, hYY⟩ : ∃ Y, Y = ext W y W fill := ⟨_, rfl⟩
        rw [← hXX] at e1 e2
        rw [← hYY] at e2
        have hlt : bx = true → bz = false → Y < X := fun a b => by
          subst a b
          rcases Nat.lt_or_ge Y X with h1 | h1
          · exact h1
          · have := Nat.div_le_div_right (c := 2 ^ (W - 1 - k)) h1; simp at e1 e2; omega
        have hgt : bx = false → bz = true → X < Y := fun a b => by
          subst a b
          rcases Nat.lt_or_ge X Y with h1 | h1
          · exact h1
          · have := Nat.div_le_div_right (c := 2 ^ (W - 1 - k)) h1; simp at e1 e2; omega
        have heq : bx = bz → X / 2 ^ (W - (k + 1)) = Y / 2 ^ (W - (k + 1)) := fun a => by
          rw [show W - (k + 1) = W - 1 - k by omega, e1, e2, a]
        have H := Lib.hid (And.intro hlt (And.intro hgt (And.intro heq (And.intro hXX hYY))))
        have cA := Lib.hid cA
        have cB := Lib.hid cB
        rw [hXX, hYY] at H
        clear hlt hgt heq hXX hYY e1 e2 he hbx hbz hX hY
        cases bx <;> cases bz
        all_goals go_wp2_with (go_at_call 70; (first | (with_reducible refine cA.out.mono ?_) | (with_reducible refine cB.out.mono ?_)); rintro e w1 ⟨rfl, rfl⟩)
        · go_round
          case rel => exact ⟨k + 1, by omega, by go_num, H.out.2.2.1 (by first | trivial | rfl)⟩
          case measure => simp [intOf]; omega
        · go_ret
          exact ⟨ret_i (by have := H.out.2.1 (by first | trivial | rfl) (by first | trivial | rfl); unfold cmpI; rw [if_pos (by omega)]), rfl⟩
        · go_ret
          exact ⟨ret_i (by have := H.out.1 (by first | trivial | rfl) (by first | trivial | rfl); unfold cmpI; rw [if_neg (by omega), if_neg (by omega)]), rfl⟩
        · go_round
          case rel => exact ⟨k + 1, by omega, by go_num, H.out.2.2.1 (by first | trivial | rfl)⟩
          case measure => simp [intOf]; omega
      · obtain rfl : k = W := by omega
        rw [Nat.sub_self, Nat.pow_zero, Nat.div_one, Nat.div_one] at he
        replace he := Lib.hid he
        go_wp2
        go_ret
        exact ⟨ret_i (by rw [he.out]; unfold cmpI; simp), rfl⟩
  · rw [if_neg hmn] at hlast
    subst hlast
    clear hW
    go_enter Try.func59, Try.ntmps59
    go_wp2
    go_loop [17] (fun i => CmpR W x m y W fill i) (fun i => W - (intOf i).toNat)
    case atStart => exact ⟨0, Nat.zero_le _, rfl, by rw [Nat.sub_zero, Nat.div_eq_of_lt hX, Nat.div_eq_of_lt hY]⟩
    case round =>
      obtain ⟨k, hk, rfl, he⟩ := hrel
      by_cases g1 : k < W
      · have d1 : decide ((k : Int) < W) = true := by simpa using g1
        have e1 := div_step (ext W x W fill) (W - 1 - k)
        have e2 := div_step (ext m y W fill) (W - 1 - k)
        rw [show W - 1 - k + 1 = W - k by omega] at e1 e2
        rw [← he] at e2
        obtain ⟨bx, hbx⟩ : ∃ b, b = (ext W x W fill).testBit (W - 1 - k) := ⟨_, rfl⟩
        obtain ⟨bz, hbz⟩ : ∃ b, b = (ext m y W fill).testBit (W - 1 - k) := ⟨_, rfl⟩
        rw [← hbx] at e1
        rw [← hbz] at e2
        have cA : Calls Try.prog 70 #[.slice A W c, .int .i64 ((W : Int) - 1 - k), .bool fill] w (fun e w' => e = .returned (.bool bx) ∧ w = w') := by
          rw [show (W : Int) - 1 - k = ((W - 1 - k : Nat) : Int) by omega, hbx, ext_bit h.1 (by omega)]; exact at_any _ _ _ _ _ _ _ h (by omega) (by omega)
        have cB : Calls Try.prog 70 #[.slice B m d, .int .i64 ((W : Int) - 1 - k), .bool fill] w (fun e w' => e = .returned (.bool bz) ∧ w = w') := by
          rw [show (W : Int) - 1 - k = ((W - 1 - k : Nat) : Int) by omega, hbz, ext_bit h'.1 (by omega)]; exact at_any _ _ _ _ _ _ _ h' (by omega) (by omega)
        obtain ⟨X, hXX⟩ : ∃ X, X = ext W x W fill := ⟨_, rfl⟩
        obtain ⟨Y, hYY⟩ : ∃ Y, Y = ext m y W fill := ⟨_, rfl⟩
        rw [← hXX] at e1 e2
        rw [← hYY] at e2
        have hlt : bx = true → bz = false → Y < X := fun a b => by
          subst a b
          rcases Nat.lt_or_ge Y X with h1 | h1
          · exact h1
          · have := Nat.div_le_div_right (c := 2 ^ (W - 1 - k)) h1; simp at e1 e2; omega
        have hgt : bx = false → bz = true → X < Y := fun a b => by
          subst a b
          rcases Nat.lt_or_ge X Y with h1 | h1
          · exact h1
          · have := Nat.div_le_div_right (c := 2 ^ (W - 1 - k)) h1; simp at e1 e2; omega
        have heq : bx = bz → X / 2 ^ (W - (k + 1)) = Y / 2 ^ (W - (k + 1)) := fun a => by
          rw [show W - (k + 1) = W - 1 - k by omega, e1, e2, a]
        have H := Lib.hid (And.intro hlt (And.intro hgt (And.intro heq (And.intro hXX hYY))))
        have cA := Lib.hid cA
        have cB := Lib.hid cB
        rw [hXX, hYY] at H
        clear hlt hgt heq hXX hYY e1 e2 he hbx hbz hX hY
        cases bx <;> cases bz
        all_goals go_wp2_with (go_at_call 70; (first | (with_reducible refine cA.out.mono ?_) | (with_reducible refine cB.out.mono ?_)); rintro e w1 ⟨rfl, rfl⟩)
        · go_round
          case rel => exact ⟨k + 1, by omega, by go_num, H.out.2.2.1 (by first | trivial | rfl)⟩
          case measure => simp [intOf]; omega
        · go_ret
          exact ⟨ret_i (by have := H.out.2.1 (by first | trivial | rfl) (by first | trivial | rfl); unfold cmpI; rw [if_pos (by omega)]), rfl⟩
        · go_ret
          exact ⟨ret_i (by have := H.out.1 (by first | trivial | rfl) (by first | trivial | rfl); unfold cmpI; rw [if_neg (by omega), if_neg (by omega)]), rfl⟩
        · go_round
          case rel => exact ⟨k + 1, by omega, by go_num, H.out.2.2.1 (by first | trivial | rfl)⟩
          case measure => simp [intOf]; omega
      · obtain rfl : k = W := by omega
        rw [Nat.sub_self, Nat.pow_zero, Nat.div_one, Nat.div_one] at he
        replace he := Lib.hid he
        go_wp2
        go_ret
        exact ⟨ret_i (by rw [he.out]; unfold cmpI; simp), rfl⟩
theorem cmp_any (A B : Option Addr) (n c x m d y : Nat) (w : World) (h : Rd w A n x) (h' : Rd w B m y) (hn : n ≤ 10000) (hm : m ≤ 10000) :
    Calls Try.prog 26 #[.slice A n c, .slice B m d] w fun e w' => e = .returned (.int .i64 (cmpI x y)) ∧ w = w' := by
  have hc := compare_any A B n c x m d y false w h h' hn hm
  simp only [ext, Bool.false_eq_true, if_false] at hc
  go_enter Try.func26, Try.ntmps26
  go_wp2_with (go_at_call 59; refine hc.mono ?_; rintro e w1 ⟨rfl, rfl⟩)
  go_ret
  exact ⟨rfl, rfl⟩
/-- The signed value. -/
def sval (n x : Nat) : Int := if neg n x then (x : Int) - (2 ^ n : Nat) else x
theorem sval_neg {n x : Nat} (h : neg n x = true) : sval n x = (x : Int) - (2 ^ n : Nat) := by unfold sval; rw [h]; rfl
theorem sval_pos {n x : Nat} (h : neg n x = false) : sval n x = x := by unfold sval; rw [h]; rfl
theorem ext_val {n x W : Nat} (hn : n ≤ W) : (ext n x W true : Int) = (x : Int) - (2 ^ n : Nat) + (2 ^ W : Nat) := by
  have e : 2 ^ W = 2 ^ n * 2 ^ (W - n) := by rw [← Nat.pow_add]; congr 1; omega
  have hp := Nat.le_mul_of_pos_right (2 ^ n) (pow_p (W - n))
  unfold ext
  rw [if_pos rfl, e, Nat.mul_sub, Nat.mul_one]
  omega
theorem cmp_ext {n x m y : Nat} {f : Bool} (h : neg n x = f) (h' : neg m y = f) : cmpI (ext n x (max n m) f) (ext m y (max n m) f) = cmpI (sval n x) (sval m y) := by
  cases f
  · rw [sval_pos h, sval_pos h']; rfl
  · rw [sval_neg h, sval_neg h', ext_val (Nat.le_max_left _ _), ext_val (Nat.le_max_right _ _)]
    unfold cmpI
    have e1 : ((x : Int) - (2 ^ n : Nat) + (2 ^ (max n m) : Nat) < (y : Int) - (2 ^ m : Nat) + (2 ^ (max n m) : Nat)) ↔ ((x : Int) - (2 ^ n : Nat) < (y : Int) - (2 ^ m : Nat)) := by omega
    have e2 : ((x : Int) - (2 ^ n : Nat) + (2 ^ (max n m) : Nat) = (y : Int) - (2 ^ m : Nat) + (2 ^ (max n m) : Nat)) ↔ ((x : Int) - (2 ^ n : Nat) = (y : Int) - (2 ^ m : Nat)) := by omega
    simp only [e1, e2]
theorem cmp_np {n x m y : Nat} (hx : x < 2 ^ n) (h : neg n x = true) (h' : neg m y = false) : cmpI (sval n x) (sval m y) = -1 := by
  rw [sval_neg h, sval_pos h']; unfold cmpI; rw [if_pos (by omega)]
theorem cmp_pn {n x m y : Nat} (hy : y < 2 ^ m) (h : neg n x = false) (h' : neg m y = true) : cmpI (sval n x) (sval m y) = 1 := by
  rw [sval_pos h, sval_neg h']; unfold cmpI; rw [if_neg (by omega), if_neg (by omega)]
theorem scmp_any (A B : Option Addr) (n c x m d y : Nat) (w : World) (h : Rd w A n x) (h' : Rd w B m y) (hn : n ≤ 10000) (hm : m ≤ 10000) :
    Calls Try.prog 28 #[.slice A n c, .slice B m d] w fun e w' => e = .returned (.int .i64 (cmpI (sval n x) (sval m y))) ∧ w = w' := by
  have c1 := negative_any A n c x w h (by omega)
  have c2 := negative_any B m d y w h' (by omega)
  rcases e1 : neg n x with _ | _ <;> rcases e2 : neg m y with _ | _ <;> rw [e1] at c1 <;> rw [e2] at c2
  · have c3 := compare_any A B n c x m d y false w h h' hn hm
    rw [cmp_ext e1 e2] at c3
    clear e1 e2 h h'
    go_enter Try.func28, Try.ntmps28
    go_wp2_with (first | (go_at_call 61; (first | (with_reducible refine c1.mono ?_) | (with_reducible refine c2.mono ?_)); rintro e w1 ⟨rfl, rfl⟩) | (go_at_call 59; (with_reducible refine c3.mono ?_); rintro e w1 ⟨rfl, rfl⟩))
    go_ret
    exact ⟨rfl, rfl⟩
  · have c3 := Lib.hid (cmp_pn h'.1 e1 e2)
    clear e1 e2 h h'
    go_enter Try.func28, Try.ntmps28
    go_wp2_with (go_at_call 61; (first | (with_reducible refine c1.mono ?_) | (with_reducible refine c2.mono ?_)); rintro e w1 ⟨rfl, rfl⟩)
    go_ret
    exact ⟨ret_i c3.out.symm, rfl⟩
  · have c3 := Lib.hid (cmp_np h.1 e1 e2)
    clear e1 e2 h h'
    go_enter Try.func28, Try.ntmps28
    go_wp2_with (go_at_call 61; (first | (with_reducible refine c1.mono ?_) | (with_reducible refine c2.mono ?_)); rintro e w1 ⟨rfl, rfl⟩)
    go_ret
    exact ⟨ret_i c3.out.symm, rfl⟩
  · have c3 := compare_any A B n c x m d y true w h h' hn hm
    rw [cmp_ext e1 e2] at c3
    clear e1 e2 h h'
    go_enter Try.func28, Try.ntmps28
    go_wp2_with (first | (go_at_call 61; (first | (with_reducible refine c1.mono ?_) | (with_reducible refine c2.mono ?_)); rintro e w1 ⟨rfl, rfl⟩) | (go_at_call 59; (with_reducible refine c3.mono ?_); rintro e w1 ⟨rfl, rfl⟩))
    go_ret
    exact ⟨rfl, rfl⟩
theorem zero_any (A : Option Addr) (n c x : Nat) (w : World) (h : Rd w A n x) (hn : n ≤ 10000) :
    Calls Try.prog 63 #[.slice A n c] w fun e w' => e = .returned (.bool (decide (x = 0))) ∧ w = w' := by
  have hz : (cmpI x 0 == 0) = decide (x = 0) := by
    unfold cmpI
    by_cases hx : x = 0
    · subst hx; rfl
    · rw [if_neg (by omega), if_neg (by omega)]; simp [hx]
  have hc := cmp_any A none n c x 0 0 0 w h (Rd.nil w) hn (by omega)
  rw [← hz]
  have hc := Lib.hid hc
  clear hz h
  go_enter Try.func63, Try.ntmps63
  go_wp2_with (go_at_call 26; refine hc.out.mono ?_; rintro e w1 ⟨rfl, rfl⟩)
  go_ret
  exact ⟨rfl, rfl⟩
/-- The size of the signed value in n bits. -/
def absv (n x : Nat) : Nat := if neg n x then 2 ^ n - x else x
theorem absv_lt {n x : Nat} (hx : x < 2 ^ n) : absv n x < 2 ^ n := by
  unfold absv
  cases h : neg n x
  · exact hx
  · have : x ≠ 0 := by rintro rfl; simp [neg] at h
    simp; omega
theorem absolute_any (A : Option Addr) (n c x : Nat) (w : World) (h : Rd w A n x) (hn : n ≤ 10000) :
    Calls Try.prog 64 #[.slice A n c] w fun e w' => ∃ A' c', e = .returned (.slice A' n c') ∧ Rd w' A' n (absv n x) ∧ Below w.heap.size w w' := by
  have c1 := negative_any A n c x w h (by omega)
  rcases e1 : neg n x with _ | _ <;> rw [e1] at c1
  · have h1 : Rd w A n (absv n x) := by unfold absv; rw [e1]; exact h
    clear e1 h
    go_enter Try.func64, Try.ntmps64
    go_wp2_with (go_at_call 61; refine c1.mono ?_; rintro e w1 ⟨rfl, rfl⟩)
    go_ret
    exact ⟨_, _, rfl, h1, Below.refl _ _⟩
  · have h2 : subv n 0 x = absv n x := by
      have hx := h.1
      have : x ≠ 0 := by rintro rfl; simp [neg] at e1
      unfold subv absv; rw [e1, if_pos rfl, Nat.mod_eq_of_lt hx, Nat.zero_add, Nat.mod_eq_of_lt (by omega)]
    have c2 := neg_any A n c x w h hn
    rw [h2] at c2
    clear e1 h h2
    go_enter Try.func64, Try.ntmps64
    go_wp2_with (first | (go_at_call 61; refine c1.mono ?_; rintro e w1 ⟨rfl, rfl⟩) | (go_at_call 18; refine c2.mono ?_; rintro e w1 ⟨A1, c1, rfl, hv, hb⟩))
    go_ret
    exact ⟨_, _, rfl, hv.rd, hb⟩
end Go.Proofs.Ytaedfoblniadfaa
