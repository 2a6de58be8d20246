/-
  Contracts of the program's power, comparisons, absolute value. Widths up to some thousands.
  The plain mathematics of the division bit by bit. No conditions; nothing of the program.
  Contracts of the program's division. Widths up to some thousands.
  Contracts of the program's shifts, of the reference's Same and FromInt. Widths up to some thousands.
-/
import Derived.Test.YtognpmggfplekaaGreatDoorPcQe
import Derived.Test.YtognpmggfplekaaGreatDoorPcQa
import Derived.BigQuiet
import Derived.Deep.QuietTactic

set_option maxRecDepth 100000
namespace Go.Proofs.YtognpmggfplekaaGreatDoor.B
open Go Go.RowKit

theorem one_any (n : Nat) (w : World) (hn : n ≤ 10000) : Calls Tryz.prog 205 #[.int .i64 n] w (RetN w n (1 % 2 ^ n)) := by
  have hmk := fun W => run_makeB n (by omega) W
  rcases Nat.eq_zero_or_pos n with h0 | h0
  · subst h0
    have hmk0 : ∀ W : World, (Instr.makeSlice 90 (.int .i64 0) (.int .i64 0)).run Tryz.prog W = .ok (.slice (some ⟨W.heap.size, 0, none⟩) 0 0) (W.alloc (.cells (ba 0 0) 4)) := fun W => run_makeB 0 (by decide) W
    have o := Own.new w 4 (ba 0 0)
    clear hmk
    show Calls Tryz.prog 205 #[.int .i64 0] w (RetN w 0 0)
    go_enter Tryz.func205, Tryz.ntmps205
    go_wp2
    go_ret
    exact ⟨_, _, rfl, Nw.of_own o (by decide) (Nat.le_refl _) (by decide), below_new (Below.refl _ _) _⟩
  · have d : decide ((0 : Int) < n) = true := by simpa using h0
    have l0 : (0 : Int) < n := by omega
    have o := Own.new w 4 (ba n 0)
    have hc : (w.alloc (.cells (ba n 0) 4)).cell? ⟨w.heap.size, 0, none⟩ = some (.bool false) := (o.cell 0).trans (ba_get _ _ _ h0)
    have hf := o.free 0
    have o2 := Own.new w 4 ((ba n 0).setIfInBounds 0 (.bool true))
    have hp : 2 ≤ 2 ^ n := by obtain ⟨k, rfl⟩ : ∃ k, n = k + 1 := ⟨n - 1, by omega⟩
                              rw [pow_s]; have := pow_p k; omega
    have e := ba_set (x := 0) true h0
    rw [setb_new (k := 0) (by decide), show 0 + 2 ^ 0 * true.toNat = 1 % 2 ^ n by rw [Nat.mod_eq_of_lt (by omega)]; rfl] at e
    have o2 : Own (w.alloc (.cells ((ba n 0).setIfInBounds 0 (.bool true)) 4)) w.heap.size 4 (ba n (1 % 2 ^ n)) := by rw [← e]; exact o2
    have o2 := Lib.hid o2
    clear o e
    go_enter Tryz.func205, Tryz.ntmps205
    go_wp2
    go_ret
    exact ⟨_, _, rfl, Nw.of_own o2.out (mod_lt' _ _) (Nat.le_refl _) (by unfold maxLen; omega), below_new (Below.refl _ _) _⟩
def PowV (n x y m k : Nat) : Nat := (x ^ (y / 2 ^ (m - k))) % 2 ^ n
theorem PowV.zero {n x y m : Nat} (hy : y < 2 ^ m) : PowV n x y m 0 = 1 % 2 ^ n := by unfold PowV; rw [Nat.sub_zero, Nat.div_eq_of_lt hy, Nat.pow_zero]
theorem PowV.last (n x y m : Nat) : PowV n x y m m = (x ^ y) % 2 ^ n := by unfold PowV; simp
theorem PowV.next0 {n x y m k : Nat} (hk : k < m) (h : y.testBit (m - 1 - k) = false) : (PowV n x y m k * PowV n x y m k) % 2 ^ n = PowV n x y m (k + 1) := by
  unfold PowV
  have e := div_step y (m - 1 - k)
  rw [h, show m - 1 - k + 1 = m - k by omega] at e
  rw [show m - (k + 1) = m - 1 - k by omega, e, ← Nat.mul_mod, Bool.toNat_false, Nat.add_zero, Nat.two_mul, Nat.pow_add]
theorem PowV.next1 {n x y m k : Nat} (hk : k < m) (h : y.testBit (m - 1 - k) = true) : (((PowV n x y m k * PowV n x y m k) % 2 ^ n) * x) % 2 ^ n = PowV n x y m (k + 1) := by
  unfold PowV
  have e := div_step y (m - 1 - k)
  rw [h, show m - 1 - k + 1 = m - k by omega] at e
  rw [show m - (k + 1) = m - 1 - k by omega, e, ← Nat.mul_mod, Nat.mod_mul_mod, Nat.two_mul, Nat.pow_add, Nat.pow_add]
  simp
def PowR (n x y m : Nat) (w : World) (v i : Value) (wr : World) : Prop := ∃ k, k ≤ m ∧ i = .int .i64 k ∧ ∃ A' c', v = .slice A' n c' ∧ Nw wr w.heap.size A' n c' (PowV n x y m k) ∧ Below w.heap.size w wr
theorem pow_any (A B : Option Addr) (n c x m d y : Nat) (w : World) (h : Rd w A n x) (h' : Rd w B m y) (hn : n ≤ 10000) (hm : m ≤ 10000) :
    Calls Tryz.prog 156 #[.slice A n c, .slice B m d] w (RetN w n ((x ^ y) % 2 ^ n)) := by
  go_enter Tryz.func156, Tryz.ntmps156
  go_wp2_with (go_at_call 205; refine (one_any _ _ hn).mono ?_; rintro e w1 ⟨A1, c1, rfl, hv1, hb1⟩)
  go_loopw [5, 12] (fun v i wr => PowR n x y m w v i wr) (fun _ i _ => m - (intOf i).toNat)
  case atStart => exact ⟨0, Nat.zero_le _, rfl, A1, c1, rfl, by rw [PowV.zero h'.1]; exact hv1, hb1⟩
  case round =>
    obtain ⟨k, hk, rfl, A', c', rfl, hv, hb⟩ := hrel
    by_cases g1 : k < m
    · obtain ⟨ab, ao, rfl, hlt0, hc0⟩ := h'.at_ (show m - 1 - k < m by omega)
      have hr := h.step hb
      have d1 : decide ((k : Int) < m) = true := by simpa using g1
      have l1 : (k : Int) < m := by omega
      have hm1 := mul_any A' A' n c' (PowV n x y m k) n c' (PowV n x y m k) wr hv.rd hv.rd hn hn
      have hcell := (hb.cell (p := ⟨ab, ao + (m - 1 - k), none⟩) hlt0).trans hc0
      have hx : ((m : Int) - 1 - k).toNat = m - 1 - k := by omega
      rcases hy : y.testBit (m - 1 - k) with _ | _
      · rw [hy] at hcell
        have e := PowV.next0 (n := n) (x := x) g1 hy
        rw [e] at hm1
        have hm1 := Lib.hid hm1
        clear hy hc0 e h h'
        go_wp2_with (go_at_call 174; refine hm1.out.mono ?_; rintro e w2 ⟨A2, c2, rfl, hv2, hb2⟩; have hcell := (hb2.cell (p := ⟨ab, ao + (m - 1 - k), none⟩) (Nat.lt_of_lt_of_le hlt0 hb.size)).trans hcell)
        go_roundw
        case rel => exact ⟨k + 1, by omega, by go_num, A2, c2, rfl, hv2.mono hb.size, below_step hb hb2⟩
        case measure => simp [intOf]; omega
      · rw [hy] at hcell
        have e := Lib.hid (PowV.next1 (n := n) (x := x) g1 hy)
        have hm1 := Lib.hid hm1
        clear hy hc0 h h'
        go_wp2_with (first | (go_at_call 174; (with_reducible refine hm1.out.mono ?_); rintro e w2 ⟨A2, c2, rfl, hv2, hb2⟩; have hcell := (hb2.cell (p := ⟨ab, ao + (m - 1 - k), none⟩) (Nat.lt_of_lt_of_le hlt0 hb.size)).trans hcell) | (go_at_call 174; (with_reducible refine (mul_any _ _ _ _ _ _ _ _ _ hv2.rd (hr.step hb2) hn hn).mono ?_); rintro e w3 ⟨A3, c3, rfl, hv3, hb3⟩))
        go_roundw
        case rel => exact ⟨k + 1, by omega, by go_num, A3, c3, rfl, by rw [← e.out]; exact hv3.mono (Nat.le_trans hb.size hb2.size), below_step (below_step hb hb2) hb3⟩
        case measure => simp [intOf]; omega
    · obtain rfl : k = m := by omega
      rw [PowV.last] at hv
      go_wp2
      go_ret
      exact ⟨A', c', rfl, hv, hb⟩

def ext (n x W : Nat) (fill : Bool) : Nat := if fill then x + 2 ^ n * (2 ^ (W - n) - 1) else x
theorem ext_bit {n x W i : Nat} {fill : Bool} (hx : x < 2 ^ n) (hi : i < W) : (ext n x W fill).testBit i = if i < n then x.testBit i else fill := by
  unfold ext
  cases fill
  · simp only [Bool.false_eq_true, if_false]
    split
    · rfl
    · exact high_bit hx (by omega)
  · rw [if_pos rfl, Nat.add_comm, Nat.testBit_two_pow_mul_add _ hx]
    split
    · rfl
    · rw [Nat.testBit_two_pow_sub_one]; simp; omega
theorem ext_lt {n x W : Nat} {fill : Bool} (hx : x < 2 ^ n) (hn : n ≤ W) : ext n x W fill < 2 ^ W := by
  have e : 2 ^ W = 2 ^ n * 2 ^ (W - n) := by rw [← Nat.pow_add]; congr 1; omega
  have hp := pow_p (W - n)
  unfold ext
  rw [e]
  cases fill
  · simp only [Bool.false_eq_true, if_false]
    exact Nat.lt_of_lt_of_le hx (Nat.le_mul_of_pos_right _ hp)
  · rw [if_pos rfl, Nat.mul_sub, Nat.mul_one]
    have := Nat.le_mul_of_pos_right (2 ^ n) hp
    omega
def cmpI (x y : Int) : Int := if x < y then -1 else if x = y then 0 else 1
def CmpR (n x m y W : Nat) (fill : Bool) (i : Value) : Prop := ∃ k, k ≤ W ∧ i = .int .i64 k ∧ ext n x W fill / 2 ^ (W - k) = ext m y W fill / 2 ^ (W - k)
theorem compare_any (A B : Option Addr) (n c x m d y : Nat) (fill : Bool) (w : World) (h : Rd w A n x) (h' : Rd w B m y) (hn : n ≤ 10000) (hm : m ≤ 10000) :
    Calls Tryz.prog 226 #[.slice A n c, .slice B m d, .bool fill] w fun e w' => e = .returned (.int .i64 (cmpI (ext n x (max n m) fill) (ext m y (max n m) fill))) ∧ w = w' := by
  obtain ⟨W, hW⟩ : ∃ W, W = max n m := ⟨_, rfl⟩
  rw [← hW]
  have hcase : n < m ∨ ¬ n < m := by omega
  have hlast : W = if n < m then m else n := by split <;> omega
  have hX := ext_lt (W := W) (fill := fill) h.1 (by omega)
  have hY := ext_lt (W := W) (fill := fill) h'.1 (by omega)
  rcases hcase with hmn | hmn
  · rw [if_pos hmn] at hlast
    subst hlast
    clear hW
    go_enter Tryz.func226, Tryz.ntmps226
    go_wp2
    go_loop [17] (fun i => CmpR n x W y W fill i) (fun i => W - (intOf i).toNat)
    case atStart => exact ⟨0, Nat.zero_le _, rfl, by rw [Nat.sub_zero, Nat.div_eq_of_lt hX, Nat.div_eq_of_lt hY]⟩
    case round =>
      obtain ⟨k, hk, rfl, he⟩ := hrel
      by_cases g1 : k < W
      · have d1 : decide ((k : Int) < W) = true := by simpa using g1
        have e1 := div_step (ext n x W fill) (W - 1 - k)
        have e2 := div_step (ext W y W fill) (W - 1 - k)
        rw [show W - 1 - k + 1 = W - k by omega] at e1 e2
        rw [← he] at e2
        obtain ⟨bx, hbx⟩ : ∃ b, b = (ext n x W fill).testBit (W - 1 - k) := ⟨_, rfl⟩
        obtain ⟨bz, hbz⟩ : ∃ b, b = (ext W y W fill).testBit (W - 1 - k) := ⟨_, rfl⟩
        rw [← hbx] at e1
        rw [← hbz] at e2
        have cA : Calls Tryz.prog 222 #[.slice A n c, .int .i64 ((W : Int) - 1 - k), .bool fill] w (fun e w' => e = .returned (.bool bx) ∧ w = w') := by
          rw [show (W : Int) - 1 - k = ((W - 1 - k : Nat) : Int) by omega, hbx, ext_bit h.1 (by omega)]; exact at_any _ _ _ _ _ _ _ h (by omega) (by omega)
        have cB : Calls Tryz.prog 222 #[.slice B W d, .int .i64 ((W : Int) - 1 - k), .bool fill] w (fun e w' => e = .returned (.bool bz) ∧ w = w') := by
          rw [show (W : Int) - 1 - k = ((W - 1 - k : Nat) : Int) by omega, hbz, ext_bit h'.1 (by omega)]; exact at_any _ _ _ _ _ _ _ h' (by omega) (by omega)
        obtain ⟨X, hXX⟩ : ∃ X, X = ext n x W fill := ⟨_, rfl⟩
        obtain ⟨Y, hYY⟩ : ∃ Y, Y = ext W y W fill := ⟨_, rfl⟩
        rw [← hXX] at e1 e2
        rw [← hYY] at e2
        have hlt : bx = true → bz = false → Y < X := fun a b => by
          subst a b
          rcases Nat.lt_or_ge Y X with h1 | h1
          · exact h1
          · have := Nat.div_le_div_right (c := 2 ^ (W - 1 - k)) h1; simp at e1 e2; omega
        have hgt : bx = false → bz = true → X < Y := fun a b => by
          subst a b
          rcases Nat.lt_or_ge X Y with h1 | h1
          · exact h1
          · have := Nat.div_le_div_right (c := 2 ^ (W - 1 - k)) h1; simp at e1 e2; omega
        have heq : bx = bz → X / 2 ^ (W - (k + 1)) = Y / 2 ^ (W - (k + 1)) := fun a => by
          rw [show W - (k + 1) = W - 1 - k by omega, e1, e2, a]
        have H := Lib.hid (And.intro hlt (And.intro hgt (And.intro heq (And.intro hXX hYY))))
        have cA := Lib.hid cA
        have cB := Lib.hid cB
        rw [hXX, hYY] at H
        clear hlt hgt heq hXX hYY e1 e2 he hbx hbz hX hY
        cases bx <;> cases bz
        all_goals go_wp2_with (go_at_call 222; (first | (with_reducible refine cA.out.mono ?_) | (with_reducible refine cB.out.mono ?_)); rintro e w1 ⟨rfl, rfl⟩)
        · go_round
          case rel => exact ⟨k + 1, by omega, by go_num, H.out.2.2.1 (by first | trivial | rfl)⟩
          case measure => simp [intOf]; omega
        · go_ret
          exact ⟨ret_i (by have := H.out.2.1 (by first | trivial | rfl) (by first | trivial | rfl); unfold cmpI; rw [if_pos (by omega)]), rfl⟩
        · go_ret
          exact ⟨ret_i (by have := H.out.1 (by first | trivial | rfl) (by first | trivial | rfl); unfold cmpI; rw [if_neg (by omega), if_neg (by omega)]), rfl⟩
        · go_round
          case rel => exact ⟨k + 1, by omega, by go_num, H.out.2.2.1 (by first | trivial | rfl)⟩
          case measure => simp [intOf]; omega
      · obtain rfl : k = W := by omega
        rw [Nat.sub_self, Nat.pow_zero, Nat.div_one, Nat.div_one] at he
        replace he := Lib.hid he
        go_wp2
        go_ret
        exact ⟨ret_i (by rw [he.out]; unfold cmpI; simp), rfl⟩
  · rw [if_neg hmn] at hlast
    subst hlast
    clear hW
    go_enter Tryz.func226, Tryz.ntmps226
    go_wp2
    go_loop [17] (fun i => CmpR W x m y W fill i) (fun i => W - (intOf i).toNat)
    case atStart => exact ⟨0, Nat.zero_le _, rfl, by rw [Nat.sub_zero, Nat.div_eq_of_lt hX, Nat.div_eq_of_lt hY]⟩
    case round =>
      obtain ⟨k, hk, rfl, he⟩ := hrel
      by_cases g1 : k < W
      · have d1 : decide ((k : Int) < W) = true := by simpa using g1
        have e1 := div_step (ext W x W fill) (W - 1 - k)
        have e2 := div_step (ext m y W fill) (W - 1 - k)
        rw [show W - 1 - k + 1 = W - k by omega] at e1 e2
        rw [← he] at e2
        obtain ⟨bx, hbx⟩ : ∃ b, b = (ext W x W fill).testBit (W - 1 - k) := ⟨_, rfl⟩
        obtain ⟨bz, hbz⟩ : ∃ b, b = (ext m y W fill).testBit (W - 1 - k) := ⟨_, rfl⟩
        rw [← hbx] at e1
        rw [← hbz] at e2
        have cA : Calls Tryz.prog 222 #[.slice A W c, .int .i64 ((W : Int) - 1 - k), .bool fill] w (fun e w' => e = .returned (.bool bx) ∧ w = w') := by
          rw [show (W : Int) - 1 - k = ((W - 1 - k : Nat) : Int) by omega, hbx, ext_bit h.1 (by omega)]; exact at_any _ _ _ _ _ _ _ h (by omega) (by omega)
        have cB : Calls Tryz.prog 222 #[.slice B m d, .int .i64 ((W : Int) - 1 - k), .bool fill] w (fun e w' => e = .returned (.bool bz) ∧ w = w') := by
          rw [show (W : Int) - 1 - k = ((W - 1 - k : Nat) : Int) by omega, hbz, ext_bit h'.1 (by omega)]; exact at_any _ _ _ _ _ _ _ h' (by omega) (by omega)
        obtain ⟨X, hXX⟩ : ∃ X, X = ext W x W fill := ⟨_, rfl⟩
        obtain ⟨Y, hYY⟩ : ∃ Y, Y = ext m y W fill := ⟨_, rfl⟩
        rw [← hXX] at e1 e2
        rw [← hYY] at e2
        have hlt : bx = true → bz = false → Y < X := fun a b => by
          subst a b
          rcases Nat.lt_or_ge Y X with h1 | h1
          · exact h1
          · have := Nat.div_le_div_right (c := 2 ^ (W - 1 - k)) h1; simp at e1 e2; omega
        have hgt : bx = false → bz = true → X < Y := fun a b => by
          subst a b
          rcases Nat.lt_or_ge X Y with h1 | h1
          · exact h1
          · have := Nat.div_le_div_right (c := 2 ^ (W - 1 - k)) h1; simp at e1 e2; omega
        have heq : bx = bz → X / 2 ^ (W - (k + 1)) = Y / 2 ^ (W - (k + 1)) := fun a => by
          rw [show W - (k + 1) = W - 1 - k by omega, e1, e2, a]
        have H := Lib.hid (And.intro hlt (And.intro hgt (And.intro heq (And.intro hXX hYY))))
        have cA := Lib.hid cA
        have cB := Lib.hid cB
        rw [hXX, hYY] at H
        clear hlt hgt heq hXX hYY e1 e2 he hbx hbz hX hY
        cases bx <;> cases bz
        all_goals go_wp2_with (go_at_call 222; (first | (with_reducible refine cA.out.mono ?_) | (with_reducible refine cB.out.mono ?_)); rintro e w1 ⟨rfl, rfl⟩)
        · go_round
          case rel => exact ⟨k + 1, by omega, by go_num, H.out.2.2.1 (by first | trivial | rfl)⟩
          case measure => simp [intOf]; omega
        · go_ret
          exact ⟨ret_i (by have := H.out.2.1 (by first | trivial | rfl) (by first | trivial | rfl); unfold cmpI; rw [if_pos (by omega)]), rfl⟩
        · go_ret
          exact ⟨ret_i (by have := H.out.1 (by first | trivial | rfl) (by first | trivial | rfl); unfold cmpI; rw [if_neg (by omega), if_neg (by omega)]), rfl⟩
        · go_round
          case rel => exact ⟨k + 1, by omega, by go_num, H.out.2.2.1 (by first | trivial | rfl)⟩
          case measure => simp [intOf]; omega
      · obtain rfl : k = W := by omega
        rw [Nat.sub_self, Nat.pow_zero, Nat.div_one, Nat.div_one] at he
        replace he := Lib.hid he
        go_wp2
        go_ret
        exact ⟨ret_i (by rw [he.out]; unfold cmpI; simp), rfl⟩
theorem cmp_any (A B : Option Addr) (n c x m d y : Nat) (w : World) (h : Rd w A n x) (h' : Rd w B m y) (hn : n ≤ 10000) (hm : m ≤ 10000) :
    Calls Tryz.prog 208 #[.slice A n c, .slice B m d] w fun e w' => e = .returned (.int .i64 (cmpI x y)) ∧ w = w' := by
  have hc := compare_any A B n c x m d y false w h h' hn hm
  simp only [ext, Bool.false_eq_true, if_false] at hc
  go_enter Tryz.func208, Tryz.ntmps208
  go_wp2_with (go_at_call 226; refine hc.mono ?_; rintro e w1 ⟨rfl, rfl⟩)
  go_ret
  exact ⟨rfl, rfl⟩
def sval (n x : Nat) : Int := if neg n x then (x : Int) - (2 ^ n : Nat) else x
theorem sval_neg {n x : Nat} (h : neg n x = true) : sval n x = (x : Int) - (2 ^ n : Nat) := by unfold sval; rw [h]; rfl
theorem sval_pos {n x : Nat} (h : neg n x = false) : sval n x = x := by unfold sval; rw [h]; rfl
theorem ext_val {n x W : Nat} (hn : n ≤ W) : (ext n x W true : Int) = (x : Int) - (2 ^ n : Nat) + (2 ^ W : Nat) := by
  have e : 2 ^ W = 2 ^ n * 2 ^ (W - n) := by rw [← Nat.pow_add]; congr 1; omega
  have hp := Nat.le_mul_of_pos_right (2 ^ n) (pow_p (W - n))
  unfold ext
  rw [if_pos rfl, e, Nat.mul_sub, Nat.mul_one]
  omega
theorem cmp_ext {n x m y : Nat} {f : Bool} (h : neg n x = f) (h' : neg m y = f) : cmpI (ext n x (max n m) f) (ext m y (max n m) f) = cmpI (sval n x) (sval m y) := by
  cases f
  · rw [sval_pos h, sval_pos h']; rfl
  · rw [sval_neg h, sval_neg h', ext_val (Nat.le_max_left _ _), ext_val (Nat.le_max_right _ _)]
    unfold cmpI
    have e1 : ((x : Int) - (2 ^ n : Nat) + (2 ^ (max n m) : Nat) < (y : Int) - (2 ^ m : Nat) + (2 ^ (max n m) : Nat)) ↔ ((x : Int) - (2 ^ n : Nat) < (y : Int) - (2 ^ m : Nat)) := by omega
    have e2 : ((x : Int) - (2 ^ n : Nat) + (2 ^ (max n m) : Nat) = (y : Int) - (2 ^ m : Nat) + (2 ^ (max n m) : Nat)) ↔ ((x : Int) - (2 ^ n : Nat) = (y : Int) - (2 ^ m : Nat)) := by omega
    simp only [e1, e2]
theorem cmp_np {n x m y : Nat} (hx : x < 2 ^ n) (h : neg n x = true) (h' : neg m y = false) : cmpI (sval n x) (sval m y) = -1 := by
  rw [sval_neg h, sval_pos h']; unfold cmpI; rw [if_pos (by omega)]
theorem cmp_pn {n x m y : Nat} (hy : y < 2 ^ m) (h : neg n x = false) (h' : neg m y = true) : cmpI (sval n x) (sval m y) = 1 := by
  rw [sval_pos h, sval_neg h']; unfold cmpI; rw [if_neg (by omega), if_neg (by omega)]
theorem scmp_any (A B : Option Addr) (n c x m d y : Nat) (w : World) (h : Rd w A n x) (h' : Rd w B m y) (hn : n ≤ 10000) (hm : m ≤ 10000) :
    Calls Tryz.prog 209 #[.slice A n c, .slice B m d] w fun e w' => e = .returned (.int .i64 (cmpI (sval n x) (sval m y))) ∧ w = w' := by
  have c1 := negative_any A n c x w h (by omega)
  have c2 := negative_any B m d y w h' (by omega)
  rcases e1 : neg n x with _ | _ <;> rcases e2 : neg m y with _ | _ <;> rw [e1] at c1 <;> rw [e2] at c2
  · have c3 := compare_any A B n c x m d y false w h h' hn hm
    rw [cmp_ext e1 e2] at c3
    clear e1 e2 h h'
    go_enter Tryz.func209, Tryz.ntmps209
    go_wp2_with (first | (go_at_call 191; (first | (with_reducible refine c1.mono ?_) | (with_reducible refine c2.mono ?_)); rintro e w1 ⟨rfl, rfl⟩) | (go_at_call 226; (with_reducible refine c3.mono ?_); rintro e w1 ⟨rfl, rfl⟩))
    go_ret
    exact ⟨rfl, rfl⟩
  · have c3 := Lib.hid (cmp_pn h'.1 e1 e2)
    clear e1 e2 h h'
    go_enter Tryz.func209, Tryz.ntmps209
    go_wp2_with (go_at_call 191; (first | (with_reducible refine c1.mono ?_) | (with_reducible refine c2.mono ?_)); rintro e w1 ⟨rfl, rfl⟩)
    go_ret
    exact ⟨ret_i c3.out.symm, rfl⟩
  · have c3 := Lib.hid (cmp_np h.1 e1 e2)
    clear e1 e2 h h'
    go_enter Tryz.func209, Tryz.ntmps209
    go_wp2_with (go_at_call 191; (first | (with_reducible refine c1.mono ?_) | (with_reducible refine c2.mono ?_)); rintro e w1 ⟨rfl, rfl⟩)
    go_ret
    exact ⟨ret_i c3.out.symm, rfl⟩
  · have c3 := compare_any A B n c x m d y true w h h' hn hm
    rw [cmp_ext e1 e2] at c3
    clear e1 e2 h h'
    go_enter Tryz.func209, Tryz.ntmps209
    go_wp2_with (first | (go_at_call 191; (first | (with_reducible refine c1.mono ?_) | (with_reducible refine c2.mono ?_)); rintro e w1 ⟨rfl, rfl⟩) | (go_at_call 226; (with_reducible refine c3.mono ?_); rintro e w1 ⟨rfl, rfl⟩))
    go_ret
    exact ⟨rfl, rfl⟩
theorem zero_any (A : Option Addr) (n c x : Nat) (w : World) (h : Rd w A n x) (hn : n ≤ 10000) :
    Calls Tryz.prog 223 #[.slice A n c] w fun e w' => e = .returned (.bool (decide (x = 0))) ∧ w = w' := by
  have hz : (cmpI x 0 == 0) = decide (x = 0) := by
    unfold cmpI
    by_cases hx : x = 0
    · subst hx; rfl
    · rw [if_neg (by omega), if_neg (by omega)]; simp [hx]
  have hc := cmp_any A none n c x 0 0 0 w h (Rd.nil w) hn (by omega)
  rw [← hz]
  have hc := Lib.hid hc
  clear hz h
  go_enter Tryz.func223, Tryz.ntmps223
  go_wp2_with (go_at_call 208; refine hc.out.mono ?_; rintro e w1 ⟨rfl, rfl⟩)
  go_ret
  exact ⟨rfl, rfl⟩
def absv (n x : Nat) : Nat := if neg n x then 2 ^ n - x else x
theorem absv_lt {n x : Nat} (hx : x < 2 ^ n) : absv n x < 2 ^ n := by
  unfold absv
  cases h : neg n x
  · exact hx
  · have : x ≠ 0 := by rintro rfl; simp [neg] at h
    simp; omega
theorem absolute_any (A : Option Addr) (n c x : Nat) (w : World) (h : Rd w A n x) (hn : n ≤ 10000) :
    Calls Tryz.prog 224 #[.slice A n c] w fun e w' => ∃ A' c', e = .returned (.slice A' n c') ∧ Rd w' A' n (absv n x) ∧ Below w.heap.size w w' := by
  have c1 := negative_any A n c x w h (by omega)
  rcases e1 : neg n x with _ | _ <;> rw [e1] at c1
  · have h1 : Rd w A n (absv n x) := by unfold absv; rw [e1]; exact h
    clear e1 h
    go_enter Tryz.func224, Tryz.ntmps224
    go_wp2_with (go_at_call 191; refine c1.mono ?_; rintro e w1 ⟨rfl, rfl⟩)
    go_ret
    exact ⟨_, _, rfl, h1, Below.refl _ _⟩
  · have h2 : subv n 0 x = absv n x := by
      have hx := h.1
      have : x ≠ 0 := by rintro rfl; simp [neg] at e1
      unfold subv absv; rw [e1, if_pos rfl, Nat.mod_eq_of_lt hx, Nat.zero_add, Nat.mod_eq_of_lt (by omega)]
    have c2 := neg_any A n c x w h hn
    rw [h2] at c2
    clear e1 h h2
    go_enter Tryz.func224, Tryz.ntmps224
    go_wp2_with (first | (go_at_call 191; refine c1.mono ?_; rintro e w1 ⟨rfl, rfl⟩) | (go_at_call 225; refine c2.mono ?_; rintro e w1 ⟨A1, c1, rfl, hv, hb⟩))
    go_ret
    exact ⟨_, _, rfl, hv.rd, hb⟩

end Go.Proofs.YtognpmggfplekaaGreatDoor.B

namespace Go.Proofs.YtognpmggfplekaaGreatDoor.B

def DQ (n x y k : Nat) : Nat := 2 ^ (n - k) * (x / 2 ^ (n - k) / y)
def DR (n x y k : Nat) : Nat := x / 2 ^ (n - k) % y
theorem DQ.zero {n x y : Nat} (hx : x < 2 ^ n) : DQ n x y 0 = 0 := by unfold DQ; rw [Nat.sub_zero, Nat.div_eq_of_lt hx, Nat.zero_div, Nat.mul_zero]
theorem DR.zero {n x y : Nat} (hx : x < 2 ^ n) : DR n x y 0 = 0 := by unfold DR; rw [Nat.sub_zero, Nat.div_eq_of_lt hx, Nat.zero_mod]
theorem DQ.last (n x y : Nat) : DQ n x y n = x / y := by unfold DQ; simp
theorem DR.last (n x y : Nat) : DR n x y n = x % y := by unfold DR; simp
theorem DQ.lt {n x y k : Nat} (hx : x < 2 ^ n) : DQ n x y k < 2 ^ n := by
  unfold DQ
  refine Nat.lt_of_le_of_lt ?_ hx
  calc 2 ^ (n - k) * (x / 2 ^ (n - k) / y) ≤ 2 ^ (n - k) * (x / 2 ^ (n - k)) := Nat.mul_le_mul_left _ (Nat.div_le_self _ _)
    _ ≤ x := Nat.mul_div_le _ _
theorem divmod_step {X y b : Nat} (hy : 0 < y) (hb : b ≤ 1) : (2 * X + b) / y = 2 * (X / y) + (if y ≤ 2 * (X % y) + b then 1 else 0) ∧ (2 * X + b) % y = 2 * (X % y) + b - (if y ≤ 2 * (X % y) + b then y else 0) := by
  have e := Nat.div_add_mod X y
  have hr := Nat.mod_lt X hy
  have e2 : 2 * X + b = y * (2 * (X / y)) + (2 * (X % y) + b) := by
    have : y * (2 * (X / y)) = 2 * (y * (X / y)) := by rw [← Nat.mul_assoc, Nat.mul_comm y 2, Nat.mul_assoc]
    omega
  rw [e2, Nat.mul_add_div hy, Nat.mul_add_mod]
  by_cases h : y ≤ 2 * (X % y) + b
  · rw [if_pos h, if_pos h]
    have h1 : (2 * (X % y) + b) / y = 1 := by
      rw [Nat.div_eq_iff hy]; omega
    have h2 := Nat.div_add_mod (2 * (X % y) + b) y
    rw [h1] at h2
    exact ⟨by rw [h1], by omega⟩
  · have h1 : (2 * (X % y) + b) / y = 0 := Nat.div_eq_of_lt (by omega)
    have h2 : (2 * (X % y) + b) % y = 2 * (X % y) + b := Nat.mod_eq_of_lt (by omega)
    rw [if_neg h, if_neg h, h1, h2]
    exact ⟨rfl, rfl⟩
theorem DR.small {n x y k : Nat} (hx : x < 2 ^ n) (hk : k ≤ n) : DR n x y k < 2 ^ k := by
  unfold DR
  refine Nat.lt_of_le_of_lt (Nat.mod_le _ _) ?_
  rw [Nat.div_lt_iff_lt_mul (pow_p _), ← Nat.pow_add]
  rwa [show k + (n - k) = n by omega]
theorem D_next {n x y k : Nat} (hy : 0 < y) (hk : k < n) :
    DR n x y (k + 1) = 2 * DR n x y k + (x.testBit (n - 1 - k)).toNat - (if y ≤ 2 * DR n x y k + (x.testBit (n - 1 - k)).toNat then y else 0) ∧
    DQ n x y (k + 1) = DQ n x y k + 2 ^ (n - 1 - k) * (if y ≤ 2 * DR n x y k + (x.testBit (n - 1 - k)).toNat then 1 else 0) := by
  have e := div_step x (n - 1 - k)
  rw [show n - 1 - k + 1 = n - k by omega] at e
  obtain ⟨h1, h2⟩ := divmod_step (X := x / 2 ^ (n - k)) hy (toNat_le (x.testBit (n - 1 - k)))
  unfold DR DQ
  rw [show n - (k + 1) = n - 1 - k by omega, e, h1, h2]
  refine ⟨rfl, ?_⟩
  rw [Nat.mul_add, ← Nat.mul_assoc, Nat.mul_comm _ 2, ← pow_s, show n - 1 - k + 1 = n - k by omega]
theorem DQ_bit {n x y k : Nat} (hk : k < n) : (DQ n x y k).testBit (n - 1 - k) = false := by
  unfold DQ
  rw [Nat.testBit_two_pow_mul]
  simp; omega
def shup (n r : Nat) : Nat := (2 * r + (r.testBit 0).toNat) % 2 ^ n
theorem dbl_bit (r : Nat) (b : Bool) (i : Nat) : (2 * r + b.toNat).testBit (i + 1) = r.testBit i := by
  rw [Nat.testBit_add_one]
  congr 1
  have := toNat_le b
  omega
theorem dbl_bit0 (r : Nat) (b : Bool) : (2 * r + b.toNat).testBit 0 = b := by
  rw [Nat.testBit_zero]
  cases b <;> simp <;> omega
theorem setb_shup {n r : Nat} (b : Bool) (h : 2 * r + 1 < 2 ^ n) : setb (shup n r) 0 b = 2 * r + b.toNat := by
  apply Nat.eq_of_testBit_eq
  intro i
  rw [setb_bit]
  unfold shup
  have := toNat_le (r.testBit 0)
  rw [Nat.mod_eq_of_lt (by omega)]
  rcases i with _ | i
  · rw [if_pos rfl, dbl_bit0]
  · rw [if_neg (by omega), dbl_bit, dbl_bit]

end Go.Proofs.YtognpmggfplekaaGreatDoor.B

namespace Go.Proofs.YtognpmggfplekaaGreatDoor.B
open Go Go.RowKit
attribute [local go_sem ↓] Go.wp_at_zero Go.wp_at_succ

theorem own_grown {w u : World} {g h : Nat} {t : TypeId} {cs : Array Value} (hb : w.grownBy u (some g)) (o : Own w h t cs) (hne : h ≠ g) : Own u h t cs := Own.grown o hb (by simpa using hne)
theorem run_up {w : World} (ty : TypeId) (g n R : Nat) (dp : Option Addr) (dLen dCap : Nat) (hn : 0 < n) (hdl : dLen = n - 1) (hdp : 1 < n → dp = some ⟨g, 1, none⟩) (hg : Own w g 4 (ba n R)) (hR : R < 2 ^ n) :
    ∃ w', (Builtin.copy_ #[90, 90] ty #[.slice dp dLen dCap, .slice (some ⟨g, 0, none⟩) n n]).run Tryz.prog w = .ok (goInt (n - 1 : Nat)) w' ∧ Own w' g 4 (ba n (shup n R)) ∧ w.grownBy w' (some g) := by
  subst hdl
  have hsz : (Tryz.prog.info? 4).map (·.size) = some 1 := by kernel_rfl
  rcases Nat.lt_or_ge 1 n with h1 | h1
  · obtain rfl := hdp h1
    have hl : ((bl n R).take (n - 1)).length = n - 1 := by rw [List.length_take, bl_length]; omega
    have hrun := run_copy_row (P := Tryz.prog) w 90 90 ty 4 g 1 (n - 1) dCap ⟨g, 0, none⟩ n n (ba n R) _ ((bl n R).take (n - 1)) Tryz.underlying90 hsz hg (by rw [hl]; exact (Nat.min_eq_right (by omega)).symm)
      (fun j v hv => by
        have hj : j < n - 1 := by have := (List.getElem?_eq_some_iff.1 hv).1; rwa [hl] at this
        rw [List.getElem?_take, if_pos hj, bl_get _ _ _ (by omega)] at hv
        have e : (⟨g, 0, none⟩ : Addr).add j = ⟨g, j, none⟩ := by unfold Addr.add; split <;> simp_all
        rw [e, hg.cell j, ba_get _ _ _ (by omega)]
        exact hv) (by rw [hl, ba_size]; omega) (fun v hv => bl_one n R v (List.mem_of_mem_take hv))
    rw [hl] at hrun
    refine ⟨_, hrun, ?_, ⟨rfl, rfl, rfl, by simp [World.setRow], fun k hk hne => setRow_other w g k _ (by simpa using hne)⟩⟩
    have e : ((ba n R).toList.take 1 ++ (bl n R).take (n - 1) ++ (ba n R).toList.drop (1 + (n - 1))).toArray = ba n (shup n R) := by
      unfold ba
      congr 1
      apply List.ext_getElem?
      intro i
      simp only [List.drop_eq_nil_of_le (show (bl n R).toArray.toList.length ≤ 1 + (n - 1) by simp [bl_length]; omega), List.append_nil]
      rcases i with _ | i
      · rw [List.getElem?_append_left (by simp [bl_length]; omega), List.getElem?_take, if_pos (by decide), bl_get _ _ _ hn, bl_get _ _ _ hn, shup, Nat.testBit_mod_two_pow, dbl_bit0]
        simp [hn]
      · rw [List.getElem?_append_right (by simp [bl_length]; omega)]
        have e1 : ((bl n R).toArray.toList.take 1).length = 1 := by simp [bl_length]; omega
        rw [e1, Nat.add_sub_cancel, List.getElem?_take]
        by_cases hi : i < n - 1
        · rw [if_pos hi, bl_get _ _ _ (by omega), bl_get _ _ _ (by omega), shup, Nat.testBit_mod_two_pow, dbl_bit]
          have : i + 1 < n := by omega
          simp [this]
        · rw [if_neg hi, List.getElem?_eq_none (by rw [bl_length]; omega)]
    rw [← e]
    exact setRow_heap w g _ _ _ _ hg
  · obtain rfl : n = 1 := by omega
    have hrun := run_copy_none (P := Tryz.prog) w 90 90 ty 4 dp (some ⟨g, 0, none⟩) 0 dCap 1 1 Tryz.underlying90 hsz rfl
    refine ⟨w, hrun, ?_, World.grownBy.refl w _⟩
    have e : shup 1 R = R := by
      have : R = 0 ∨ R = 1 := by omega
      rcases this with rfl | rfl <;> rfl
    rw [e]
    exact hg
theorem upon_up {w : World} {o : Oper} {a : Act} {K : Act → World → Prop} {Q : Exit → Act → World → Prop} (ty : TypeId) (g n R : Nat) (dp : Option Addr) (dLen dCap : Nat) (hn : 0 < n) (hdl : dLen = n - 1) (hdp : 1 < n → dp = some ⟨g, 1, none⟩) (hg : Own w g 4 (ba n R)) (hR : R < 2 ^ n)
    (h : ∀ w', Own w' g 4 (ba n (shup n R)) → w.grownBy w' (some g) → K (a.put o.dst (goInt (n - 1 : Nat))) w') :
    Oper.upon Tryz.prog o a K Q (((Builtin.copy_ #[90, 90] ty #[.slice dp dLen dCap, .slice (some ⟨g, 0, none⟩) n n]).run Tryz.prog w).andThen fun v w' => .ok (.value v) w') := by
  obtain ⟨w', hrun, h1, h2⟩ := run_up ty g n R dp dLen dCap hn hdl hdp hg hR
  rw [hrun]
  exact h w' h1 h2
theorem slice_one (g n : Nat) (hn : 0 < n) : ∃ dp : Option Addr, (∀ W : World, (Instr.slice 90 (.slice (some ⟨g, 0, none⟩) n n) (some (.int .i64 1)) none none).run Tryz.prog W = .ok (.slice dp (n - 1) (n - 1)) W) ∧
    (∀ W : World, (Instr.sliceAt 90 (.slice (some ⟨g, 0, none⟩) n n) (some (.int .i64 1)) none none).run Tryz.prog W = .ok (.slice dp (n - 1) (n - 1)) W) ∧ (1 < n → dp = some ⟨g, 1, none⟩) := by
  have hz : ∀ W : World, (sizeOf 4).run Tryz.prog W = .ok 1 W := fun W => by kernel_rfl
  have key : ∀ W : World, (Instr.slice 90 (.slice (some ⟨g, 0, none⟩) n n) (some (.int .i64 1)) none none).run Tryz.prog W = .ok (sliced (some ⟨g, 0, none⟩) 1 n n 1) W := fun W => by
    have h := run_slice_l (P := Tryz.prog) (w := W) 90 (some ⟨g, 0, none⟩) n n (by kernel_rfl) .i64 1 (by decide) (by omega)
    rw [h, show (Tryz.prog).elem 90 = 4 by kernel_rfl, hz W]
    rfl
  refine ⟨if n = 1 then some ⟨g, 0, none⟩ else some ⟨g, 1, none⟩, fun W => ?_, fun W => ?_, fun h => if_neg (by omega)⟩
  · rw [key W]; unfold sliced; split <;> rfl
  · rw [run_sliceAt_slice (P := Tryz.prog) (w := W) _ _ _ _ _ (by kernel_rfl), key W]; unfold sliced; split <;> rfl
def RetD (w : World) (n q r : Nat) (e : Ending) (w' : World) : Prop := ∃ A c A' c', e = .returned (.tuple #[.slice A n c, .slice A' n c', .int .i64 0]) ∧ Nw w' w.heap.size A n c q ∧ Nw w' w.heap.size A' n c' r ∧ Below w.heap.size w w'
def DivR (n x y gq : Nat) (w : World) (v i : Value) (u : World) : Prop :=
  ∃ k gr, k ≤ n ∧ i = .int .i64 k ∧ v = .slice (some ⟨gr, 0, none⟩) n n ∧ w.heap.size ≤ gr ∧ gr ≠ gq ∧ Own u gr 4 (ba n (DR n x y k)) ∧ Own u gq 4 (ba n (DQ n x y k)) ∧ Below w.heap.size w u
set_option maxHeartbeats 2000000 in
theorem divmod_any (A B : Option Addr) (n c x m d y : Nat) (w : World) (h : Rd w A n x) (h' : Rd w B m y) (hn : n ≤ 10000) (hm : m ≤ 10000) (hy : y ≠ 0) :
    Calls Tryz.prog 202 #[.slice A n c, .slice B m d] w (RetD w n (x / y) (x % y)) := by
  have hmk := fun W => run_makeB n (by omega) W
  have hz := zero_any B m d y w h' hm
  rw [show decide (y = 0) = false by simp [hy]] at hz
  go_enter Tryz.func202, Tryz.ntmps202
  go_wp2_with (go_at_call 223; refine hz.mono ?_; rintro e w1 ⟨rfl, rfl⟩)
  go_region
  all_goals
    go_wp2
    have o0 : Own ((w.alloc (.cells (ba n 0) 4)).alloc (.cells (ba n 0) 4)).drew w.heap.size 4 (ba n 0) := ((Own.new w _ _).alloc _).drew
    have o1 : Own ((w.alloc (.cells (ba n 0) 4)).alloc (.cells (ba n 0) 4)).drew (w.heap.size + 1) 4 (ba n 0) := by simpa using (Own.new (w.alloc (.cells (ba n 0) 4)) 4 (ba n 0)).drew
    have b0 : Below w.heap.size w ((w.alloc (.cells (ba n 0) 4)).alloc (.cells (ba n 0) 4)).drew := below_drew (below_new (below_new (Below.refl _ _) _) _)
    clear hz
  · go_loopw [5, 19] (fun v i u => DivR n x y w.heap.size w v i u) (fun _ i _ => n - (intOf i).toNat)
    case atStart => exact ⟨0, (w.heap.size + 1), Nat.zero_le _, rfl, rfl, by omega, by omega, by rw [DR.zero h.1]; exact o1, by rw [DQ.zero h.1]; exact o0, b0⟩
    case round =>
      obtain ⟨k, gr, hk, rfl, rfl, hgr, hne, oR, oQ, hb⟩ := hrel
      by_cases g1 : k < n
      · obtain ⟨ab, ao, rfl, hlt0, hc0⟩ := h.at_ (show n - 1 - k < n by omega)
        have hcell := (hb.cell (p := ⟨ab, ao + (n - 1 - k), none⟩) hlt0).trans hc0
        have hRs := DR.small (y := y) h.1 hk
        have hR2 : 2 * DR n x y k + 1 < 2 ^ n := by
          have := Nat.pow_le_pow_right (show 0 < 2 by decide) (show k + 1 ≤ n by omega)
          have := pow_s k
          omega
        obtain ⟨hd1, hd2⟩ := D_next (x := x) (Nat.pos_of_ne_zero hy) g1
        have hqb := DQ_bit (x := x) (y := y) g1
        have hQl := DQ.lt (y := y) (k := k) h.1
        obtain ⟨bx, hbx⟩ : ∃ b, b = x.testBit (n - 1 - k) := ⟨_, rfl⟩
        rw [← hbx] at hcell hd1 hd2
        obtain ⟨R, hR⟩ : ∃ R, R = DR n x y k := ⟨_, rfl⟩
        obtain ⟨Z, hZ⟩ : ∃ Z, Z = DQ n x y k := ⟨_, rfl⟩
        rw [← hR] at oR hRs hR2 hd1 hd2
        rw [← hZ] at oQ hqb hQl hd2
        have hbl := toNat_le bx
        have hRlt : R < 2 ^ n := by omega
        have hup : ∀ w1, Own w1 gr 4 (ba n (shup n R)) → wr.grownBy w1 (some gr) → w1.cell? ⟨ab, ao + (n - 1 - k), none⟩ = some (.bool bx) ∧ (∃ v, w1.cell? ⟨gr, 0, none⟩ = some v) ∧ w1.frozen? ⟨gr, 0, none⟩ = false ∧ Own (w1.setCell ⟨gr, 0, none⟩ (.bool bx)) gr 4 (ba n (2 * R + bx.toNat)) ∧ Own (w1.setCell ⟨gr, 0, none⟩ (.bool bx)) w.heap.size 4 (ba n Z) ∧ Below w.heap.size w (w1.setCell ⟨gr, 0, none⟩ (.bool bx)) := by
          intro w1 o hg
          have o2 := o.put 0 (.bool bx)
          rw [ba_set bx (by omega), setb_shup bx hR2] at o2
          have hbw : Below w.heap.size w w1 := hb.grown hg hb.size (fun k hk => by injection hk with hk; omega)
          exact ⟨(World.cell?_of_block (hg.block ab (Nat.lt_of_lt_of_le hlt0 hb.size) (by simp; omega))).trans hcell, ⟨_, (o.cell 0).trans (ba_get _ _ _ (by omega))⟩, o.free 0, o2, (own_grown hg oQ (Ne.symm hne)).far (Ne.symm hne) _, below_set hbw hgr _⟩
        have hup := Lib.hid hup
        have hlt2 : 2 * R + bx.toNat < 2 ^ n := by omega
        have d1 : decide ((k : Int) < n) = true := by simpa using g1
        have l1 : (k : Int) < n := by omega
        have l2 : (1 : Int) ≤ n := by omega
        have l3 : 1 ≤ n := by omega
        have l4 : 0 < n := by omega
        have l5 : ((n : Int) - 1 - k).toNat = n - 1 - k := by omega
        have H := Lib.hid (And.intro hd1 (And.intro hd2 (And.intro hqb (And.intro hR hZ))))
        have hy2 := Lib.hid hy
        clear hd1 hd2 hqb hR hZ hcell hbx hc0 o0 o1 b0 hy
        by_cases hge : y ≤ 2 * R + bx.toNat
        · have hcm : ∀ W, Rd W (some ⟨gr, 0, none⟩) n (2 * R + bx.toNat) → Rd W B m y → ∃ z : Int, 0 ≤ z ∧ Calls Tryz.prog 208 #[.slice (some ⟨gr, 0, none⟩) n n, .slice B m d] W (fun e w' => e = .returned (.int .i64 z) ∧ W = w') :=
            fun W r1 r2 => ⟨_, by unfold cmpI; rw [if_neg (by omega)]; split <;> decide, cmp_any _ _ _ n _ _ d _ W r1 r2 hn hm⟩
          have hcm := Lib.hid hcm
          obtain ⟨dp, hsl, hsl2, hdp⟩ := slice_one gr n l4
          have hdp := Lib.hid hdp
          go_wp2_with fail
          refine upon_up _ gr n R _ _ _ l4 rfl hdp.out oR hRlt ?_
          intro w1 oR1 hg1
          obtain ⟨ca, ⟨vv, cr⟩, fr, oR2, oQ2, hB2⟩ := hup.out w1 oR1 hg1
          have lr := oR1.lt
          go_wp2_with (first | (go_at_call 208; obtain ⟨z, hz0, hcc⟩ := hcm.out _ (Rd.of_own oR2 hlt2) (h'.step hB2); refine hcc.mono ?_; rintro e w2 ⟨rfl, rfl⟩) | (go_at_call 173; refine (sub_anyO _ _ _ _ _ _ _ _ _ (Rd.of_own oR2 hlt2) (h'.step hB2) hn hm).mono ?_; rintro e w3 ⟨g3, rfl, oR3, hg3, hx3, hb3⟩; have oQ3 := oQ2.step hb3; have cQ := (oQ3.cell (n - 1 - k)).trans (ba_get _ _ _ (by omega)); have fQ := oQ3.free (n - 1 - k); have lQ := oQ3.lt; have lQ2 := oQ2.lt))
          obtain ⟨hd1, hd2, hqb, hR, hZ⟩ := H.out
          rw [if_pos hge] at hd1 hd2
          have hyl : y < 2 ^ n := by omega
          have eR : subv n (2 * R + bx.toNat) y = DR n x y (k + 1) := by
            rw [hd1]; unfold subv
            rw [Nat.mod_eq_of_lt hyl, show 2 * R + bx.toNat + (2 ^ n - y) = (2 * R + bx.toNat - y) + 2 ^ n by omega, Nat.add_mod_right, Nat.mod_eq_of_lt (by omega)]
          have oQ4 := oQ3.put (n - 1 - k) (.bool true)
          have eQ : setb Z (n - 1 - k) true = DQ n x y (k + 1) := by
            rw [hd2]; unfold setb; rw [hqb]; simp
          rw [ba_set true (by omega), eQ] at oQ4
          rw [eR] at oR3
          go_roundw
          case rel => exact ⟨k + 1, g3, by omega, by go_num, rfl, by omega, by omega, oR3.far (by simp; omega) _, oQ4, below_set (below_step hB2 hb3) (by simp) _⟩
          case measure => simp [intOf]; omega
        · have hcm : ∀ W, Rd W (some ⟨gr, 0, none⟩) n (2 * R + bx.toNat) → Rd W B m y → ∃ z : Int, z < 0 ∧ Calls Tryz.prog 208 #[.slice (some ⟨gr, 0, none⟩) n n, .slice B m d] W (fun e w' => e = .returned (.int .i64 z) ∧ W = w') :=
            fun W r1 r2 => ⟨_, by unfold cmpI; rw [if_pos (by omega)]; decide, cmp_any _ _ _ n _ _ d _ W r1 r2 hn hm⟩
          have hcm := Lib.hid hcm
          obtain ⟨dp, hsl, hsl2, hdp⟩ := slice_one gr n l4
          have hdp := Lib.hid hdp
          go_wp2_with fail
          refine upon_up _ gr n R _ _ _ l4 rfl hdp.out oR hRlt ?_
          intro w1 oR1 hg1
          obtain ⟨ca, ⟨vv, cr⟩, fr, oR2, oQ2, hB2⟩ := hup.out w1 oR1 hg1
          have lr := oR1.lt
          go_wp2_with (go_at_call 208; obtain ⟨z, hz0, hcc⟩ := hcm.out _ (Rd.of_own oR2 hlt2) (h'.step hB2); refine hcc.mono ?_; rintro e w2 ⟨rfl, rfl⟩)
          obtain ⟨hd1, hd2, hqb, hR, hZ⟩ := H.out
          rw [if_neg hge] at hd1 hd2
          rw [Nat.sub_zero] at hd1
          simp only [Nat.mul_zero, Nat.add_zero] at hd2
          rw [← hd1] at oR2
          rw [← hd2] at oQ2
          go_roundw
          case rel => exact ⟨k + 1, gr, by omega, by go_num, rfl, hgr, hne, oR2, oQ2, hB2⟩
          case measure => simp [intOf]; omega
      · obtain rfl : k = n := by omega
        rw [DR.last] at oR
        rw [DQ.last] at oQ
        have hx := h.1
        clear hmk
        go_wp2
        go_ret3
        exact ⟨_, _, _, _, rfl, Nw.of_own oQ (Nat.lt_of_le_of_lt (Nat.div_le_self _ _) hx) (by omega) (by unfold maxLen; omega), Nw.of_own oR (Nat.lt_of_le_of_lt (Nat.mod_le _ _) hx) hgr (by unfold maxLen; omega), hb⟩
  · go_loopw [5, 19] (fun v i u => DivR n x y (w.heap.size + 1) w v i u) (fun _ i _ => n - (intOf i).toNat)
    case atStart => exact ⟨0, w.heap.size, Nat.zero_le _, rfl, rfl, by omega, by omega, by rw [DR.zero h.1]; exact o0, by rw [DQ.zero h.1]; exact o1, b0⟩
    case round =>
      obtain ⟨k, gr, hk, rfl, rfl, hgr, hne, oR, oQ, hb⟩ := hrel
      by_cases g1 : k < n
      · obtain ⟨ab, ao, rfl, hlt0, hc0⟩ := h.at_ (show n - 1 - k < n by omega)
        have hcell := (hb.cell (p := ⟨ab, ao + (n - 1 - k), none⟩) hlt0).trans hc0
        have hRs := DR.small (y := y) h.1 hk
        have hR2 : 2 * DR n x y k + 1 < 2 ^ n := by
          have := Nat.pow_le_pow_right (show 0 < 2 by decide) (show k + 1 ≤ n by omega)
          have := pow_s k
          omega
        obtain ⟨hd1, hd2⟩ := D_next (x := x) (Nat.pos_of_ne_zero hy) g1
        have hqb := DQ_bit (x := x) (y := y) g1
        have hQl := DQ.lt (y := y) (k := k) h.1
        obtain ⟨bx, hbx⟩ : ∃ b, b = x.testBit (n - 1 - k) := ⟨_, rfl⟩
        rw [← hbx] at hcell hd1 hd2
        obtain ⟨R, hR⟩ : ∃ R, R = DR n x y k := ⟨_, rfl⟩
        obtain ⟨Z, hZ⟩ : ∃ Z, Z = DQ n x y k := ⟨_, rfl⟩
        rw [← hR] at oR hRs hR2 hd1 hd2
        rw [← hZ] at oQ hqb hQl hd2
        have hbl := toNat_le bx
        have hRlt : R < 2 ^ n := by omega
        have hup : ∀ w1, Own w1 gr 4 (ba n (shup n R)) → wr.grownBy w1 (some gr) → w1.cell? ⟨ab, ao + (n - 1 - k), none⟩ = some (.bool bx) ∧ (∃ v, w1.cell? ⟨gr, 0, none⟩ = some v) ∧ w1.frozen? ⟨gr, 0, none⟩ = false ∧ Own (w1.setCell ⟨gr, 0, none⟩ (.bool bx)) gr 4 (ba n (2 * R + bx.toNat)) ∧ Own (w1.setCell ⟨gr, 0, none⟩ (.bool bx)) (w.heap.size + 1) 4 (ba n Z) ∧ Below w.heap.size w (w1.setCell ⟨gr, 0, none⟩ (.bool bx)) := by
          intro w1 o hg
          have o2 := o.put 0 (.bool bx)
          rw [ba_set bx (by omega), setb_shup bx hR2] at o2
          have hbw : Below w.heap.size w w1 := hb.grown hg hb.size (fun k hk => by injection hk with hk; omega)
          exact ⟨(World.cell?_of_block (hg.block ab (Nat.lt_of_lt_of_le hlt0 hb.size) (by simp; omega))).trans hcell, ⟨_, (o.cell 0).trans (ba_get _ _ _ (by omega))⟩, o.free 0, o2, (own_grown hg oQ (Ne.symm hne)).far (Ne.symm hne) _, below_set hbw hgr _⟩
        have hup := Lib.hid hup
        have hlt2 : 2 * R + bx.toNat < 2 ^ n := by omega
        have d1 : decide ((k : Int) < n) = true := by simpa using g1
        have l1 : (k : Int) < n := by omega
        have l2 : (1 : Int) ≤ n := by omega
        have l3 : 1 ≤ n := by omega
        have l4 : 0 < n := by omega
        have l5 : ((n : Int) - 1 - k).toNat = n - 1 - k := by omega
        have H := Lib.hid (And.intro hd1 (And.intro hd2 (And.intro hqb (And.intro hR hZ))))
        have hy2 := Lib.hid hy
        clear hd1 hd2 hqb hR hZ hcell hbx hc0 o0 o1 b0 hy
        by_cases hge : y ≤ 2 * R + bx.toNat
        · have hcm : ∀ W, Rd W (some ⟨gr, 0, none⟩) n (2 * R + bx.toNat) → Rd W B m y → ∃ z : Int, 0 ≤ z ∧ Calls Tryz.prog 208 #[.slice (some ⟨gr, 0, none⟩) n n, .slice B m d] W (fun e w' => e = .returned (.int .i64 z) ∧ W = w') :=
            fun W r1 r2 => ⟨_, by unfold cmpI; rw [if_neg (by omega)]; split <;> decide, cmp_any _ _ _ n _ _ d _ W r1 r2 hn hm⟩
          have hcm := Lib.hid hcm
          obtain ⟨dp, hsl, hsl2, hdp⟩ := slice_one gr n l4
          have hdp := Lib.hid hdp
          go_wp2_with fail
          refine upon_up _ gr n R _ _ _ l4 rfl hdp.out oR hRlt ?_
          intro w1 oR1 hg1
          obtain ⟨ca, ⟨vv, cr⟩, fr, oR2, oQ2, hB2⟩ := hup.out w1 oR1 hg1
          have lr := oR1.lt
          go_wp2_with (first | (go_at_call 208; obtain ⟨z, hz0, hcc⟩ := hcm.out _ (Rd.of_own oR2 hlt2) (h'.step hB2); refine hcc.mono ?_; rintro e w2 ⟨rfl, rfl⟩) | (go_at_call 173; refine (sub_anyO _ _ _ _ _ _ _ _ _ (Rd.of_own oR2 hlt2) (h'.step hB2) hn hm).mono ?_; rintro e w3 ⟨g3, rfl, oR3, hg3, hx3, hb3⟩; have oQ3 := oQ2.step hb3; have cQ := (oQ3.cell (n - 1 - k)).trans (ba_get _ _ _ (by omega)); have fQ := oQ3.free (n - 1 - k); have lQ := oQ3.lt; have lQ2 := oQ2.lt))
          obtain ⟨hd1, hd2, hqb, hR, hZ⟩ := H.out
          rw [if_pos hge] at hd1 hd2
          have hyl : y < 2 ^ n := by omega
          have eR : subv n (2 * R + bx.toNat) y = DR n x y (k + 1) := by
            rw [hd1]; unfold subv
            rw [Nat.mod_eq_of_lt hyl, show 2 * R + bx.toNat + (2 ^ n - y) = (2 * R + bx.toNat - y) + 2 ^ n by omega, Nat.add_mod_right, Nat.mod_eq_of_lt (by omega)]
          have oQ4 := oQ3.put (n - 1 - k) (.bool true)
          have eQ : setb Z (n - 1 - k) true = DQ n x y (k + 1) := by
            rw [hd2]; unfold setb; rw [hqb]; simp
          rw [ba_set true (by omega), eQ] at oQ4
          rw [eR] at oR3
          go_roundw
          case rel => exact ⟨k + 1, g3, by omega, by go_num, rfl, by omega, by omega, oR3.far (by simp; omega) _, oQ4, below_set (below_step hB2 hb3) (by simp) _⟩
          case measure => simp [intOf]; omega
        · have hcm : ∀ W, Rd W (some ⟨gr, 0, none⟩) n (2 * R + bx.toNat) → Rd W B m y → ∃ z : Int, z < 0 ∧ Calls Tryz.prog 208 #[.slice (some ⟨gr, 0, none⟩) n n, .slice B m d] W (fun e w' => e = .returned (.int .i64 z) ∧ W = w') :=
            fun W r1 r2 => ⟨_, by unfold cmpI; rw [if_pos (by omega)]; decide, cmp_any _ _ _ n _ _ d _ W r1 r2 hn hm⟩
          have hcm := Lib.hid hcm
          obtain ⟨dp, hsl, hsl2, hdp⟩ := slice_one gr n l4
          have hdp := Lib.hid hdp
          go_wp2_with fail
          refine upon_up _ gr n R _ _ _ l4 rfl hdp.out oR hRlt ?_
          intro w1 oR1 hg1
          obtain ⟨ca, ⟨vv, cr⟩, fr, oR2, oQ2, hB2⟩ := hup.out w1 oR1 hg1
          have lr := oR1.lt
          go_wp2_with (go_at_call 208; obtain ⟨z, hz0, hcc⟩ := hcm.out _ (Rd.of_own oR2 hlt2) (h'.step hB2); refine hcc.mono ?_; rintro e w2 ⟨rfl, rfl⟩)
          obtain ⟨hd1, hd2, hqb, hR, hZ⟩ := H.out
          rw [if_neg hge] at hd1 hd2
          rw [Nat.sub_zero] at hd1
          simp only [Nat.mul_zero, Nat.add_zero] at hd2
          rw [← hd1] at oR2
          rw [← hd2] at oQ2
          go_roundw
          case rel => exact ⟨k + 1, gr, by omega, by go_num, rfl, hgr, hne, oR2, oQ2, hB2⟩
          case measure => simp [intOf]; omega
      · obtain rfl : k = n := by omega
        rw [DR.last] at oR
        rw [DQ.last] at oQ
        have hx := h.1
        clear hmk
        go_wp2
        go_ret3
        exact ⟨_, _, _, _, rfl, Nw.of_own oQ (Nat.lt_of_le_of_lt (Nat.div_le_self _ _) hx) (by omega) (by unfold maxLen; omega), Nw.of_own oR (Nat.lt_of_le_of_lt (Nat.mod_le _ _) hx) hgr (by unfold maxLen; omega), hb⟩

theorem divmod_zero (A B : Option Addr) (n c m d : Nat) (w : World) (h' : Rd w B m 0) (hm : m ≤ 10000) :
    Calls Tryz.prog 202 #[.slice A n c, .slice B m d] w fun e w' => e = .returned (.tuple #[.slice none 0 0, .slice none 0 0, .int .i64 7]) ∧ w = w' := by
  have hz := zero_any B m d 0 w h' hm
  rw [show decide ((0 : Nat) = 0) = true from rfl] at hz
  go_enter Tryz.func202, Tryz.ntmps202
  go_wp2_with (go_at_call 223; refine hz.mono ?_; rintro e w1 ⟨rfl, rfl⟩)
  go_ret3
  exact ⟨rfl, rfl⟩
theorem absv_zero {m y : Nat} (hy : y < 2 ^ m) : absv m y = 0 ↔ y = 0 := by
  unfold absv
  cases h : neg m y
  · simp
  · have : y ≠ 0 := by rintro rfl; simp [neg] at h
    simp; omega
theorem sdivmod_zero (A B : Option Addr) (n c x m d : Nat) (w : World) (h : Rd w A n x) (h' : Rd w B m 0) (hn : n ≤ 10000) (hm : m ≤ 10000) :
    Calls Tryz.prog 203 #[.slice A n c, .slice B m d] w fun e w' => e = .returned (.tuple #[.slice none 0 0, .slice none 0 0, .int .i64 7]) ∧ Below w.heap.size w w' := by
  have e0 : absv m 0 = 0 := (absv_zero h'.1).2 rfl
  have ca := Lib.hid (absolute_any A n c x w h hn)
  have cb : ∀ W, Rd W B m 0 → _ := fun W hW => absolute_any B m d 0 W hW hm
  rw [e0] at cb
  have cb := Lib.hid cb
  clear e0
  go_enter Tryz.func203, Tryz.ntmps203
  go_wp2_with (first | (go_at_call 224; (first | ((with_reducible refine ca.out.mono ?_); rintro e w1 ⟨A1, c1, rfl, hv1, hb1⟩) | ((with_reducible refine (cb.out _ (h'.step hb1)).mono ?_); rintro e w2 ⟨A2, c2, rfl, hv2, hb2⟩))) | (go_at_call 202; refine (divmod_zero _ _ _ _ _ _ _ hv2 hm).mono ?_; rintro e w3 ⟨rfl, rfl⟩))
  go_ret3
  exact ⟨rfl, below_step hb1 hb2⟩
def sq (n x m y : Nat) : Nat := if neg n x != neg m y then subv n 0 (absv n x / absv m y) else absv n x / absv m y
def sr (n x m y : Nat) : Nat := if neg n x then subv n 0 (absv n x % absv m y) else absv n x % absv m y
set_option maxHeartbeats 1000000 in
theorem sdivmod_any (A B : Option Addr) (n c x m d y : Nat) (w : World) (h : Rd w A n x) (h' : Rd w B m y) (hn : n ≤ 10000) (hm : m ≤ 10000) (hy : y ≠ 0) :
    Calls Tryz.prog 203 #[.slice A n c, .slice B m d] w (RetD w n (sq n x m y) (sr n x m y)) := by
  have e0 : absv m y ≠ 0 := fun e => hy ((absv_zero h'.1).1 e)
  have ca := Lib.hid (absolute_any A n c x w h hn)
  have cb : ∀ W, Rd W B m y → _ := fun W hW => absolute_any B m d y W hW hm
  have na : ∀ W, Rd W A n x → _ := fun W hW => negative_any A n c x W hW (by omega)
  have nb : ∀ W, Rd W B m y → _ := fun W hW => negative_any B m d y W hW (by omega)
  have cb := Lib.hid cb
  unfold sq sr
  generalize absv n x = X at *
  generalize absv m y = Y at *
  rcases e1 : neg n x with _ | _ <;> rcases e2 : neg m y with _ | _ <;> rw [e1] at na <;> rw [e2] at nb
  all_goals
    have na := Lib.hid na
    have nb := Lib.hid nb
    have e0 := Lib.hid e0
    clear e1 e2 hy
    go_enter Tryz.func203, Tryz.ntmps203
    go_wp2_with (first | (go_at_call 224; (first | ((with_reducible refine ca.out.mono ?_); rintro e w1 ⟨A1, c1, rfl, hv1, hb1⟩) | ((with_reducible refine (cb.out _ (h'.step hb1)).mono ?_); rintro e w2 ⟨A2, c2, rfl, hv2, hb2⟩))) | (go_at_call 202; refine (divmod_any _ _ _ _ _ _ _ _ _ (hv1.step hb2) hv2 hn hm e0.out).mono ?_; rintro e w3 ⟨A3, c3, A4, c4, rfl, hv3, hv4, hb3⟩; have ra := h.step (below_step (below_step hb1 hb2) hb3); have rb := h'.step (below_step (below_step hb1 hb2) hb3); have hb := below_step (below_step hb1 hb2) hb3; have hs := Nat.le_trans hb1.size hb2.size) | (go_at_call 191; (first | (with_reducible refine (na.out _ ra).mono ?_) | (with_reducible refine (nb.out _ rb).mono ?_)); rintro e w4 ⟨rfl, rfl⟩) | (go_at_call 225; (with_reducible refine (neg_any _ _ _ _ _ hv3.rd hn).mono ?_); rintro e w5 ⟨A5, c5, rfl, hv5, hb5⟩; have ra := ra.step hb5) | (go_at_call 225; (first | (with_reducible refine (neg_any _ _ _ _ _ hv4.rd hn).mono ?_) | (with_reducible refine (neg_any _ _ _ _ _ (hv4.step hb5).rd hn).mono ?_)); rintro e w6 ⟨A6, c6, rfl, hv6, hb6⟩))
    go_ret3
  · exact ⟨_, _, _, _, rfl, hv3.mono hs, hv4.mono hs, hb⟩
  · exact ⟨_, _, _, _, rfl, hv5.mono hb.size, (hv4.step hb5).mono hs, below_step hb hb5⟩
  · exact ⟨_, _, _, _, rfl, (hv5.mono hb.size).step hb6, hv6.mono (Nat.le_trans hb.size hb5.size), below_step (below_step hb hb5) hb6⟩
  · exact ⟨_, _, _, _, rfl, (hv3.mono hs).step hb6, hv6.mono hb.size, below_step hb hb6⟩

end Go.Proofs.YtognpmggfplekaaGreatDoor.B

namespace Go.Proofs.YtognpmggfplekaaGreatDoor.B
open Go Go.RowKit

theorem p2 (m : Nat) : (2 : Int) ^ m = ((2 ^ m : Nat) : Int) := by simp [Int.natCast_pow]
def fi (z : Int) (m : Nat) : Nat := (z % (2 : Int) ^ m).toNat
theorem fi_lt (z : Int) (m : Nat) : fi z m < 2 ^ m := by
  unfold fi
  have h := pow_p m
  rw [p2]
  have := Int.emod_lt_of_pos z (b := ((2 ^ m : Nat) : Int)) (by omega)
  omega
theorem fi_step (z : Int) (k : Nat) : fi z (k + 1) = fi z k + 2 ^ k * (z / (2 : Int) ^ k % 2 == 1).toNat := by
  have hp := pow_p k
  unfold fi
  rw [p2, p2, pow_s]
  generalize hP : 2 ^ k = P at *
  have h1 := Int.mul_ediv_add_emod z (P : Int)
  have h2 := Int.emod_lt_of_pos z (b := (P : Int)) (by omega)
  have h3 := Int.emod_nonneg z (b := (P : Int)) (by omega)
  have h4 := Int.mul_ediv_add_emod (z / (P : Int)) 2
  generalize z / (P : Int) = a at *
  generalize z % (P : Int) = r at *
  have h5 : a % 2 = 0 ∨ a % 2 = 1 := by omega
  generalize ha : a / 2 = c at *
  have e : z = (2 * (P : Int)) * c + (r + P * (a % 2)) := by
    rw [← h1, ← h4, Int.mul_add, ← Int.mul_assoc, Int.mul_comm (P : Int) 2]
    rcases h5 with h5 | h5 <;> rw [h5] <;> simp <;> omega
  have hc : (((2 * P : Nat) : Int)) = 2 * (P : Int) := by omega
  rw [hc]
  have e2 : z % (2 * (P : Int)) = r + P * (a % 2) := by
    rw [e, Int.mul_add_emod_self_left]
    rcases h5 with h5 | h5 <;> rw [h5] <;> exact Int.emod_eq_of_lt (by omega) (by omega)
  rw [e2]
  rcases h5 with h5 | h5 <;> rw [h5] <;> simp <;> omega
theorem and_one (z : Int) : bits BinOp.and IntKind.i64 z 1 = z % 2 := by
  show IntKind.i64.wrap ((BitVec.ofInt 64 z &&& BitVec.ofInt 64 1).toNat : Int) = _
  rw [BitVec.toNat_and, show (BitVec.ofInt 64 1).toNat = 1 from rfl, Nat.and_one_is_mod, BitVec.toNat_ofInt, IntKind.wrap_i64]
  omega
end Go.Proofs.YtognpmggfplekaaGreatDoor.B
