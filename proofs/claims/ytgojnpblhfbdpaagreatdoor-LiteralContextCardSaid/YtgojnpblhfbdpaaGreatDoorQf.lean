/-
  Contracts of the program's power, comparisons, absolute value. Widths up to some thousands.
  The plain mathematics of the division bit by bit. No conditions; nothing of the program.
  Contracts of the program's division. Widths up to some thousands.
  Contracts of the program's shifts, of the reference's Same and FromInt. Widths up to some thousands.
-/
import Derived.Test.YtgojnpblhfbdpaaGreatDoorQe
import Derived.Test.YtgojnpblhfbdpaaGreatDoorQa
import Derived.BigQuiet
import Derived.Deep.QuietTactic

namespace Go.Proofs.YtgojnpblhfbdpaaGreatDoor.B
open Go Go.RowKit

def PowV (n x y m k : Nat) : Nat := (x ^ (y / 2 ^ (m - k))) % 2 ^ n
theorem PowV.zero {n x y m : Nat} (hy : y < 2 ^ m) : PowV n x y m 0 = 1 % 2 ^ n := by unfold PowV; rw [Nat.sub_zero, Nat.div_eq_of_lt hy, Nat.pow_zero]
theorem PowV.last (n x y m : Nat) : PowV n x y m m = (x ^ y) % 2 ^ n := by unfold PowV; simp
theorem PowV.next0 {n x y m k : Nat} (hk : k < m) (h : y.testBit (m - 1 - k) = false) : (PowV n x y m k * PowV n x y m k) % 2 ^ n = PowV n x y m (k + 1) := by
  unfold PowV
  have e := div_step y (m - 1 - k)
  rw [h, show m - 1 - k + 1 = m - k by omega] at e
  rw [show m - (k + 1) = m - 1 - k by omega, e, ← Nat.mul_mod, Bool.toNat_false, Nat.add_zero, Nat.two_mul, Nat.pow_add]
theorem PowV.next1 {n x y m k : Nat} (hk : k < m) (h : y.testBit (m - 1 - k) = true) : (((PowV n x y m k * PowV n x y m k) % 2 ^ n) * x) % 2 ^ n = PowV n x y m (k + 1) := by
  unfold PowV
  have e := div_step y (m - 1 - k)
  rw [h, show m - 1 - k + 1 = m - k by omega] at e
  rw [show m - (k + 1) = m - 1 - k by omega, e, ← Nat.mul_mod, Nat.mod_mul_mod, Nat.two_mul, Nat.pow_add, Nat.pow_add]
  simp
def PowR (n x y m : Nat) (w : World) (v i : Value) (wr : World) : Prop := ∃ k, k ≤ m ∧ i = .int .i64 k ∧ ∃ A' c', v = .slice A' n c' ∧ Nw wr w.heap.size A' n c' (PowV n x y m k) ∧ Below w.heap.size w wr
/-- x continued with copies of a bit up to the width W. -/
def ext (n x W : Nat) (fill : Bool) : Nat := if fill then x + 2 ^ n * (2 ^ (W - n) - 1) else x
theorem ext_bit {n x W i : Nat} {fill : Bool} (hx : x < 2 ^ n) (hi : i < W) : (ext n x W fill).testBit i = if i < n then x.testBit i else fill := by
  unfold ext
  cases fill
  · simp only [Bool.false_eq_true, if_false]
    split
    · rfl
    · exact high_bit hx (by omega)
  · rw [if_pos rfl, Nat.add_comm, Nat.testBit_two_pow_mul_add _ hx]
    split
    · rfl
    · rw [Nat.testBit_two_pow_sub_one]; simp; omega
theorem ext_lt {n x W : Nat} {fill : Bool} (hx : x < 2 ^ n) (hn : n ≤ W) : ext n x W fill < 2 ^ W := by
  have e : 2 ^ W = 2 ^ n * 2 ^ (W - n) := by rw [← Nat.pow_add]; congr 1; omega
  have hp := pow_p (W - n)
  unfold ext
  rw [e]
  cases fill
  · simp only [Bool.false_eq_true, if_false]
    exact Nat.lt_of_lt_of_le hx (Nat.le_mul_of_pos_right _ hp)
  · rw [if_pos rfl, Nat.mul_sub, Nat.mul_one]
    have := Nat.le_mul_of_pos_right (2 ^ n) hp
    omega
def cmpI (x y : Int) : Int := if x < y then -1 else if x = y then 0 else 1
def CmpR (n x m y W : Nat) (fill : Bool) (i : Value) : Prop := ∃ k, k ≤ W ∧ i = .int .i64 k ∧ ext n x W fill / 2 ^ (W - k) = ext m y W fill / 2 ^ (W - k)
/-- The signed value. -/
def sval (n x : Nat) : Int := if neg n x then (x : Int) - (2 ^ n : Nat) else x
theorem sval_neg {n x : Nat} (h : neg n x = true) : sval n x = (x : Int) - (2 ^ n : Nat) := by unfold sval; rw [h]; rfl
theorem sval_pos {n x : Nat} (h : neg n x = false) : sval n x = x := by unfold sval; rw [h]; rfl
theorem ext_val {n x W : Nat} (hn : n ≤ W) : (ext n x W true : Int) = (x : Int) - (2 ^ n : Nat) + (2 ^ W : Nat) := by
  have e : 2 ^ W = 2 ^ n * 2 ^ (W - n) := by rw [← Nat.pow_add]; congr 1; omega
  have hp := Nat.le_mul_of_pos_right (2 ^ n) (pow_p (W - n))
  unfold ext
  rw [if_pos rfl, e, Nat.mul_sub, Nat.mul_one]
  omega
theorem cmp_ext {n x m y : Nat} {f : Bool} (h : neg n x = f) (h' : neg m y = f) : cmpI (ext n x (max n m) f) (ext m y (max n m) f) = cmpI (sval n x) (sval m y) := by
  cases f
  · rw [sval_pos h, sval_pos h']; rfl
  · rw [sval_neg h, sval_neg h', ext_val (Nat.le_max_left _ _), ext_val (Nat.le_max_right _ _)]
    unfold cmpI
    have e1 : ((x : Int) - (2 ^ n : Nat) + (2 ^ (max n m) : Nat) < (y : Int) - (2 ^ m : Nat) + (2 ^ (max n m) : Nat)) ↔ ((x : Int) - (2 ^ n : Nat) < (y : Int) - (2 ^ m : Nat)) := by omega
    have e2 : ((x : Int) - (2 ^ n : Nat) + (2 ^ (max n m) : Nat) = (y : Int) - (2 ^ m : Nat) + (2 ^ (max n m) : Nat)) ↔ ((x : Int) - (2 ^ n : Nat) = (y : Int) - (2 ^ m : Nat)) := by omega
    simp only [e1, e2]
theorem cmp_np {n x m y : Nat} (hx : x < 2 ^ n) (h : neg n x = true) (h' : neg m y = false) : cmpI (sval n x) (sval m y) = -1 := by
  rw [sval_neg h, sval_pos h']; unfold cmpI; rw [if_pos (by omega)]
theorem cmp_pn {n x m y : Nat} (hy : y < 2 ^ m) (h : neg n x = false) (h' : neg m y = true) : cmpI (sval n x) (sval m y) = 1 := by
  rw [sval_pos h, sval_neg h']; unfold cmpI; rw [if_neg (by omega), if_neg (by omega)]
/-- The size of the signed value in n bits. -/
def absv (n x : Nat) : Nat := if neg n x then 2 ^ n - x else x
theorem absv_lt {n x : Nat} (hx : x < 2 ^ n) : absv n x < 2 ^ n := by
  unfold absv
  cases h : neg n x
  · exact hx
  · have : x ≠ 0 := by rintro rfl; simp [neg] at h
    simp; omega
end Go.Proofs.YtgojnpblhfbdpaaGreatDoor.B

namespace Go.Proofs.YtgojnpblhfbdpaaGreatDoor.B

def DQ (n x y k : Nat) : Nat := 2 ^ (n - k) * (x / 2 ^ (n - k) / y)
def DR (n x y k : Nat) : Nat := x / 2 ^ (n - k) % y
theorem DQ.zero {n x y : Nat} (hx : x < 2 ^ n) : DQ n x y 0 = 0 := by unfold DQ; rw [Nat.sub_zero, Nat.div_eq_of_lt hx, Nat.zero_div, Nat.mul_zero]
theorem DR.zero {n x y : Nat} (hx : x < 2 ^ n) : DR n x y 0 = 0 := by unfold DR; rw [Nat.sub_zero, Nat.div_eq_of_lt hx, Nat.zero_mod]
theorem DQ.last (n x y : Nat) : DQ n x y n = x / y := by unfold DQ; simp
theorem DR.last (n x y : Nat) : DR n x y n = x % y := by unfold DR; simp
theorem DQ.lt {n x y k : Nat} (hx : x < 2 ^ n) : DQ n x y k < 2 ^ n := by
  unfold DQ
  refine Nat.lt_of_le_of_lt ?_ hx
  calc 2 ^ (n - k) * (x / 2 ^ (n - k) / y) ≤ 2 ^ (n - k) * (x / 2 ^ (n - k)) := Nat.mul_le_mul_left _ (Nat.div_le_self _ _)
    _ ≤ x := Nat.mul_div_le _ _
theorem divmod_step {X y b : Nat} (hy : 0 < y) (hb : b ≤ 1) : (2 * X + b) / y = 2 * (X / y) + (if y ≤ 2 * (X % y) + b then 1 else 0) ∧ (2 * X + b) % y = 2 * (X % y) + b - (if y ≤ 2 * (X % y) + b then y else 0) := by
  have e := Nat.div_add_mod X y
  have hr := Nat.mod_lt X hy
  have e2 : 2 * X + b = y * (2 * (X / y)) + (2 * (X % y) + b) := by
    have : y * (2 * (X / y)) = 2 * (y * (X / y)) := by rw [← Nat.mul_assoc, Nat.mul_comm y 2, Nat.mul_assoc]
    omega
  rw [e2, Nat.mul_add_div hy, Nat.mul_add_mod]
  by_cases h : y ≤ 2 * (X % y) + b
  · rw [if_pos h, if_pos h]
    have h1 : (2 * (X % y) + b) / y = 1 := by
      rw [Nat.div_eq_iff hy]; omega
    have h2 := Nat.div_add_mod (2 * (X % y) + b) y
    rw [h1] at h2
    exact ⟨by rw [h1], by omega⟩
  · have h1 : (2 * (X % y) + b) / y = 0 := Nat.div_eq_of_lt (by omega)
    have h2 : (2 * (X % y) + b) % y = 2 * (X % y) + b := Nat.mod_eq_of_lt (by omega)
    rw [if_neg h, if_neg h, h1, h2]
    exact ⟨rfl, rfl⟩
theorem DR.lt {n x y k : Nat} (hy : 0 < y) : DR n x y k < y := Nat.mod_lt _ hy
theorem DR.small {n x y k : Nat} (hx : x < 2 ^ n) (hk : k ≤ n) : DR n x y k < 2 ^ k := by
  unfold DR
  refine Nat.lt_of_le_of_lt (Nat.mod_le _ _) ?_
  rw [Nat.div_lt_iff_lt_mul (pow_p _), ← Nat.pow_add]
  rwa [show k + (n - k) = n by omega]
theorem D_next {n x y k : Nat} (hy : 0 < y) (hk : k < n) :
    DR n x y (k + 1) = 2 * DR n x y k + (x.testBit (n - 1 - k)).toNat - (if y ≤ 2 * DR n x y k + (x.testBit (n - 1 - k)).toNat then y else 0) ∧
    DQ n x y (k + 1) = DQ n x y k + 2 ^ (n - 1 - k) * (if y ≤ 2 * DR n x y k + (x.testBit (n - 1 - k)).toNat then 1 else 0) := by
  have e := div_step x (n - 1 - k)
  rw [show n - 1 - k + 1 = n - k by omega] at e
  obtain ⟨h1, h2⟩ := divmod_step (X := x / 2 ^ (n - k)) hy (toNat_le (x.testBit (n - 1 - k)))
  unfold DR DQ
  rw [show n - (k + 1) = n - 1 - k by omega, e, h1, h2]
  refine ⟨rfl, ?_⟩
  rw [Nat.mul_add, ← Nat.mul_assoc, Nat.mul_comm _ 2, ← pow_s, show n - 1 - k + 1 = n - k by omega]
theorem DQ_bit {n x y k : Nat} (hk : k < n) : (DQ n x y k).testBit (n - 1 - k) = false := by
  unfold DQ
  rw [Nat.testBit_two_pow_mul]
  simp; omega
/-- The bits moved up by one, the lowest one kept. -/
def shup (n r : Nat) : Nat := (2 * r + (r.testBit 0).toNat) % 2 ^ n
theorem dbl_bit (r : Nat) (b : Bool) (i : Nat) : (2 * r + b.toNat).testBit (i + 1) = r.testBit i := by
  rw [Nat.testBit_add_one]
  congr 1
  have := toNat_le b
  omega
theorem dbl_bit0 (r : Nat) (b : Bool) : (2 * r + b.toNat).testBit 0 = b := by
  rw [Nat.testBit_zero]
  cases b <;> simp <;> omega
theorem setb_shup {n r : Nat} (b : Bool) (h : 2 * r + 1 < 2 ^ n) : setb (shup n r) 0 b = 2 * r + b.toNat := by
  apply Nat.eq_of_testBit_eq
  intro i
  rw [setb_bit]
  unfold shup
  have := toNat_le (r.testBit 0)
  rw [Nat.mod_eq_of_lt (by omega)]
  rcases i with _ | i
  · rw [if_pos rfl, dbl_bit0]
  · rw [if_neg (by omega), dbl_bit, dbl_bit]

end Go.Proofs.YtgojnpblhfbdpaaGreatDoor.B

namespace Go.Proofs.YtgojnpblhfbdpaaGreatDoor.B
open Go Go.RowKit
attribute [local go_sem ↓] Go.wp_at_zero Go.wp_at_succ

set_option maxRecDepth 100000 in
theorem own_grown {w u : World} {g h : Nat} {t : TypeId} {cs : Array Value} (hb : w.grownBy u (some g)) (o : Own w h t cs) (hne : h ≠ g) : Own u h t cs := Own.grown o hb (by simpa using hne)
set_option maxRecDepth 100000 in
/-- copy(r[1:], r) in a block of the call's own. -/
theorem run_up {w : World} (ty : TypeId) (g n R : Nat) (dp : Option Addr) (dLen dCap : Nat) (hn : 0 < n) (hdl : dLen = n - 1) (hdp : 1 < n → dp = some ⟨g, 1, none⟩) (hg : Own w g 4 (ba n R)) (hR : R < 2 ^ n) :
    ∃ w', (Builtin.copy_ #[75, 75] ty #[.slice dp dLen dCap, .slice (some ⟨g, 0, none⟩) n n]).run Tryz.prog w = .ok (goInt (n - 1 : Nat)) w' ∧ Own w' g 4 (ba n (shup n R)) ∧ w.grownBy w' (some g) := by
  subst hdl
  have hsz : (Tryz.prog.info? 4).map (·.size) = some 1 := by kernel_rfl
  rcases Nat.lt_or_ge 1 n with h1 | h1
  · obtain rfl := hdp h1
    have hl : ((bl n R).take (n - 1)).length = n - 1 := by rw [List.length_take, bl_length]; omega
    have hrun := run_copy_row (P := Tryz.prog) w 75 75 ty 4 g 1 (n - 1) dCap ⟨g, 0, none⟩ n n (ba n R) _ ((bl n R).take (n - 1)) Tryz.underlying75 hsz hg (by rw [hl]; exact (Nat.min_eq_right (by omega)).symm)
      (fun j v hv => by
        have hj : j < n - 1 := by have := (List.getElem?_eq_some_iff.1 hv).1; rwa [hl] at this
        rw [List.getElem?_take, if_pos hj, bl_get _ _ _ (by omega)] at hv
        have e : (⟨g, 0, none⟩ : Addr).add j = ⟨g, j, none⟩ := by unfold Addr.add; split <;> simp_all
        rw [e, hg.cell j, ba_get _ _ _ (by omega)]
        exact hv) (by rw [hl, ba_size]; omega) (fun v hv => bl_one n R v (List.mem_of_mem_take hv))
    rw [hl] at hrun
    refine ⟨_, hrun, ?_, ⟨rfl, rfl, rfl, by simp [World.setRow], fun k hk hne => setRow_other w g k _ (by simpa using hne)⟩⟩
    have e : ((ba n R).toList.take 1 ++ (bl n R).take (n - 1) ++ (ba n R).toList.drop (1 + (n - 1))).toArray = ba n (shup n R) := by
      unfold ba
      congr 1
      apply List.ext_getElem?
      intro i
      simp only [List.drop_eq_nil_of_le (show (bl n R).toArray.toList.length ≤ 1 + (n - 1) by simp [bl_length]; omega), List.append_nil]
      rcases i with _ | i
      · rw [List.getElem?_append_left (by simp [bl_length]; omega), List.getElem?_take, if_pos (by decide), bl_get _ _ _ hn, bl_get _ _ _ hn, shup, Nat.testBit_mod_two_pow, dbl_bit0]
        simp [hn]
      · rw [List.getElem?_append_right (by simp [bl_length]; omega)]
        have e1 : ((bl n R).toArray.toList.take 1).length = 1 := by simp [bl_length]; omega
        rw [e1, Nat.add_sub_cancel, List.getElem?_take]
        by_cases hi : i < n - 1
        · rw [if_pos hi, bl_get _ _ _ (by omega), bl_get _ _ _ (by omega), shup, Nat.testBit_mod_two_pow, dbl_bit]
          have : i + 1 < n := by omega
          simp [this]
        · rw [if_neg hi, List.getElem?_eq_none (by rw [bl_length]; omega)]
    rw [← e]
    exact setRow_heap w g _ _ _ _ hg
  · obtain rfl : n = 1 := by omega
    have hrun := run_copy_none (P := Tryz.prog) w 75 75 ty 4 dp (some ⟨g, 0, none⟩) 0 dCap 1 1 Tryz.underlying75 hsz rfl
    refine ⟨w, hrun, ?_, World.grownBy.refl w _⟩
    have e : shup 1 R = R := by
      have : R = 0 ∨ R = 1 := by omega
      rcases this with rfl | rfl <;> rfl
    rw [e]
    exact hg
set_option maxRecDepth 100000 in
theorem upon_up {w : World} {o : Oper} {a : Act} {K : Act → World → Prop} {Q : Exit → Act → World → Prop} (ty : TypeId) (g n R : Nat) (dp : Option Addr) (dLen dCap : Nat) (hn : 0 < n) (hdl : dLen = n - 1) (hdp : 1 < n → dp = some ⟨g, 1, none⟩) (hg : Own w g 4 (ba n R)) (hR : R < 2 ^ n)
    (h : ∀ w', Own w' g 4 (ba n (shup n R)) → w.grownBy w' (some g) → K (a.put o.dst (goInt (n - 1 : Nat))) w') :
    Oper.upon Tryz.prog o a K Q (((Builtin.copy_ #[75, 75] ty #[.slice dp dLen dCap, .slice (some ⟨g, 0, none⟩) n n]).run Tryz.prog w).andThen fun v w' => .ok (.value v) w') := by
  obtain ⟨w', hrun, h1, h2⟩ := run_up ty g n R dp dLen dCap hn hdl hdp hg hR
  rw [hrun]
  exact h w' h1 h2
set_option maxRecDepth 100000 in
theorem slice_one (g n : Nat) (hn : 0 < n) : ∃ dp : Option Addr, (∀ W : World, (Instr.slice 75 (.slice (some ⟨g, 0, none⟩) n n) (some (.int .i64 1)) none none).run Tryz.prog W = .ok (.slice dp (n - 1) (n - 1)) W) ∧
    (∀ W : World, (Instr.sliceAt 75 (.slice (some ⟨g, 0, none⟩) n n) (some (.int .i64 1)) none none).run Tryz.prog W = .ok (.slice dp (n - 1) (n - 1)) W) ∧ (1 < n → dp = some ⟨g, 1, none⟩) := by
  have hz : ∀ W : World, (sizeOf 4).run Tryz.prog W = .ok 1 W := fun W => by kernel_rfl
  have key : ∀ W : World, (Instr.slice 75 (.slice (some ⟨g, 0, none⟩) n n) (some (.int .i64 1)) none none).run Tryz.prog W = .ok (sliced (some ⟨g, 0, none⟩) 1 n n 1) W := fun W => by
    have h := run_slice_l (P := Tryz.prog) (w := W) 75 (some ⟨g, 0, none⟩) n n (by kernel_rfl) .i64 1 (by decide) (by omega)
    rw [h, show (Tryz.prog).elem 75 = 4 by kernel_rfl, hz W]
    rfl
  refine ⟨if n = 1 then some ⟨g, 0, none⟩ else some ⟨g, 1, none⟩, fun W => ?_, fun W => ?_, fun h => if_neg (by omega)⟩
  · rw [key W]; unfold sliced; split <;> rfl
  · rw [run_sliceAt_slice (P := Tryz.prog) (w := W) _ _ _ _ _ (by kernel_rfl), key W]; unfold sliced; split <;> rfl
def RetD (w : World) (n q r : Nat) (e : Ending) (w' : World) : Prop := ∃ A c A' c', e = .returned (.tuple #[.slice A n c, .slice A' n c', .int .i64 0]) ∧ Nw w' w.heap.size A n c q ∧ Nw w' w.heap.size A' n c' r ∧ Below w.heap.size w w'
def DivR (n x y gq : Nat) (w : World) (v i : Value) (u : World) : Prop :=
  ∃ k gr, k ≤ n ∧ i = .int .i64 k ∧ v = .slice (some ⟨gr, 0, none⟩) n n ∧ w.heap.size ≤ gr ∧ gr ≠ gq ∧ Own u gr 4 (ba n (DR n x y k)) ∧ Own u gq 4 (ba n (DQ n x y k)) ∧ Below w.heap.size w u
set_option maxRecDepth 100000 in
theorem absv_zero {m y : Nat} (hy : y < 2 ^ m) : absv m y = 0 ↔ y = 0 := by
  unfold absv
  cases h : neg m y
  · simp
  · have : y ≠ 0 := by rintro rfl; simp [neg] at h
    simp; omega
def sq (n x m y : Nat) : Nat := if neg n x != neg m y then subv n 0 (absv n x / absv m y) else absv n x / absv m y
def sr (n x m y : Nat) : Nat := if neg n x then subv n 0 (absv n x % absv m y) else absv n x % absv m y
end Go.Proofs.YtgojnpblhfbdpaaGreatDoor.B

namespace Go.Proofs.YtgojnpblhfbdpaaGreatDoor.B
open Go Go.RowKit

def mkn : Nat → (Nat → Bool) → Nat
  | 0, _ => 0
  | k + 1, f => mkn k f + 2 ^ k * (f k).toNat
theorem mkn_lt (k : Nat) (f : Nat → Bool) : mkn k f < 2 ^ k := by
  induction k with
  | zero => show 0 < 1; decide
  | succ k ih => exact add_bit_lt _ ih
theorem mkn_bit {k : Nat} {f : Nat → Bool} {i : Nat} (hi : i < k) : (mkn k f).testBit i = f i := by
  induction k with
  | zero => omega
  | succ k ih =>
    show (mkn k f + 2 ^ k * (f k).toNat).testBit i = f i
    rw [add_bit _ (mkn_lt k f)]
    split
    · rename_i h; rw [h]
    · exact ih (by omega)
def shv (n x m : Nat) (fill : Bool) : Nat := mkn n fun i => if i + m < n then x.testBit (i + m) else fill
def ShR (n x m g : Nat) (fill : Bool) (w : World) (i : Value) (wr : World) : Prop :=
  ∃ k, k ≤ n ∧ i = .int .i64 k ∧ Own wr g 4 (ba n (mkn k fun i => if i + m < n then x.testBit (i + m) else fill)) ∧ Below w.heap.size w wr
theorem same_of {n x y : Nat} (hx : x < 2 ^ n) (hy : y < 2 ^ n) (h : ∀ i, i < n → x.testBit i = y.testBit i) : x = y := by
  apply Nat.eq_of_testBit_eq
  intro i
  rcases Nat.lt_or_ge i n with hi | hi
  · exact h i hi
  · rw [high_bit hx hi, high_bit hy hi]
theorem p2 (m : Nat) : (2 : Int) ^ m = ((2 ^ m : Nat) : Int) := by simp [Int.natCast_pow]
def fi (z : Int) (m : Nat) : Nat := (z % (2 : Int) ^ m).toNat
theorem fi_lt (z : Int) (m : Nat) : fi z m < 2 ^ m := by
  unfold fi
  have h := pow_p m
  rw [p2]
  have := Int.emod_lt_of_pos z (b := ((2 ^ m : Nat) : Int)) (by omega)
  omega
theorem fi_step (z : Int) (k : Nat) : fi z (k + 1) = fi z k + 2 ^ k * (z / (2 : Int) ^ k % 2 == 1).toNat := by
  have hp := pow_p k
  unfold fi
  rw [p2, p2, pow_s]
  generalize hP : 2 ^ k = P at *
  have h1 := Int.mul_ediv_add_emod z (P : Int)
  have h2 := Int.emod_lt_of_pos z (b := (P : Int)) (by omega)
  have h3 := Int.emod_nonneg z (b := (P : Int)) (by omega)
  have h4 := Int.mul_ediv_add_emod (z / (P : Int)) 2
  generalize z / (P : Int) = a at *
  generalize z % (P : Int) = r at *
  have h5 : a % 2 = 0 ∨ a % 2 = 1 := by omega
  generalize ha : a / 2 = c at *
  have e : z = (2 * (P : Int)) * c + (r + P * (a % 2)) := by
    rw [← h1, ← h4, Int.mul_add, ← Int.mul_assoc, Int.mul_comm (P : Int) 2]
    rcases h5 with h5 | h5 <;> rw [h5] <;> simp <;> omega
  have hc : (((2 * P : Nat) : Int)) = 2 * (P : Int) := by omega
  rw [hc]
  have e2 : z % (2 * (P : Int)) = r + P * (a % 2) := by
    rw [e, Int.mul_add_emod_self_left]
    rcases h5 with h5 | h5 <;> rw [h5] <;> exact Int.emod_eq_of_lt (by omega) (by omega)
  rw [e2]
  rcases h5 with h5 | h5 <;> rw [h5] <;> simp <;> omega
theorem and_one (z : Int) : bits BinOp.and IntKind.i64 z 1 = z % 2 := by
  show IntKind.i64.wrap ((BitVec.ofInt 64 z &&& BitVec.ofInt 64 1).toNat : Int) = _
  rw [BitVec.toNat_and, show (BitVec.ofInt 64 1).toNat = 1 from rfl, Nat.and_one_is_mod, BitVec.toNat_ofInt, IntKind.wrap_i64]
  omega
def FiR (z : Int) (m : Nat) (w : World) (p v i : Value) (wr : World) : Prop :=
  ∃ k zk, k ≤ m ∧ i = .int .i64 k ∧ p = .int .i64 zk ∧ zk = z / (2 : Int) ^ k ∧ ∃ A' c', v = .slice A' k c' ∧ Nw wr w.heap.size A' k c' (fi z k) ∧ Below w.heap.size w wr
theorem rFromInt_any (z : Int) (m : Nat) (w : World) (hm : m ≤ 128) :
    Calls Tryz.prog 52 #[.int .i64 z, .int .i64 m] w fun e w' => ∃ A' c', e = .returned (.tuple #[.slice A' m c', .int .i64 0]) ∧ Nw w' w.heap.size A' m c' (fi z m) ∧ Below w.heap.size w w' := by
  have d1 : decide ((m : Int) < 0) = false := by simp
  have d2 : decide ((128 : Int) < m) = false := by simp; omega
  go_enter Tryz.func52, Tryz.ntmps52
  go_wp2
  go_loopw [0, 6, 7] (fun p v i wr => FiR z m w p v i wr) (fun _ _ i _ => m - (intOf i).toNat)
  case atStart => exact ⟨0, z, Nat.zero_le _, rfl, rfl, by simp, none, 0, rfl, by rw [show fi z 0 = 0 by simp [fi, Int.emod_one]]; exact Nw.nil _ _, Below.refl _ _⟩
  case round =>
    obtain ⟨k, zk, hk, rfl, rfl, hzk, A', c', rfl, hv, hb⟩ := hrel
    by_cases g1 : k < m
    · have hst := fi_step z k
      rw [← hzk] at hst
      obtain ⟨zb, hzb⟩ : ∃ b, b = (zk % 2 == 1) := ⟨_, rfl⟩
      have hand : (bits BinOp.and IntKind.i64 zk 1 == 1) = zb := by rw [and_one, hzb]
      have hnx : zk / 2 = z / (2 : Int) ^ (k + 1) := by
        rw [hzk, Int.pow_succ, Int.ediv_ediv_of_nonneg (Int.pow_nonneg (by decide))]
      rw [← hzb] at hst
      have H := Lib.hid (And.intro hst hnx)
      have d3 : decide ((k : Int) < m) = true := by simpa using g1
      clear hst hnx hzk hzb
      go_wp2_with (at_builtin; refine wpList_push rfl (.tmp 19) (.tmp 23) rfl rfl hb rfl hv _ rfl _ rfl (by omega) ?_; intro A1 c1 w1 hv1 hb1)
      go_roundw
      case rel => exact ⟨k + 1, _, by omega, by go_num, rfl, H.out.2, A1, c1, rfl, by rw [H.out.1]; exact hv1, hb1⟩
      case measure => simp [intOf]; omega
    · obtain rfl : k = m := by omega
      clear hzk
      go_wp2
      go_ret2
      exact ⟨A', c', rfl, hv, hb⟩
end Go.Proofs.YtgojnpblhfbdpaaGreatDoor.B
