/-
  Contracts of the program's product and power. Widths up to some thousands.
-/
import Derived.Test.YtaedfoblniadfaaBvD
import Derived.RegionTactic
import Derived.IntWalk
import Derived.Deep.RegionLaw
namespace Go.Proofs.Ytaedfoblniadfaa
open Go Go.RowKit
attribute [local go_sem ↓] Go.wp_at_zero Go.wp_at_succ

theorem mul_step {T T' p t s q q' P X xb : Nat} (h1 : T + p * q = P + X) (h2 : T' + p * t = T + p * s) (hf : s + 2 * q' = t + xb + q) : T' + 2 * p * q' = P + (X + p * xb) := by
  have : p * s + 2 * p * q' = p * t + p * xb + p * q := by
    rw [← Nat.mul_add, ← Nat.mul_add, ← hf, Nat.mul_add, Nat.mul_comm 2 p, Nat.mul_assoc]
  omega
def MulP (n x y k : Nat) : Nat := (x * (y % 2 ^ k)) % 2 ^ n
theorem MulP.lt (n x y k : Nat) : MulP n x y k < 2 ^ n := mod_lt' _ _
theorem MulP.skip {n x y k : Nat} (h : y.testBit k = false) : MulP n x y (k + 1) = MulP n x y k := by unfold MulP; rw [mod_step, h]; simp
theorem MulP.next {n x y k T q : Nat} (h : y.testBit k = true) (hk : k ≤ n) (hT : T + 2 ^ n * q = MulP n x y k + 2 ^ k * (x % 2 ^ (n - k))) (hl : T < 2 ^ n) : T = MulP n x y (k + 1) := by
  have e1 := sum_mod hT hl
  have e2 : 2 ^ k * (x % 2 ^ (n - k)) = (2 ^ k * x) % 2 ^ n := by
    rw [← Nat.mul_mod_mul_left, ← Nat.pow_add, Nat.add_sub_cancel' hk]
  rw [e1, e2]
  unfold MulP
  rw [← Nat.add_mod, mod_step, h, Nat.mul_add, Nat.mul_comm (2 ^ k) x]
  simp
theorem MulP.last {n m x y : Nat} (hy : y < 2 ^ m) : MulP n x y (min n m) = (x * y) % 2 ^ n := by
  unfold MulP
  rcases Nat.le_total m n with h | h
  · rw [Nat.min_eq_right h, Nat.mod_eq_of_lt hy]
  · rw [Nat.min_eq_left h, Nat.mul_mod_mod]

def MulO (n m x y g : Nat) (w : World) (i : Value) (wr : World) : Prop := ∃ k, k ≤ min n m ∧ i = .int .i64 k ∧ Own wr g 4 (ba n (MulP n x y k)) ∧ Below w.heap.size w wr
def MulI (n k x P g g1 : Nat) (w : World) (i : Value) (u : World) : Prop :=
  ∃ (j : Nat) (q : Bool) (T : Nat), j ≤ n - k ∧ i = .int .i64 j ∧ Own u g1 4 #[.bool q] ∧ Own u g 4 (ba n T) ∧ T < 2 ^ n ∧ T + 2 ^ (k + j) * q.toNat = P + 2 ^ k * (x % 2 ^ j) ∧ Below w.heap.size w u
theorem MulI.next {n k j x P T g g1 : Nat} {q bx : Bool} {w u : World} (hj : k + j < n) (O1 : Own u g1 4 #[.bool q]) (O2 : Own u g 4 (ba n T)) (hne : g ≠ g1) (hg : w.heap.size ≤ g) (hg1 : w.heap.size ≤ g1) (hb : Below w.heap.size w u) (hT : T < 2 ^ n)
    (hS : T + 2 ^ (k + j) * q.toNat = P + 2 ^ k * (x % 2 ^ j)) (hx : bx = x.testBit j) (s q' : Bool) (he : s.toNat + 2 * q'.toNat = (T.testBit (k + j)).toNat + bx.toNat + q.toNat) :
    MulI n k x P g g1 w (.int .i64 ((j : Int) + 1)) ((u.setCell ⟨g1, 0, none⟩ (.bool q')).setCell ⟨g, k + j, none⟩ (.bool s)).drew := by
  have o2 := (O2.far (p := ⟨g1, 0, none⟩) hne (.bool q')).put (k + j) (.bool s)
  rw [ba_set s hj] at o2
  refine ⟨j + 1, q', _, by omega, by go_num, (O1.put 0 (.bool q')).far (p := ⟨g, k + j, none⟩) (Ne.symm hne) (.bool s), o2, setb_lt hT hj, ?_, below_drew (below_set (below_set hb hg1 _) hg _)⟩
  have e := setb_eq T (k + j) s
  rw [mod_step, ← hx, Nat.mul_add, ← Nat.mul_assoc, ← Nat.pow_add, show k + (j + 1) = (k + j) + 1 from rfl, pow_s]
  exact mul_step hS e he
set_option maxHeartbeats 2000000 in
theorem mul_any (A B : Option Addr) (n c x m d y : Nat) (w : World) (h : Rd w A n x) (h' : Rd w B m y) (hn : n ≤ 10000) (hm : m ≤ 10000) :
    Calls Try.prog 19 #[.slice A n c, .slice B m d] w (RetN w n ((x * y) % 2 ^ n)) := by
  have hmk := fun W => run_makeB n (by omega) W
  rw [← MulP.last (n := n) h'.1]
  have hcase : m < n ∨ ¬ m < n := by omega
  rcases hcase with hmn | hmn
  all_goals
    go_enter Try.func19, Try.ntmps19
    go_wp2
    go_loopw [17] (fun i wr => MulO n m x y w.heap.size w i wr) (fun i _ => min n m - (intOf i).toNat)
    case atStart => exact ⟨0, Nat.zero_le _, rfl, by rw [show MulP n x y 0 = 0 by simp [MulP, Nat.mod_one]]; exact Own.new w _ _, below_new (Below.refl _ _) _⟩
    case round =>
      obtain ⟨wo, rfl⟩ : ∃ wo : World, wo = wr := ⟨_, rfl⟩
      obtain ⟨k, hk, rfl, o2, hb⟩ := hrel
      by_cases g1 : k < min n m
      · obtain ⟨bb, bo, rfl, hlt0, hc0⟩ := h'.at_ (show k < m by omega)
        have hcell := (hb.cell (p := ⟨bb, bo + k, none⟩) hlt0).trans hc0
        clear hc0
        have hr := h.step hb
        have d1 : decide ((k : Int) < n) = true := by simp; omega
        have d2 : decide ((k : Int) < m) = true := by simp; omega
        rcases hy : y.testBit k with _ | _
        · rw [hy] at hcell
          have o2' : Own wo w.heap.size 4 (ba n (MulP n x y (k + 1))) := by rw [MulP.skip hy]; exact o2
          clear o2 hy h'
          go_wp2
          go_roundw
          case rel => exact ⟨k + 1, by omega, by go_num, o2', hb⟩
          case measure => simp [intOf]; omega
        · rw [hy] at hcell
          have hy := Lib.hid hy
          have hkn : (k : Int) ≤ n := by omega
          have o3 := (o2.alloc (.cells #[.bool false] 4))
          have o1 := Own.new wo 4 #[.bool false]
          have hb1 := below_new hb (.cells #[.bool false] 4)
          have hlg : w.heap.size < wo.heap.size := o2.lt
          go_wp2_with (go_at_call 54; refine (adder_any _ _).mono ?_; rintro e w1 ⟨rfl, rfl⟩)
          go_loopw [30] (fun i u => MulI n k x (MulP n x y k) w.heap.size wo.heap.size w i u) (fun i _ => n - k - (intOf i).toNat)
          case atStart => exact ⟨0, false, _, Nat.zero_le _, rfl, o1, o3, MulP.lt _ _ _ _, by simp [Nat.mod_one], hb1⟩
          case round =>
            obtain ⟨j, q, T, hj, rfl, i1, i2, hT, hS, hbi⟩ := hrel
            by_cases g2 : j < n - k
            · obtain ⟨ab, ao, rfl, hlt1, hc1⟩ := h.at_ (show j < n by omega)
              have hcx := (hbi.cell (p := ⟨ab, ao + j, none⟩) hlt1).trans hc1
              clear hc1
              obtain ⟨bx, hbx⟩ : ∃ b, b = x.testBit j := ⟨_, rfl⟩
              have hfin := MulI.next (show k + j < n by omega) i1 i2 (Nat.ne_of_lt hlg) (Nat.le_refl _) (Nat.le_of_lt hlg) hbi hT hS hbx
              obtain ⟨tb, htb⟩ : ∃ b, b = T.testBit (k + j) := ⟨_, rfl⟩
              have c2 : wr.cell? ⟨w.heap.size, k + j, none⟩ = some (.bool tb) := by rw [htb]; exact (i2.cell _).trans (ba_get _ _ _ (by omega))
              rw [← hbx] at hcx
              rw [← htb] at hfin
              have f2 := i2.free (k + j)
              have k1 : ∀ v, (wr.setCell ⟨wo.heap.size, 0, none⟩ v).cell? ⟨w.heap.size, k + j, none⟩ = some (.bool tb) := fun v => (World.cell?_setCell_other wr _ _ v (fun e => by injection e with e _; omega)).trans c2
              have k4 : ∀ v, (wr.setCell ⟨wo.heap.size, 0, none⟩ v).frozen? ⟨w.heap.size, k + j, none⟩ = false := fun v => (i2.far (p := ⟨wo.heap.size, 0, none⟩) (Nat.ne_of_lt hlg) v).free _
              have I1 := Lib.hid i1
              have hfin := Lib.hid hfin
              have e1 : decide ((j : Int) < (n : Int) - k) = true := by simp; omega
              have l0 : (0 : Int) ≤ (k : Int) + j := by omega
              have l1 : (k : Int) + j < n := by omega
              have l2 : (0 : Int) ≤ j := by omega
              have l3 : (j : Int) < n := by omega
              have l4 := i2.lt
              clear i1 i2 hS hbx htb h o2 o3 o1 hb hb1 hcell
              go_wp2
              have l5 : IntKind.i64.wrap ((k : Int) + j) = (k : Int) + j := IntWalk.i64_in _ (by omega)
              have l6 : ((k : Int) + j).toNat = k + j := by omega
              go_region_with ((go_at_call 71; refine (adder1_any _ _ _ q _ I1.out.drew).mono ?_; rintro e w1 ⟨rfl, rfl⟩))
              all_goals
                clear l5
                go_wp2
                go_roundw
                case rel => exact hfin.out _ _ (by cases bx <;> cases tb <;> cases q <;> rfl)
                case measure => simp [intOf]; omega
            · obtain rfl : j = n - k := by omega
              have hT2 : T = MulP n x y (k + 1) := MulP.next hy.out (by omega) (by rw [show k + (n - k) = n by omega] at hS; exact hS) hT
              rw [hT2] at i2
              have e1 : decide (((n - k : Nat) : Int) < (n : Int) - k) = false := by simp; omega
              clear i1 hS hT hT2
              go_wp2
              go_roundw
              case rel => exact ⟨k + 1, by omega, by go_num, i2, hbi⟩
              case measure => simp [intOf]; omega
      · have hkk : k = min n m := by omega
        have dd : (k = m ∧ m < n) ∨ (k = n ∧ ¬ m < n) := by omega
        rw [hkk] at o2
        clear hkk
        rcases dd with ⟨rfl, _⟩ | ⟨rfl, _⟩
        all_goals first
          | omega
          | (go_wp2; go_ret; exact ⟨_, _, rfl, Nw.of_own o2 (MulP.lt _ _ _ _) (Nat.le_refl _) (by unfold maxLen; omega), hb⟩)
end Go.Proofs.Ytaedfoblniadfaa
