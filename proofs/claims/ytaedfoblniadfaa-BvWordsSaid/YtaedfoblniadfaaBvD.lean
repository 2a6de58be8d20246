/-
  Contracts of the program's sums: sum, Add, Sub, Neg. Widths up to some thousands.
-/
import Derived.Test.YtaedfoblniadfaaBvA
import Derived.Deep.RegionHeld3
import Derived.Deep.DrawnRows
namespace Go.Proofs.Ytaedfoblniadfaa
open Go Go.RowKit
attribute [local go_sem ↓] Go.wp_at_zero Go.wp_at_succ

/-- The lowest k bits of the second operand as the adder takes them. -/
def yv (y : Nat) (minus : Bool) (k : Nat) : Nat := if minus then 2 ^ k - 1 - y % 2 ^ k else y % 2 ^ k
theorem yv_step (y : Nat) (minus : Bool) (k : Nat) : yv y minus (k + 1) = yv y minus k + 2 ^ k * (y.testBit k != minus).toNat := by
  unfold yv
  have h := mod_step y k
  have hl := mod_lt' y k
  have hp := pow_s k
  cases minus
  · simp [h]
  · rw [if_pos rfl, if_pos rfl]
    rcases hb : y.testBit k with _ | _ <;> rw [hb] at h
    · show _ = _ + 2 ^ k * 1
      simp only [Bool.toNat_false, Nat.mul_zero, Nat.add_zero] at h
      omega
    · show _ = _ + 2 ^ k * 0
      simp only [Bool.toNat_true, Nat.mul_one] at h
      omega
def sumv (n x y : Nat) (minus : Bool) : Nat := if minus then (x + (2 ^ n - y % 2 ^ n)) % 2 ^ n else (x + y) % 2 ^ n
theorem sumv_of {n x y S q : Nat} {minus : Bool} (hS : S + 2 ^ n * q = x % 2 ^ n + yv y minus n + minus.toNat) (hx : x < 2 ^ n) (hl : S < 2 ^ n) : S = sumv n x y minus := by
  rw [Nat.mod_eq_of_lt hx] at hS
  have h1 := sum_mod hS hl
  have := mod_lt' y n
  unfold sumv
  cases minus
  · simpa [yv] using h1
  · rw [if_pos rfl, h1]
    congr 1
    simp only [yv, if_true, Bool.toNat_true]
    omega
def SumQ (n x y : Nat) (minus : Bool) (w : World) (i : Value) (wr : World) : Prop :=
  ∃ (k : Nat) (q : Bool) (S : Nat), k ≤ n ∧ i = .int .i64 k ∧ Own wr w.heap.size 4 #[.bool q] ∧ Own wr (w.heap.size + 1) 4 (ba n S) ∧ S < 2 ^ k ∧ S + 2 ^ k * q.toNat = x % 2 ^ k + yv y minus k + minus.toNat ∧ Below w.heap.size w wr
theorem below_drew {B : Nat} {a w : World} (h : Below B a w) : Below B a w.drew := ⟨h.os, h.tape, h.output, h.size, h.block⟩
theorem SumQ.next {n x y k S : Nat} {minus q bx t : Bool} {w wr : World} (hk : k < n) (O1 : Own wr w.heap.size 4 #[.bool q]) (O2 : Own wr (w.heap.size + 1) 4 (ba n S)) (hb : Below w.heap.size w wr) (hSk : S < 2 ^ k)
    (hS : S + 2 ^ k * q.toNat = x % 2 ^ k + yv y minus k + minus.toNat) (hx : bx = x.testBit k) (ht : t = y.testBit k) (s q' : Bool) (he : s.toNat + 2 * q'.toNat = bx.toNat + (t != minus).toNat + q.toNat) :
    SumQ n x y minus w (.int .i64 ((k : Int) + 1)) ((wr.setCell ⟨w.heap.size, 0, none⟩ (.bool q')).setCell ⟨w.heap.size + 1, k, none⟩ (.bool s)).drew := by
  have o2 := (O2.far (p := ⟨w.heap.size, 0, none⟩) (by simp) (.bool q')).put k (.bool s)
  rw [ba_set s hk, setb_new hSk] at o2
  refine ⟨k + 1, q', _, by omega, by go_num, (O1.put 0 (.bool q')).far (p := ⟨w.heap.size + 1, k, none⟩) (by simp) (.bool s), o2, add_bit_lt s hSk, ?_, below_drew (below_set (below_set hb (Nat.le_refl _) _) (Nat.le_succ _) _)⟩
  rw [mod_step, yv_step, ← hx, ← ht, pow_s]
  exact add_step hS he
/-- .. in a block made for it, and no longer. -/
def RetO (w : World) (n x : Nat) (e : Ending) (w' : World) : Prop := ∃ g, e = .returned (.slice (some ⟨g, 0, none⟩) n n) ∧ Own w' g 4 (ba n x) ∧ w.heap.size ≤ g ∧ x < 2 ^ n ∧ Below w.heap.size w w'
theorem RetO.retN {w w' : World} {n x : Nat} {e : Ending} (hn : n ≤ 1000000) (h : RetO w n x e w') : RetN w n x e w' := by
  obtain ⟨g, he, o, hg, hx, hb⟩ := h
  exact ⟨_, _, he, Nw.of_own o hx hg (by unfold maxLen; omega), hb⟩
set_option maxHeartbeats 1000000 in
theorem sum_any (A B : Option Addr) (n c x m d y : Nat) (minus : Bool) (w : World) (h : Rd w A n x) (h' : Rd w B m y) (hn : n ≤ 10000) (hm : m ≤ 10000) :
    Calls Try.prog 53 #[.slice A n c, .slice B m d, .bool minus] w (RetO w n (sumv n x y minus)) := by
  have hmk := fun W => run_makeB n (by omega) W
  go_enter Try.func53, Try.ntmps53
  go_wp2_with (go_at_call 54; refine (adder_any _ _).mono ?_; rintro e w1 ⟨rfl, rfl⟩)
  go_loopw [17] (fun i wr => SumQ n x y minus w i wr) (fun i _ => n - (intOf i).toNat)
  case atStart =>
    refine ⟨0, minus, 0, Nat.zero_le _, rfl, (Own.new w _ _).alloc _, ?_, by decide, by simp [Nat.mod_one, yv], below_new (below_new (Below.refl _ _) _) _⟩
    have := Own.new (w.alloc (.cells #[.bool minus] 4)) 4 (ba n 0)
    simpa using this
  case round =>
    obtain ⟨k, q, S, hk, rfl, o1, o2, hSk, hS, hb⟩ := hrel
    have hr := h.step hb
    have hr' := h'.step hb
    by_cases g1 : k < n
    · obtain ⟨ab, ao, rfl, hlt0, hc0⟩ := h.at_ g1
      have hcell := (hb.cell (p := ⟨ab, ao + k, none⟩) hlt0).trans hc0
      clear hc0
      have d1 : decide ((k : Int) < n) = true := by simpa using g1
      obtain ⟨bx, hbx⟩ : ∃ b, b = x.testBit k := ⟨_, rfl⟩
      obtain ⟨t, ht⟩ : ∃ b, b = y.testBit k := ⟨_, rfl⟩
      have hat : ∀ W, Rd W B m y → Calls Try.prog 70 #[.slice B m d, .int .i64 k, .bool false] W (fun e w' => e = .returned (.bool t) ∧ W = w') := fun W hW => by
        rw [ht]
        have := at_any B m d y k false W hW (by omega) (by omega)
        rwa [show (if k < m then y.testBit k else false) = y.testBit k by split; rfl; exact (high_bit h'.1 (by omega)).symm] at this
      have c2 : wr.cell? ⟨w.heap.size + 1, k, none⟩ = some (.bool (S.testBit k)) := (o2.cell k).trans (ba_get _ _ _ g1)
      have f2 := o2.free k
      rw [← hbx] at hcell
      have O1 := Lib.hid o1
      have hfin := Lib.hid (SumQ.next g1 o1 o2 hb hSk hS hbx ht)
      have hat := Lib.hid hat
      have l0 : (0 : Int) ≤ k := by omega
      have l1 : (k : Int) < n := by omega
      have k1 : ∀ v, (wr.setCell ⟨w.heap.size, 0, none⟩ v).cell? ⟨ab, ao + k, none⟩ = some (.bool bx) := fun v => (World.cell?_setCell_other wr _ _ v (fun e => by injection e with e _; omega)).trans hcell
      have k2 : ∀ v v', ((wr.setCell ⟨w.heap.size, 0, none⟩ v).setCell ⟨w.heap.size + 1, k, none⟩ v').cell? ⟨ab, ao + k, none⟩ = some (.bool bx) := fun v v' => (World.cell?_setCell_other _ _ _ v' (fun e => by injection e with e _; omega)).trans (k1 v)
      have k3 : ∀ v, (wr.setCell ⟨w.heap.size, 0, none⟩ v).cell? ⟨w.heap.size + 1, k, none⟩ = some (.bool (S.testBit k)) := fun v => (World.cell?_setCell_other wr _ _ v (fun e => by injection e with e _; omega)).trans c2
      have k4 : ∀ v, (wr.setCell ⟨w.heap.size, 0, none⟩ v).frozen? ⟨w.heap.size + 1, k, none⟩ = false := fun v => (o2.far (p := ⟨w.heap.size, 0, none⟩) (by simp) v).free k
      have l2 := o2.lt
      clear h h' o1 o2 hS hbx ht
      go_wp2
      go_region_held3 (fun u => u.cell? ⟨ab, ao + k, none⟩ = some (.bool bx)) (go_keep) (first | (go_at_call 70; refine (hat.out _ hr'.drew).mono ?_; rintro e w1 ⟨rfl, rfl⟩) | (go_at_call 71; refine (adder1_any _ _ _ q _ O1.out.drew).mono ?_; rintro e w1 ⟨rfl, rfl⟩))
      go_wp2
      go_roundw
      case rel => exact hfin.out _ _ (by cases bx <;> cases t <;> cases minus <;> cases q <;> rfl)
      case measure => simp [intOf]; omega
    · obtain rfl : k = n := by omega
      go_wp2
      go_ret
      exact ⟨_, rfl, by rw [← sumv_of hS h.1 hSk]; exact o2, Nat.le_succ _, by rw [← sumv_of hS h.1 hSk]; exact hSk, hb⟩
theorem add_any (A B : Option Addr) (n c x m d y : Nat) (w : World) (h : Rd w A n x) (h' : Rd w B m y) (hn : n ≤ 10000) (hm : m ≤ 10000) :
    Calls Try.prog 16 #[.slice A n c, .slice B m d] w (RetN w n ((x + y) % 2 ^ n)) := by
  go_enter Try.func16, Try.ntmps16
  go_wp2_with (go_at_call 53; refine (sum_any _ _ _ _ _ _ _ _ _ _ h h' hn hm).mono ?_; rintro e w1 ⟨g, rfl, o, hg, hx, hb⟩)
  go_ret
  exact RetO.retN (by omega) ⟨g, rfl, o, hg, hx, hb⟩
def subv (n x y : Nat) : Nat := (x + (2 ^ n - y % 2 ^ n)) % 2 ^ n
theorem sub_anyO (A B : Option Addr) (n c x m d y : Nat) (w : World) (h : Rd w A n x) (h' : Rd w B m y) (hn : n ≤ 10000) (hm : m ≤ 10000) :
    Calls Try.prog 17 #[.slice A n c, .slice B m d] w (RetO w n (subv n x y)) := by
  go_enter Try.func17, Try.ntmps17
  go_wp2_with (go_at_call 53; refine (sum_any _ _ _ _ _ _ _ _ _ _ h h' hn hm).mono ?_; rintro e w1 ⟨g, rfl, o, hg, hx, hb⟩)
  go_ret
  exact ⟨g, rfl, o, hg, hx, hb⟩
theorem sub_any (A B : Option Addr) (n c x m d y : Nat) (w : World) (h : Rd w A n x) (h' : Rd w B m y) (hn : n ≤ 10000) (hm : m ≤ 10000) :
    Calls Try.prog 17 #[.slice A n c, .slice B m d] w (RetN w n (subv n x y)) := (sub_anyO A B n c x m d y w h h' hn hm).mono fun _ _ k => k.retN (by omega)
theorem neg_any (A : Option Addr) (n c x : Nat) (w : World) (h : Rd w A n x) (hn : n ≤ 10000) :
    Calls Try.prog 18 #[.slice A n c] w (RetN w n (subv n 0 x)) := by
  have hmk := fun W => run_makeB n (by omega) W
  go_enter Try.func18, Try.ntmps18
  go_wp2_with (go_at_call 17; refine (sub_any _ _ _ _ 0 _ _ _ _ (Rd.of_own (Own.new w _ (ba n 0)) (pow_p n)) (h.alloc _) hn hn).mono ?_; rintro e w1 ⟨A1, c1, rfl, hv, hb⟩)
  go_ret
  exact ⟨A1, c1, rfl, hv.mono (by simp), below_step (below_new (Below.refl _ _) _) hb⟩
end Go.Proofs.Ytaedfoblniadfaa
