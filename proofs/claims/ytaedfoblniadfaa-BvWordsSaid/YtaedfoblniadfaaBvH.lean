/-
  Contracts of the program's shifts, of the reference's Same and FromInt. Widths up to some thousands.
-/
import Derived.Test.YtaedfoblniadfaaBvC
import Derived.Test.YtaedfoblniadfaaBvG
import Derived.BigQuiet
import Derived.Deep.QuietTactic
namespace Go.Proofs.Ytaedfoblniadfaa
open Go Go.RowKit

def mkn : Nat → (Nat → Bool) → Nat
  | 0, _ => 0
  | k + 1, f => mkn k f + 2 ^ k * (f k).toNat
theorem mkn_lt (k : Nat) (f : Nat → Bool) : mkn k f < 2 ^ k := by
  induction k with
  | zero => show 0 < 1; decide
  | succ k ih => exact add_bit_lt _ ih
theorem mkn_bit {k : Nat} {f : Nat → Bool} {i : Nat} (hi : i < k) : (mkn k f).testBit i = f i := by
  induction k with
  | zero => omega
  | succ k ih =>
    show (mkn k f + 2 ^ k * (f k).toNat).testBit i = f i
    rw [add_bit _ (mkn_lt k f)]
    split
    · rename_i h; rw [h]
    · exact ih (by omega)
def shv (n x m : Nat) (fill : Bool) : Nat := mkn n fun i => if i + m < n then x.testBit (i + m) else fill
def ShR (n x m g : Nat) (fill : Bool) (w : World) (i : Value) (wr : World) : Prop :=
  ∃ k, k ≤ n ∧ i = .int .i64 k ∧ Own wr g 4 (ba n (mkn k fun i => if i + m < n then x.testBit (i + m) else fill)) ∧ Below w.heap.size w wr
theorem shiftRight_any (A : Option Addr) (n c x : Nat) (m : Int) (fill : Bool) (w : World) (h : Rd w A n x) (hn : n ≤ 10000) :
    Calls Try.prog 66 #[.slice A n c, .int .i64 m, .bool fill] w (RetN w n (shv n x (lim m n) fill)) := by
  have hmk := fun W => run_makeB n (by omega) W
  have hL : lim m n ≤ n := by unfold lim; omega
  have hlim := fun W => limit_any m n W
  unfold shv
  generalize lim m n = L at *
  go_enter Try.func66, Try.ntmps66
  go_wp2_with (go_at_call 65; refine (hlim _).mono ?_; rintro e w1 ⟨rfl, rfl⟩)
  go_loopw [18] (fun i wr => ShR n x L w.heap.size fill w i wr) (fun i _ => n - (intOf i).toNat)
  case atStart => exact ⟨0, Nat.zero_le _, rfl, Own.new w _ _, below_new (Below.refl _ _) _⟩
  case round =>
    obtain ⟨k, hk, rfl, o, hb⟩ := hrel
    by_cases g1 : k < n
    · have hr := h.step hb
      have d1 : decide ((k : Int) < n) = true := by simpa using g1
      have cA : Calls Try.prog 70 #[.slice A n c, .int .i64 ((k : Int) + L), .bool fill] wr (fun e w' => e = .returned (.bool (if k + L < n then x.testBit (k + L) else fill)) ∧ wr = w') := by
        rw [show (k : Int) + L = ((k + L : Nat) : Int) by omega]; exact at_any _ _ _ _ _ _ _ hr (by omega) (by omega)
      have o2 := o.put k (.bool (if k + L < n then x.testBit (k + L) else fill))
      rw [ba_set _ g1, setb_new (mkn_lt _ _)] at o2
      obtain ⟨bx, hbx⟩ : ∃ b, b = (if k + L < n then x.testBit (k + L) else fill) := ⟨_, rfl⟩
      have o2 := Lib.hid (show Own _ _ _ (ba n (mkn (k + 1) fun i => if i + L < n then x.testBit (i + L) else fill)) from o2)
      rw [← hbx] at o2 cA
      have c1 := (o.cell k).trans (ba_get _ _ _ g1)
      have f1 := o.free k
      have cA := Lib.hid cA
      clear hbx o
      go_wp2_with (go_at_call 70; refine cA.out.mono ?_; rintro e w1 ⟨rfl, rfl⟩)
      go_roundw
      case rel => exact ⟨k + 1, by omega, by go_num, o2.out, below_set hb (Nat.le_refl _) _⟩
      case measure => simp [intOf]; omega
    · obtain rfl : k = n := by omega
      go_wp2
      go_ret
      exact ⟨_, _, rfl, Nw.of_own o (mkn_lt _ _) (Nat.le_refl _) (by unfold maxLen; omega), hb⟩
theorem shr_any (A : Option Addr) (n c x : Nat) (m : Int) (w : World) (h : Rd w A n x) (hn : n ≤ 10000) :
    Calls Try.prog 36 #[.slice A n c, .int .i64 m] w (RetN w n (shv n x (lim m n) false)) := by
  go_enter Try.func36, Try.ntmps36
  go_wp2_with (go_at_call 66; refine (shiftRight_any _ _ _ _ _ _ _ h hn).mono ?_; rintro e w1 ⟨A1, c1, rfl, hv, hb⟩)
  go_ret
  exact ⟨_, _, rfl, hv, hb⟩
theorem sar_any (A : Option Addr) (n c x : Nat) (m : Int) (w : World) (h : Rd w A n x) (hn : n ≤ 10000) :
    Calls Try.prog 37 #[.slice A n c, .int .i64 m] w (RetN w n (shv n x (lim m n) (neg n x))) := by
  have hng := negative_any A n c x w h (by omega)
  generalize neg n x = b at *
  go_enter Try.func37, Try.ntmps37
  go_wp2_with (first | (go_at_call 61; refine hng.mono ?_; rintro e w1 ⟨rfl, rfl⟩) | (go_at_call 66; refine (shiftRight_any _ _ _ _ _ _ _ h hn).mono ?_; rintro e w1 ⟨A1, c1, rfl, hv, hb⟩))
  go_ret
  exact ⟨_, _, rfl, hv, hb⟩

theorem same_of {n x y : Nat} (hx : x < 2 ^ n) (hy : y < 2 ^ n) (h : ∀ i, i < n → x.testBit i = y.testBit i) : x = y := by
  apply Nat.eq_of_testBit_eq
  intro i
  rcases Nat.lt_or_ge i n with hi | hi
  · exact h i hi
  · rw [high_bit hx hi, high_bit hy hi]
theorem same_any (A B : Option Addr) (n c x m d y : Nat) (w : World) (h : Rd w A n x) (h' : Rd w B m y) (hn : n ≤ 10000) (hm : m ≤ 10000) :
    Calls Try.prog 20 #[.slice A n c, .slice B m d] w fun e w' => e = .returned (.bool (decide (n = m ∧ x = y))) ∧ ∃ k, w' = w.drewN k := by
  by_cases hnm : n = m
  · subst hnm
    go_enter Try.func20, Try.ntmps20
    go_wp2
    go_loopw [5] (fun i wr => ∃ k, k ≤ n ∧ i = .int .i64 k ∧ (∀ j, j < k → x.testBit j = y.testBit j) ∧ ∃ q, wr = w.drewN q) (fun i _ => n - (intOf i).toNat)
    case atStart => exact ⟨0, Nat.zero_le _, rfl, fun j hj => by omega, 0, rfl⟩
    case round =>
      obtain ⟨k, hk, rfl, he, q, rfl⟩ := hrel
      by_cases g1 : k < n
      · obtain ⟨ab, ao, rfl, hl1, hc1⟩ := h.at_ g1
        obtain ⟨bb, bo, rfl, hl2, hc2⟩ := h'.at_ g1
        have d1 : decide ((k : Int) < n) = true := by simpa using g1
        have l0 : (0 : Int) ≤ k := by omega
        have l1 : (k : Int) < n := by omega
        obtain ⟨bx, hbx⟩ : ∃ b, b = x.testBit k := ⟨_, rfl⟩
        obtain ⟨bz, hbz⟩ : ∃ b, b = y.testBit k := ⟨_, rfl⟩
        rw [← hbx] at hc1
        rw [← hbz] at hc2
        have H := Lib.hid (And.intro he (And.intro hbx hbz))
        clear he hbx hbz h h'
        cases bx <;> cases bz
        all_goals
          go_wp2
          go_quiet (fail)
          go_wp2
        · go_roundw
          case rel => exact ⟨k + 1, by omega, by go_num, fun j hj => by
            obtain ⟨h1, h2, h3⟩ := H.out
            rcases Nat.lt_or_ge j k with hjk | hjk
            · exact h1 j hjk
            · obtain rfl : j = k := by omega
              rw [← h2, ← h3], _, by first | rfl | exact World.drewN_drewN _ _ _⟩
          case measure => simp [intOf]; omega
        · go_ret
          exact ⟨ret_b (by
            obtain ⟨_, h2, h3⟩ := H.out
            have hne : ¬ x = y := by rintro rfl; rw [← h2] at h3; cases h3
            simp [hne]), _, by first | rfl | exact World.drewN_drewN _ _ _⟩
        · go_ret
          exact ⟨ret_b (by
            obtain ⟨_, h2, h3⟩ := H.out
            have hne : ¬ x = y := by rintro rfl; rw [← h2] at h3; cases h3
            simp [hne]), _, by first | rfl | exact World.drewN_drewN _ _ _⟩
        · go_roundw
          case rel => exact ⟨k + 1, by omega, by go_num, fun j hj => by
            obtain ⟨h1, h2, h3⟩ := H.out
            rcases Nat.lt_or_ge j k with hjk | hjk
            · exact h1 j hjk
            · obtain rfl : j = k := by omega
              rw [← h2, ← h3], _, by first | rfl | exact World.drewN_drewN _ _ _⟩
          case measure => simp [intOf]; omega
      · obtain rfl : k = n := by omega
        have hxy : x = y := same_of h.1 h'.1 he
        have hxy := Lib.hid hxy
        clear he
        go_wp2
        go_ret
        exact ⟨ret_b (by simp [hxy.out]), _, rfl⟩
  · have d : decide (n = m ∧ x = y) = false := by simp [hnm]
    rw [d]
    have hne : ((n : Int) == m) = false := by simp; omega
    have hnm := Lib.hid hnm
    clear d
    go_enter Try.func20, Try.ntmps20
    go_wp2
    go_ret
    exact ⟨rfl, 0, rfl⟩

theorem p2 (m : Nat) : (2 : Int) ^ m = ((2 ^ m : Nat) : Int) := by simp [Int.natCast_pow]
def fi (z : Int) (m : Nat) : Nat := (z % (2 : Int) ^ m).toNat
theorem fi_lt (z : Int) (m : Nat) : fi z m < 2 ^ m := by
  unfold fi
  have h := pow_p m
  rw [p2]
  have := Int.emod_lt_of_pos z (b := ((2 ^ m : Nat) : Int)) (by omega)
  omega
theorem fi_step (z : Int) (k : Nat) : fi z (k + 1) = fi z k + 2 ^ k * (z / (2 : Int) ^ k % 2 == 1).toNat := by
  have hp := pow_p k
  unfold fi
  rw [p2, p2, pow_s]
  generalize hP : 2 ^ k = P at *
  have h1 := Int.mul_ediv_add_emod z (P : Int)
  have h2 := Int.emod_lt_of_pos z (b := (P : Int)) (by omega)
  have h3 := Int.emod_nonneg z (b := (P : Int)) (by omega)
  have h4 := Int.mul_ediv_add_emod (z / (P : Int)) 2
  generalize z / (P : Int) = a at *
  generalize z % (P : Int) = r at *
  have h5 : a % 2 = 0 ∨ a % 2 = 1 := by omega
  generalize ha : a / 2 = c at *
  have e : z = (2 * (P : Int)) * c + (r + P * (a % 2)) := by
    rw [← h1, ← h4, Int.mul_add, ← Int.mul_assoc, Int.mul_comm (P : Int) 2]
    rcases h5 with h5 | h5 <;> rw [h5] <;> simp <;> omega
  have hc : (((2 * P : Nat) : Int)) = 2 * (P : Int) := by omega
  rw [hc]
  have e2 : z % (2 * (P : Int)) = r + P * (a % 2) := by
    rw [e, Int.mul_add_emod_self_left]
    rcases h5 with h5 | h5 <;> rw [h5] <;> exact Int.emod_eq_of_lt (by omega) (by omega)
  rw [e2]
  rcases h5 with h5 | h5 <;> rw [h5] <;> simp <;> omega
theorem and_one (z : Int) : bits BinOp.and IntKind.i64 z 1 = z % 2 := by
  show IntKind.i64.wrap ((BitVec.ofInt 64 z &&& BitVec.ofInt 64 1).toNat : Int) = _
  rw [BitVec.toNat_and, show (BitVec.ofInt 64 1).toNat = 1 from rfl, Nat.and_one_is_mod, BitVec.toNat_ofInt, IntKind.wrap_i64]
  omega
def FiR (z : Int) (m : Nat) (w : World) (p v i : Value) (wr : World) : Prop :=
  ∃ k zk, k ≤ m ∧ i = .int .i64 k ∧ p = .int .i64 zk ∧ zk = z / (2 : Int) ^ k ∧ ∃ A' c', v = .slice A' k c' ∧ Nw wr w.heap.size A' k c' (fi z k) ∧ Below w.heap.size w wr
theorem rFromInt_any (z : Int) (m : Nat) (w : World) (hm : m ≤ 128) :
    Calls Try.prog 34 #[.int .i64 z, .int .i64 m] w fun e w' => ∃ A' c', e = .returned (.tuple #[.slice A' m c', .int .i64 0]) ∧ Nw w' w.heap.size A' m c' (fi z m) ∧ Below w.heap.size w w' := by
  have d1 : decide ((m : Int) < 0) = false := by simp
  have d2 : decide ((128 : Int) < m) = false := by simp; omega
  go_enter Try.func34, Try.ntmps34
  go_wp2
  go_loopw [0, 6, 7] (fun p v i wr => FiR z m w p v i wr) (fun _ _ i _ => m - (intOf i).toNat)
  case atStart => exact ⟨0, z, Nat.zero_le _, rfl, rfl, by simp, none, 0, rfl, by rw [show fi z 0 = 0 by simp [fi, Int.emod_one]]; exact Nw.nil _ _, Below.refl _ _⟩
  case round =>
    obtain ⟨k, zk, hk, rfl, rfl, hzk, A', c', rfl, hv, hb⟩ := hrel
    by_cases g1 : k < m
    · have hst := fi_step z k
      rw [← hzk] at hst
      obtain ⟨zb, hzb⟩ : ∃ b, b = (zk % 2 == 1) := ⟨_, rfl⟩
      have hand : (bits BinOp.and IntKind.i64 zk 1 == 1) = zb := by rw [and_one, hzb]
      have hnx : zk / 2 = z / (2 : Int) ^ (k + 1) := by
        rw [hzk, Int.pow_succ, Int.ediv_ediv_of_nonneg (Int.pow_nonneg (by decide))]
      rw [← hzb] at hst
      have H := Lib.hid (And.intro hst hnx)
      have d3 : decide ((k : Int) < m) = true := by simpa using g1
      clear hst hnx hzk hzb
      go_wp2_with (at_builtin; refine wpList_push rfl (.tmp 19) (.tmp 23) rfl rfl hb rfl hv _ rfl _ rfl (by omega) ?_; intro A1 c1 w1 hv1 hb1)
      go_roundw
      case rel => exact ⟨k + 1, _, by omega, by go_num, rfl, H.out.2, A1, c1, rfl, by rw [H.out.1]; exact hv1, hb1⟩
      case measure => simp [intOf]; omega
    · obtain rfl : k = m := by omega
      clear hzk
      go_wp2
      go_ret2
      exact ⟨A', c', rfl, hv, hb⟩
theorem of_any (z : Int) (m : Nat) (w : World) (hm : m ≤ 128) :
    Calls Try.prog 48 #[.int .i64 z, .int .i64 m] w (RetN w m (fi z m)) := by
  go_enter Try.func48, Try.ntmps48
  go_wp2_with (go_at_call 34; refine (rFromInt_any _ _ _ hm).mono ?_; rintro e w1 ⟨A1, c1, rfl, hv, hb⟩)
  go_ret
  exact ⟨_, _, rfl, hv, hb⟩
end Go.Proofs.Ytaedfoblniadfaa
