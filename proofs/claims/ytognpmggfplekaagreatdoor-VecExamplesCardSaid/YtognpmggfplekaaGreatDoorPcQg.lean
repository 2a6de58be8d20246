/-
  Contracts of the reference's arithmetic: Add, Neg, Sub, Mul, Pow, Cmp, Size, SCmp. Widths up to a thousand.
  Contracts of the reference's comparisons and division: Cmp, less, Size, SCmp, divide, DivMod, SDivMod. Widths up to some thousands.
  Contracts of the reference's division: divide, DivMod, SDivMod. Widths up to some thousands.
  Contracts of the reference's SDivMod and shifts. Widths up to some thousands.
  The plain mathematics of the signed division. No conditions; nothing of the program.
  Contracts of FromInt, Uint and Int of the program. Widths up to some thousands.
  Contracts of Uint and Int of the reference. Widths up to some thousands.
-/
import Derived.Test.YtognpmggfplekaaGreatDoorPcQf

set_option maxRecDepth 100000
namespace Go.Proofs.YtognpmggfplekaaGreatDoor.B
open Go Go.RowKit


end Go.Proofs.YtognpmggfplekaaGreatDoor.B

namespace Go.Proofs.YtognpmggfplekaaGreatDoor.B
open Go Go.RowKit


end Go.Proofs.YtognpmggfplekaaGreatDoor.B

namespace Go.Proofs.YtognpmggfplekaaGreatDoor.B
open Go Go.RowKit

def RetQ (w : World) (n m q r : Nat) (e : Ending) (w' : World) : Prop := ∃ A c A' c', e = .returned (.tuple #[.slice A n c, .slice A' m c']) ∧ Nw w' w.heap.size A n c q ∧ Nw w' w.heap.size A' m c' r ∧ Below w.heap.size w w'

end Go.Proofs.YtognpmggfplekaaGreatDoor.B

namespace Go.Proofs.YtognpmggfplekaaGreatDoor.B
open Go Go.RowKit


end Go.Proofs.YtognpmggfplekaaGreatDoor.B

namespace Go.Proofs.YtognpmggfplekaaGreatDoor.B


end Go.Proofs.YtognpmggfplekaaGreatDoor.B

namespace Go.Proofs.YtognpmggfplekaaGreatDoor.B
open Go Go.RowKit

theorem shr_min (z : Int) (hz : -9223372036854775808 ≤ z ∧ z ≤ 9223372036854775807) (k : Nat) (hk : 64 ≤ k) : z / (2 : Int) ^ k = z / (2 : Int) ^ 64 := by
  have e : (2 : Int) ^ k = (2 : Int) ^ 64 * (2 : Int) ^ (k - 64) := by rw [← Int.pow_add]; congr 1; omega
  rw [e, ← Int.ediv_ediv_of_nonneg (Int.pow_nonneg (by decide))]
  have hp : (1 : Int) ≤ (2 : Int) ^ (k - 64) := by rw [p2]; have := pow_p (k - 64); omega
  rcases (show z / (2 : Int) ^ 64 = 0 ∨ z / (2 : Int) ^ 64 = -1 by omega) with h | h <;> rw [h]
  · simp
  · exact Int.ediv_eq_neg_one_of_neg_of_le (by decide) (by omega)
def FiB (z : Int) (m g : Nat) (w : World) (i : Value) (u : World) : Prop := ∃ k, k ≤ m ∧ i = .int .i64 k ∧ Own u g 4 (ba m (fi z k)) ∧ Below w.heap.size w u
theorem fromInt_any (z : Int) (m : Nat) (w : World) (hz : -9223372036854775808 ≤ z ∧ z ≤ 9223372036854775807) (hm : m ≤ 128) :
    Calls Tryz.prog 129 #[.int .i64 z, .int .i64 m] w fun e w' => ∃ A' c', e = .returned (.tuple #[.slice A' m c', .int .i64 0]) ∧ Nw w' w.heap.size A' m c' (fi z m) ∧ Below w.heap.size w w' := by
  have d1 : decide ((m : Int) < 0) = false := by simp
  have d2 : decide ((128 : Int) < m) = false := by simp; omega
  have hmk := fun W => run_makeB m (by omega) W
  go_enter Tryz.func129, Tryz.ntmps129
  go_wp2
  go_loopw [17] (fun i u => FiB z m w.heap.size w i u) (fun i _ => m - (intOf i).toNat)
  case atStart => exact ⟨0, Nat.zero_le _, rfl, by rw [show fi z 0 = 0 by simp [fi, Int.emod_one]]; exact Own.new w _ _, below_new (Below.refl _ _) _⟩
  case round =>
    obtain ⟨k, hk, rfl, o, hb⟩ := hrel
    by_cases g1 : k < m
    · have hst := fi_step z k
      have d3 : decide ((k : Int) < m) = true := by simpa using g1
      have l0 : (0 : Int) ≤ k := by omega
      have cc := (o.cell k).trans (ba_get _ _ _ g1)
      have ff := o.free k
      have o2 := o.put k (.bool (z / (2 : Int) ^ k % 2 == 1))
      rw [ba_set _ g1, setb_new (fi_lt _ _), ← hst] at o2
      have hbit : (bits BinOp.and IntKind.i64 (z / (2 : Int) ^ min k 64) 1 == 1) = (z / (2 : Int) ^ k % 2 == 1) := by
        rw [and_one]
        rcases Nat.le_total k 64 with h | h
        · rw [Nat.min_eq_left h]
        · rw [Nat.min_eq_right h, shr_min z hz k h]
      replace hbit := Lib.hid hbit
      replace o2 := Lib.hid o2
      clear hst o
      go_wp2
      go_roundw
      case rel => exact ⟨k + 1, by omega, by go_num, by rw [hbit.out]; exact o2.out, below_set hb (Nat.le_refl _) _⟩
      case measure => simp [intOf]; omega
    · obtain rfl : k = m := by omega
      go_wp2
      go_ret2
      exact ⟨_, _, rfl, Nw.of_own o (fi_lt _ _) (Nat.le_refl _) (by unfold maxLen; omega), hb⟩

def uOk (x : Nat) : Bool := decide (x < 2 ^ 64)
def uVal (x : Nat) : Int := if x < 2 ^ 64 then x else 0
theorem or_bit (S k : Nat) (hS : S < 2 ^ k) (hk : k < 64) : bits BinOp.or IntKind.u64 (S : Int) ((2 ^ k : Nat) : Int) = ((S + 2 ^ k : Nat) : Int) := by
  have hp : 2 ^ k < 2 ^ 64 := Nat.pow_lt_pow_right (by decide) hk
  show IntKind.u64.wrap ((BitVec.ofInt 64 (S : Int) ||| BitVec.ofInt 64 ((2 ^ k : Nat) : Int)).toNat : Int) = _
  rw [BitVec.toNat_or, BitVec.ofInt_natCast, BitVec.ofInt_natCast, BitVec.toNat_ofNat, BitVec.toNat_ofNat, Nat.mod_eq_of_lt (by omega), Nat.mod_eq_of_lt hp]
  have e : S ||| 2 ^ k = S + 2 ^ k := by
    rw [Nat.add_comm, ← Nat.mul_one (2 ^ k), Nat.or_comm]
    exact (Nat.two_pow_add_eq_or_of_lt hS 1).symm
  rw [e]
  have : S + 2 ^ k < 2 ^ 64 := by
    have := Nat.pow_le_pow_right (show 0 < 2 by decide) (show k + 1 ≤ 64 by omega)
    have := pow_s k
    omega
  rw [IntKind.wrap_u64]; omega
def UiR (n x : Nat) (v i : Value) : Prop := ∃ k, k ≤ n ∧ i = .int .i64 k ∧ v = .int .u64 ((x % 2 ^ k : Nat) : Int) ∧ x % 2 ^ k < 2 ^ 64
theorem uint_any (A : Option Addr) (n c x : Nat) (w : World) (h : Rd w A n x) (hn : n ≤ 10000) :
    Calls Tryz.prog 206 #[.slice A n c] w fun e w' => e = .returned (.tuple #[.int .u64 (uVal x), .bool (uOk x)]) ∧ w = w' := by
  go_enter Tryz.func206, Tryz.ntmps206
  go_wp2
  go_loop [4, 8] (fun v i => UiR n x v i) (fun _ i => n - (intOf i).toNat)
  case atStart => exact ⟨0, Nat.zero_le _, rfl, by simp [Nat.mod_one], by simp [Nat.mod_one]⟩
  case round =>
    obtain ⟨k, hk, rfl, rfl, hS⟩ := hrel
    by_cases g1 : k < n
    · obtain ⟨ab, ao, rfl, hlt, hcell⟩ := h.at_ g1
      have d3 : decide ((k : Int) < n) = true := by simpa using g1
      have l0 : (0 : Int) ≤ k := by omega
      have l1 : (k : Int) < n := by omega
      have hst := mod_step x k
      have hpl := mod_lt' x k
      rcases hb : x.testBit k with _ | _ <;> rw [hb] at hcell hst
      · simp only [Bool.toNat_false, Nat.mul_zero, Nat.add_zero] at hst
        rw [← hst] at hS
        have hst := Lib.hid hst
        have hS := Lib.hid hS
        generalize x % 2 ^ k = S at *
        clear hb hpl
        go_wp2
        go_round
        case rel => exact ⟨k + 1, by omega, by go_num, by rw [hst.out], hS.out⟩
        case measure => simp [intOf]; omega
      · rw [Bool.toNat_true, Nat.mul_one] at hst
        rcases Nat.lt_or_ge k 64 with h64 | h64
        · have hor : bits BinOp.or IntKind.u64 ((x : Int) % 2 ^ k) (IntKind.u64.wrap (2 ^ k)) = ((x % 2 ^ (k + 1) : Nat) : Int) := by
            have e := or_bit _ k hpl h64
            rw [← hst, Int.natCast_emod, ← p2] at e
            rw [← e]
            congr 1
            have := Nat.pow_lt_pow_right (show 1 < 2 by decide) h64
            rw [p2, IntKind.wrap_u64]; omega
          have hlt64 : x % 2 ^ (k + 1) < 2 ^ 64 := Nat.lt_of_lt_of_le (mod_lt' _ _) (Nat.pow_le_pow_right (by decide) (by omega))
          replace hor := Lib.hid (And.intro hor hlt64)
          have d4 : decide ((64 : Int) ≤ k) = false := by simp; omega
          have l3 : (k : Int) < 64 := by omega
          have l4 : (k : Int) ≤ 64 := by omega
          clear hst hlt64 hpl hb hS
          go_wp2
          go_round
          case rel => exact ⟨k + 1, by omega, by go_num, by rw [hor.out.1], hor.out.2⟩
          case measure => simp [intOf]; omega
        · have hge : ¬ x < 2 ^ 64 := fun hlt => by
            have := high_bit hlt h64
            rw [hb] at this; cases this
          have e1 : uVal x = 0 := by unfold uVal; rw [if_neg hge]
          have e2 : uOk x = false := by unfold uOk; simp; omega
          have e := Lib.hid (And.intro e1 e2)
          have d4 : decide ((64 : Int) ≤ k) = true := by simp; omega
          clear hst hpl hb hS hge e1 e2
          go_wp2
          go_ret2
          exact ⟨by rw [e.out.1, e.out.2]; rfl, rfl⟩
    · obtain rfl : k = n := by omega
      rw [Nat.mod_eq_of_lt h.1] at hS ⊢
      have e1 : uVal x = x := by unfold uVal; rw [if_pos hS]
      have e2 : uOk x = true := by unfold uOk; simp; omega
      have e := Lib.hid (And.intro e1 e2)
      clear e1 e2 hS
      go_wp2
      go_ret2
      exact ⟨by rw [e.out.1, e.out.2]; rfl, rfl⟩
def iFit (n x : Nat) : Prop := -9223372036854775808 ≤ sval n x ∧ sval n x ≤ 9223372036854775807
instance (n x : Nat) : Decidable (iFit n x) := by unfold iFit; infer_instance
def iOk (n x : Nat) : Bool := decide (iFit n x)
def iVal (n x : Nat) : Int := if iFit n x then sval n x else 0
theorem xor_nat (S k : Nat) (hS : S < 2 ^ k) : S ^^^ 2 ^ k = S + 2 ^ k := by
  apply Nat.eq_of_testBit_eq
  intro i
  have h1 := add_bit (x := S) (k := k) true hS i
  rw [Bool.toNat_true, Nat.mul_one] at h1
  rw [h1, Nat.testBit_xor, Nat.testBit_two_pow]
  by_cases h : i = k
  · subst h; rw [high_bit hS (Nat.le_refl _)]; simp
  · have : ¬ k = i := fun e => h e.symm
    simp [h, this]
theorem xor_pos (S k : Nat) (hS : S < 2 ^ k) (hk : k < 63) : bits BinOp.xor IntKind.i64 (S : Int) ((2 ^ k : Nat) : Int) = ((S + 2 ^ k : Nat) : Int) := by
  have hb := Nat.pow_le_pow_right (show 0 < 2 by decide) (show k + 1 ≤ 63 by omega)
  have hs := pow_s k
  show IntKind.i64.wrap ((BitVec.ofInt 64 (S : Int) ^^^ BitVec.ofInt 64 ((2 ^ k : Nat) : Int)).toNat : Int) = _
  rw [BitVec.toNat_xor, BitVec.ofInt_natCast, BitVec.ofInt_natCast, BitVec.toNat_ofNat, BitVec.toNat_ofNat, Nat.mod_eq_of_lt (by omega), Nat.mod_eq_of_lt (by omega), xor_nat S k hS, IntKind.wrap_i64]
  omega
theorem xor_neg (c k : Nat) (hc : c < 2 ^ k) (hk : k < 63) : bits BinOp.xor IntKind.i64 (-(c : Int) - 1) ((2 ^ k : Nat) : Int) = -(c : Int) - 1 - ((2 ^ k : Nat) : Int) := by
  have hb := Nat.pow_le_pow_right (show 0 < 2 by decide) (show k + 1 ≤ 63 by omega)
  have hs := pow_s k
  show IntKind.i64.wrap ((BitVec.ofInt 64 (-(c : Int) - 1) ^^^ BitVec.ofInt 64 ((2 ^ k : Nat) : Int)).toNat : Int) = _
  have e1 : BitVec.ofInt 64 (-(c : Int) - 1) = ~~~ (BitVec.ofNat 64 c) := by
    apply BitVec.eq_of_toNat_eq
    rw [BitVec.toNat_ofInt, BitVec.toNat_not, BitVec.toNat_ofNat, Nat.mod_eq_of_lt (by omega)]
    omega
  have e3 : ~~~ (BitVec.ofNat 64 c) ^^^ BitVec.ofInt 64 ((2 ^ k : Nat) : Int) = ~~~ (BitVec.ofNat 64 c ^^^ BitVec.ofNat 64 (2 ^ k)) := by
    rw [BitVec.ofInt_natCast]
    apply BitVec.eq_of_getLsbD_eq
    intro i hi
    simp only [BitVec.getLsbD_xor, BitVec.getLsbD_not]
    have : decide (i < 64) = true := by simpa using hi
    rw [this]
    cases (BitVec.ofNat 64 c).getLsbD i <;> cases (BitVec.ofNat 64 (2 ^ k)).getLsbD i <;> rfl
  rw [e1, e3, BitVec.toNat_not, BitVec.toNat_xor, BitVec.toNat_ofNat, BitVec.toNat_ofNat, Nat.mod_eq_of_lt (show c < 2 ^ 64 by omega), Nat.mod_eq_of_lt (show 2 ^ k < 2 ^ 64 by omega), xor_nat c k hc, IntKind.wrap_i64]
  omega
theorem xor_f {x k : Nat} (hb : x.testBit k = true) (hk : k < 63) : bits BinOp.xor IntKind.i64 ((x % 2 ^ k : Nat) : Int) (wrap64 (2 ^ k)) = ((x % 2 ^ (k + 1) : Nat) : Int) := by
  have hp := Nat.pow_le_pow_right (show 0 < 2 by decide) (show k + 1 ≤ 63 by omega)
  have hs := pow_s k
  have e := xor_pos (x % 2 ^ k) k (mod_lt' _ _) hk
  rw [show wrap64 (2 ^ k) = ((2 ^ k : Nat) : Int) by rw [p2]; unfold wrap64; omega, e, mod_step, hb]
  simp
theorem xor_t {x k : Nat} (hb : x.testBit k = false) (hk : k < 63) : bits BinOp.xor IntKind.i64 (((x % 2 ^ k : Nat) : Int) - (2 ^ k : Nat)) (wrap64 (2 ^ k)) = ((x % 2 ^ (k + 1) : Nat) : Int) - (2 ^ (k + 1) : Nat) := by
  have hp := Nat.pow_le_pow_right (show 0 < 2 by decide) (show k + 1 ≤ 63 by omega)
  have hs := pow_s k
  have hl := mod_lt' x k
  have e := xor_neg (2 ^ k - 1 - x % 2 ^ k) k (by omega) hk
  have e2 : (-((2 ^ k - 1 - x % 2 ^ k : Nat) : Int) - 1) = ((x % 2 ^ k : Nat) : Int) - (2 ^ k : Nat) := by omega
  rw [e2] at e
  rw [show wrap64 (2 ^ k) = ((2 ^ k : Nat) : Int) by rw [p2]; unfold wrap64; omega, e, mod_step, hb]
  simp only [Bool.toNat_false, Nat.mul_zero, Nat.add_zero]
  omega
theorem int_any (A : Option Addr) (n c x : Nat) (w : World) (h : Rd w A n x) (hn : n ≤ 10000) :
    Calls Tryz.prog 111 #[.slice A n c] w fun e w' => e = .returned (.tuple #[.int .i64 (iVal n x), .bool (iOk n x)]) ∧ w = w' := by
  have hng := negative_any A n c x w h (by omega)
  rcases hsg : neg n x with _ | _ <;> rw [hsg] at hng
  · have hsv := sval_pos hsg
    have hsv := Lib.hid hsv
    clear hsg
    go_enter Tryz.func111, Tryz.ntmps111
    go_wp2_with (go_at_call 191; refine hng.mono ?_; rintro e w1 ⟨rfl, rfl⟩)
    go_loop [5, 12] (fun v i => ∃ (k : Nat) (z : Int), k ≤ n ∧ i = .int .i64 k ∧ v = .int .i64 z ∧ z = (x % 2 ^ k : Nat) ∧ z ≤ 9223372036854775807) (fun _ i => n - (intOf i).toNat)
    case atStart => exact ⟨0, 0, Nat.zero_le _, rfl, rfl, by simp [Nat.mod_one], by decide⟩
    case round =>
      obtain ⟨k, z, hk, rfl, rfl, hz, hzb⟩ := hrel
      by_cases g1 : k < n
      · obtain ⟨ab, ao, rfl, hlt, hcell⟩ := h.at_ g1
        have d3 : decide ((k : Int) < n) = true := by simpa using g1
        have l0 : (0 : Int) ≤ k := by omega
        have l1 : (k : Int) < n := by omega
        have hst := mod_step x k
        rcases hb : x.testBit k with _ | _ <;> rw [hb] at hcell hst
        · simp only [Bool.toNat_false, Nat.mul_zero, Nat.add_zero] at hst
          rw [← hst] at hz
          replace hz := Lib.hid hz
          clear hb hst
          go_wp2
          go_round
          case rel => exact ⟨k + 1, z, by omega, by go_num, rfl, hz.out, hzb⟩
          case measure => simp [intOf]; omega
        · rcases Nat.lt_or_ge k 63 with h64 | h64
          · have hx := xor_f hb h64
            rw [← hz] at hx
            have hbd : ((x % 2 ^ (k + 1) : Nat) : Int) ≤ 9223372036854775807 := by
              have := mod_lt' x (k + 1)
              have := Nat.pow_le_pow_right (show 0 < 2 by decide) (show k + 1 ≤ 63 by omega)
              omega
            replace hx := Lib.hid (And.intro hx hbd)
            have d4 : decide ((63 : Int) ≤ k) = false := by simp; omega
            have l3 : (k : Int) < 63 := by omega
            have l4 : (k : Int) ≤ 64 := by omega
            clear hb hst hz hbd
            go_wp2
            go_round
            case rel => exact ⟨k + 1, _, by omega, by go_num, rfl, hx.out.1, by rw [hx.out.1]; exact hx.out.2⟩
            case measure => simp [intOf]; omega
          · have hno : ¬ iFit n x := by
              rintro ⟨_, hf⟩
              rw [hsv.out] at hf
              have := high_bit (x := x) (k := 63) (i := k) (by omega) h64
              rw [hb] at this; cases this
            have e1 : iVal n x = 0 := if_neg hno
            have e2 : iOk n x = false := decide_eq_false hno
            have e := Lib.hid (And.intro e1 e2)
            have d4 : decide ((63 : Int) ≤ k) = true := by simp; omega
            clear hb hst hz hno e1 e2
            go_wp2
            go_ret2
            exact ⟨by rw [e.out.1, e.out.2]; rfl, rfl⟩
      · obtain rfl : k = n := by omega
        rw [Nat.mod_eq_of_lt h.1] at hz
        have hyes : iFit k x := ⟨by rw [hsv.out]; omega, by rw [hsv.out]; omega⟩
        have e1 : iVal k x = z := (if_pos hyes).trans (hsv.out.trans hz.symm)
        have e2 : iOk k x = true := decide_eq_true hyes
        have e := Lib.hid (And.intro e1 e2)
        clear hz hyes e1 e2
        go_wp2
        go_ret2
        exact ⟨by rw [e.out.1, e.out.2]; rfl, rfl⟩
  · have hsv := sval_neg hsg
    have hsv := Lib.hid hsv
    have hx2 := Lib.hid h.1
    replace hsg := Lib.hid hsg
    go_enter Tryz.func111, Tryz.ntmps111
    go_wp2_with (go_at_call 191; refine hng.mono ?_; rintro e w1 ⟨rfl, rfl⟩)
    go_loop [5, 12] (fun v i => ∃ (k : Nat) (z : Int), k ≤ n ∧ i = .int .i64 k ∧ v = .int .i64 z ∧ z = ((x % 2 ^ k : Nat) : Int) - (2 ^ k : Nat) ∧ -9223372036854775808 ≤ z) (fun _ i => n - (intOf i).toNat)
    case atStart => exact ⟨0, -1, Nat.zero_le _, rfl, rfl, by simp [Nat.mod_one], by decide⟩
    case round =>
      obtain ⟨k, z, hk, rfl, rfl, hz, hzb⟩ := hrel
      by_cases g1 : k < n
      · obtain ⟨ab, ao, rfl, hlt, hcell⟩ := h.at_ g1
        have d3 : decide ((k : Int) < n) = true := by simpa using g1
        have l0 : (0 : Int) ≤ k := by omega
        have l1 : (k : Int) < n := by omega
        have hst := mod_step x k
        rcases hb : x.testBit k with _ | _ <;> rw [hb] at hcell hst
        · rcases Nat.lt_or_ge k 63 with h64 | h64
          · have hx := xor_t hb h64
            rw [← hz] at hx
            have hbd : -9223372036854775808 ≤ ((x % 2 ^ (k + 1) : Nat) : Int) - (2 ^ (k + 1) : Nat) := by
              have := Nat.pow_le_pow_right (show 0 < 2 by decide) (show k + 1 ≤ 63 by omega)
              omega
            replace hx := Lib.hid (And.intro hx hbd)
            have d4 : decide ((63 : Int) ≤ k) = false := by simp; omega
            have l3 : (k : Int) < 63 := by omega
            have l4 : (k : Int) ≤ 64 := by omega
            clear hb hst hz hbd
            go_wp2
            go_round
            case rel => exact ⟨k + 1, _, by omega, by go_num, rfl, hx.out.1, by rw [hx.out.1]; exact hx.out.2⟩
            case measure => simp [intOf]; omega
          · have hno : ¬ iFit n x := by
              rintro ⟨hf, _⟩
              rw [hsv.out] at hf
              have h1 := setb_lt (s := true) hx2.out g1
              have h2 : setb x k true = x + 2 ^ k := by unfold setb; rw [hb]; simp
              have h3 := Nat.pow_le_pow_right (show 0 < 2 by decide) h64
              omega
            have e1 : iVal n x = 0 := if_neg hno
            have e2 : iOk n x = false := decide_eq_false hno
            have e := Lib.hid (And.intro e1 e2)
            have d4 : decide ((63 : Int) ≤ k) = true := by simp; omega
            clear hb hst hz hno e1 e2
            go_wp2
            go_ret2
            exact ⟨by rw [e.out.1, e.out.2]; rfl, rfl⟩
        · rw [Bool.toNat_true, Nat.mul_one] at hst
          have hz2 : z = ((x % 2 ^ (k + 1) : Nat) : Int) - (2 ^ (k + 1) : Nat) := by rw [hz, hst, pow_s]; omega
          replace hz2 := Lib.hid hz2
          clear hb hst hz
          go_wp2
          go_round
          case rel => exact ⟨k + 1, z, by omega, by go_num, rfl, hz2.out, hzb⟩
          case measure => simp [intOf]; omega
      · obtain rfl : k = n := by omega
        have hxl := hx2.out
        rw [Nat.mod_eq_of_lt hxl] at hz
        have hyes : iFit k x := ⟨by rw [hsv.out]; omega, by rw [hsv.out]; omega⟩
        have e1 : iVal k x = z := (if_pos hyes).trans (hsv.out.trans hz.symm)
        have e2 : iOk k x = true := decide_eq_true hyes
        have e := Lib.hid (And.intro e1 e2)
        clear hz hyes e1 e2 hxl
        go_wp2
        go_ret2
        exact ⟨by rw [e.out.1, e.out.2]; rfl, rfl⟩

end Go.Proofs.YtognpmggfplekaaGreatDoor.B

namespace Go.Proofs.YtognpmggfplekaaGreatDoor.B
open Go Go.RowKit


end Go.Proofs.YtognpmggfplekaaGreatDoor.B
