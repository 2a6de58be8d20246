/-
  Words for the walks of the statements: an argument as it comes in, the small constants, equations of values. No conditions.
-/
import Derived.Test.YtaedfoblniadfaaBvT
namespace Go.Proofs.Ytaedfoblniadfaa
open Go Go.RowKit

/-- A slice of Booleans as it came in. -/
def Arg (w : World) (A : Option Addr) (n c x : Nat) : Prop := n ≤ c ∧ c ≤ maxLen ∧ Rd w A n x
theorem rd_true (w : World) : Rd (w.alloc (.cells #[.bool true] 4)) (some ⟨w.heap.size, 0, none⟩) 1 1 := Rd.of_own (Own.new w _ _) (by decide)
theorem of8 (z : Int) (w : World) : Calls Try.prog 48 #[.int .i64 z, .int .i64 8] w (RetN w 8 (fi z 8)) := of_any z 8 w (by decide)
theorem of9 (z : Int) (w : World) : Calls Try.prog 48 #[.int .i64 z, .int .i64 9] w (RetN w 9 (fi z 9)) := of_any z 9 w (by decide)
theorem of3 (z : Int) (w : World) : Calls Try.prog 48 #[.int .i64 z, .int .i64 3] w (RetN w 3 (fi z 3)) := of_any z 3 w (by decide)
theorem of1 (z : Int) (w : World) : Calls Try.prog 48 #[.int .i64 z, .int .i64 1] w (RetN w 1 (fi z 1)) := of_any z 1 w (by decide)
theorem of0 (z : Int) (w : World) : Calls Try.prog 48 #[.int .i64 z, .int .i64 0] w (RetN w 0 (fi z 0)) := of_any z 0 w (by decide)
theorem fi_small {z : Int} {k : Nat} (h0 : 0 ≤ z) (h : z < (2 : Int) ^ k) : fi z k = z.toNat := by
  unfold fi; rw [Int.emod_eq_of_lt h0 h]

section
variable {n x y z : Nat}
theorem ring1 : (x + y) % 2 ^ n = (y + x) % 2 ^ n := by rw [Nat.add_comm]
theorem ring2 : ((x + y) % 2 ^ n + z) % 2 ^ n = (x + (y + z) % 2 ^ n) % 2 ^ n := by rw [Nat.mod_add_mod, Nat.add_mod_mod, Nat.add_assoc]
theorem ring3 : (x * y) % 2 ^ n = (y * x) % 2 ^ n := by rw [Nat.mul_comm]
theorem ring4 : ((x * y) % 2 ^ n * z) % 2 ^ n = (x * ((y * z) % 2 ^ n)) % 2 ^ n := by rw [Nat.mod_mul_mod, Nat.mul_mod_mod, Nat.mul_assoc]
theorem ring5 : (x * ((y + z) % 2 ^ n)) % 2 ^ n = ((x * y) % 2 ^ n + (x * z) % 2 ^ n) % 2 ^ n := by rw [Nat.mul_mod_mod, Nat.mul_add, ← Nat.add_mod]
theorem ring6 : subv n x y = (x + subv n 0 y) % 2 ^ n := by unfold subv; rw [Nat.zero_add, Nat.add_mod_mod]
theorem ring7 (hx : x < 2 ^ n) : subv n x x = 0 := by
  unfold subv; rw [Nat.mod_eq_of_lt hx, show x + (2 ^ n - x) = 2 ^ n by omega, Nat.mod_self]
theorem ring8 (hx : x < 2 ^ n) : (x + 0) % 2 ^ n = x := Nat.mod_eq_of_lt hx
theorem ring9 (hx : x < 2 ^ n) : (x * fi 1 1) % 2 ^ n = x := by
  rw [show fi 1 1 = 1 by decide, Nat.mul_one]; exact Nat.mod_eq_of_lt hx
theorem pow_sum (x n : Nat) (a b : Int) (ha : 0 ≤ a ∧ a ≤ 255) (hb : 0 ≤ b ∧ b ≤ 255) : (x ^ fi (a + b) 9) % 2 ^ n = ((x ^ fi a 8) % 2 ^ n * ((x ^ fi b 8) % 2 ^ n)) % 2 ^ n := by
  rw [fi_small (by omega) (by simp; omega), fi_small (by omega) (by simp; omega), fi_small (by omega) (by simp; omega), ← Nat.mul_mod, ← Nat.pow_add, show (a + b).toNat = a.toNat + b.toNat by omega]
theorem pow_one' (hx : x < 2 ^ n) : (x ^ fi 1 3) % 2 ^ n = x := by
  rw [show fi 1 3 = 1 by decide, Nat.pow_one]; exact Nat.mod_eq_of_lt hx
end
end Go.Proofs.Ytaedfoblniadfaa
