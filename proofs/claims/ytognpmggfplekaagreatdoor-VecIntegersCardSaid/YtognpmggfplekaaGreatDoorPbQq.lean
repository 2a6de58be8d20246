/-
  Contracts of the reference's Int and window. Conditions: at most a million bits.
  Contracts of the reference's Slice. Conditions: at most a million bits.
  Contracts of the reference's Put. Conditions: at most a million bits.
  Contracts of the reference's Concat. Conditions: at most a thousand vectors of at most a million bits.
  Contracts of the reference's Cond. Conditions: at most a million bits.
  Contracts of the reference's Match. Conditions: at most a million bits.
-/
import Derived.Test.YtognpmggfplekaaGreatDoorPbQp
import Derived.Test.YtognpmggfplekaaGreatDoorPbQk
import Derived.Test.YtognpmggfplekaaGreatDoorPbQl
import Derived.Test.YtognpmggfplekaaGreatDoorPbQo
import Derived.Test.YtognpmggfplekaaGreatDoorPbQn
import Derived.Test.YtognpmggfplekaaGreatDoorPbQj
import Derived.Test.YtognpmggfplekaaGreatDoorPbQi

set_option maxRecDepth 100000
namespace Go.Proofs.YtognpmggfplekaaGreatDoor
open Go Go.RowKit

theorem fit_snoc {l : List Int} {n : Nat} (hl : l.length = n) (s : Bool) : (fitV ⟨l, s⟩ (n + 1)).l = l ++ [fill ⟨l, s⟩] := by
  unfold fitV
  rw [tab_snoc]
  have e1 : tab n (ext ⟨l, s⟩) = l := by
    have h2 : tab n (ext ⟨l, s⟩) = tab n (nth l) := tab_congr fun i hi => by unfold ext; rw [if_pos (show i < l.length by omega)]
    rw [h2, ← hl, tab_nth]
  rw [e1]
  congr 1
  unfold ext
  rw [if_neg (show ¬ n < l.length by omega)]
theorem iVal_ext {n x : Nat} (h : x < 2 ^ n) (_h0 : 0 < n) : B.sval (n + 1) (x + 2 ^ n * (B.neg n x).toNat) = B.sval n x := by
  have hneg : B.neg (n + 1) (x + 2 ^ n * (B.neg n x).toNat) = B.neg n x := by
    show (x + 2 ^ n * (B.neg n x).toNat).testBit (n + 1 - 1) = B.neg n x
    rw [Nat.add_sub_cancel]
    generalize B.neg n x = b
    cases b
    · rw [show (false : Bool).toNat = 0 from rfl, Nat.mul_zero, Nat.add_zero]
      exact Nat.testBit_lt_two_pow h
    · rw [show (true : Bool).toNat = 1 from rfl, Nat.mul_one, Nat.testBit_eq_decide_div_mod_eq, Nat.add_div_right _ (Nat.two_pow_pos n), Nat.div_eq_of_lt h]
      rfl
  have hp : 2 ^ (n + 1) = 2 ^ n + 2 ^ n := by rw [Nat.pow_succ]; omega
  cases hb : B.neg n x
  · rw [hb] at hneg
    rw [B.sval_pos hneg, B.sval_pos hb]
    simp
  · rw [hb] at hneg
    rw [B.sval_neg hneg, B.sval_neg hb, hp, show (true : Bool).toNat = 1 from rfl, Nat.mul_one]
    push_cast
    omega
theorem neg_num {l : List Int} {n : Nat} (_hl : l.length = n) : B.neg n (num l) = (nth l (n - 1) == 1) := by
  show (num l).testBit (n - 1) = _
  rw [num_bit]
theorem int_signed {l : List Int} {n : Nat} (hl : l.length = n) (h0 : 0 < n) : B.iVal (n + 1) (num (fitV ⟨l, true⟩ (n + 1)).l) = B.iVal n (num l) ∧ B.iOk (n + 1) (num (fitV ⟨l, true⟩ (n + 1)).l) = B.iOk n (num l) := by
  have e : num (fitV ⟨l, true⟩ (n + 1)).l = num l + 2 ^ n * (B.neg n (num l)).toNat := by
    rw [fit_snoc hl, num_snoc, hl, neg_num hl]
    show num l + 2 ^ n * (nth l (l.length - 1) == 1).toNat = _
    rw [hl]
  have hs := iVal_ext (num_lt' hl) h0
  rw [e]
  have hi : B.iFit (n + 1) (num l + 2 ^ n * (B.neg n (num l)).toNat) ↔ B.iFit n (num l) := by unfold B.iFit; rw [hs]
  exact ⟨by unfold B.iVal; simp only [hi, hs], by unfold B.iOk; simp only [hi]⟩
theorem int_unsigned {l : List Int} {n : Nat} (hl : l.length = n) : num (fitV ⟨l, false⟩ (n + 1)).l = num l := by
  rw [fit_snoc hl, num_snoc]
  show num l + 2 ^ l.length * ((0 : Int) == 1).toNat = _
  rw [show ((0 : Int) == 1) = false from rfl]
  simp
end Go.Proofs.YtognpmggfplekaaGreatDoor

namespace Go.Proofs.YtognpmggfplekaaGreatDoor
open Go Go.RowKit

end Go.Proofs.YtognpmggfplekaaGreatDoor

namespace Go.Proofs.YtognpmggfplekaaGreatDoor
open Go Go.RowKit

end Go.Proofs.YtognpmggfplekaaGreatDoor

namespace Go.Proofs.YtognpmggfplekaaGreatDoor
open Go Go.RowKit

section
variable {o : Oper} {a : Act} {w : World} {K : Act → World → Prop} {Q : Exit → Act → World → Prop}
theorem run_ldV {b p : Nat} {x y : Value} (h1 : w.cell? ⟨b, p, none⟩ = some x) (h2 : w.cell? ⟨b, p + 1, none⟩ = some y) : (Instr.loadAt 24 (.pointer (some ⟨b, p, none⟩))).run Tryz.prog w = .ok (.agg #[x, y]) w := by simp [go_sem, h1, h2]
theorem wp_ldV (x : Operand) (ho : o.op = .load 24 x) {b p : Nat} (hx : a.eval x = .pointer (some ⟨b, p, none⟩)) {q r : Value} (h1 : w.cell? ⟨b, p, none⟩ = some q) (h2 : w.cell? ⟨b, p + 1, none⟩ = some r) (h : K (a.put o.dst (.agg #[q, r])) w) : o.wp Tryz.prog a w K Q := by
  refine wp_val ?_ h
  unfold execOp
  simp only [ho, hx, Sem.run_bind, run_ldV h1 h2, Result.andThen_ok, Sem.run_pure]
end
end Go.Proofs.YtognpmggfplekaaGreatDoor

namespace Go.Proofs.YtognpmggfplekaaGreatDoor
open Go Go.RowKit

end Go.Proofs.YtognpmggfplekaaGreatDoor

namespace Go.Proofs.YtognpmggfplekaaGreatDoor
open Go Go.RowKit

end Go.Proofs.YtognpmggfplekaaGreatDoor
