/-
  The reference's operators by their place in the tables of the statements. Conditions: at most 1000 bits an operand.
-/
import Derived.Test.YtognpmggfplekaaGreatDoorPaWv
set_option maxRecDepth 100000
namespace Go.Proofs.YtognpmggfplekaaGreatDoor
open Go Go.RowKit

theorem retW_eq {w w' : World} {v v' : V} {e : Ending} (h : RetW w v e w') (k : v = v') : RetW w v' e w' := k ▸ h
theorem len_oneV (i : Nat) (hi : i < 9) (a : V) : (oneV i a).l.length ≤ 128 := by
  rcases (show i = 0 ∨ i = 1 ∨ i = 2 ∨ i = 3 ∨ i = 4 ∨ i = 5 ∨ i = 6 ∨ i = 7 ∨ i = 8 by omega) with rfl | rfl | rfl | rfl | rfl | rfl | rfl | rfl | rfl
  · exact len_not a
  · exact len_neg a
  all_goals exact len_one
theorem rUn_ix (i : Nat) (hi : i < 9) (A : Option Addr) (n c : Nat) (s : Bool) (l : List Int) (w : World) (h : Rb w A n l) (hn : n ≤ 1000) :
    Calls Tryz.prog 17 #[.int .u8 (oneOp i), .agg #[.slice A n c, .bool s]] w (RetW w (oneV i ⟨l, s⟩)) := by
  have hop : oneOp i = 14 ∨ oneOp i = 12 ∨ oneOp i = 13 ∨ oneOp i = 15 ∨ oneOp i = 16 ∨ oneOp i = 17 ∨ oneOp i = 18 ∨ oneOp i = 19 ∨ oneOp i = 20 := by
    rcases (show i = 0 ∨ i = 1 ∨ i = 2 ∨ i = 3 ∨ i = 4 ∨ i = 5 ∨ i = 6 ∨ i = 7 ∨ i = 8 by omega) with rfl | rfl | rfl | rfl | rfl | rfl | rfl | rfl | rfl <;> decide
  have := rUnary_any (oneOp i) hop A n c s l w h hn
  rw [unW_one i hi] at this
  exact this.mono fun _ _ q => q.w (len_oneV i hi _)
theorem rBin_ix (i : Nat) (hi : i < 24) (A Y : Option Addr) (n m c d : Nat) (s t : Bool) (l k : List Int) (w : World) (h : Rb w A n l) (h' : Rb w Y m k) (hn : n ≤ 1000) (hm : m ≤ 1000) :
    Calls Tryz.prog 20 #[.int .u8 (twoOp i), .agg #[.slice A n c, .bool s], .agg #[.slice Y m d, .bool t]] w (RetW w (twoV i ⟨l, s⟩ ⟨k, t⟩)) := by
  rcases (show i = 0 ∨ i = 1 ∨ i = 2 ∨ i = 3 ∨ i = 4 ∨ i = 5 ∨ i = 6 ∨ i = 7 ∨ i = 8 ∨ i = 9 ∨ i = 10 ∨ i = 11 ∨ i = 12 ∨ i = 13 ∨ i = 14 ∨ i = 15 ∨ i = 16 ∨ i = 17 ∨ i = 18 ∨ i = 19 ∨ i = 20 ∨ i = 21 ∨ i = 22 ∨ i = 23 by omega) with rfl | rfl | rfl | rfl | rfl | rfl | rfl | rfl | rfl | rfl | rfl | rfl | rfl | rfl | rfl | rfl | rfl | rfl | rfl | rfl | rfl | rfl | rfl | rfl
  · exact (rbin_pw 37 andI (.inl ⟨rfl, rfl⟩) A Y n m c d s t l k w h h' hn hm).mono fun _ _ q => q.w (len_bw _ _ _)
  · exact (rbin_pw 38 orI (.inr (.inl ⟨rfl, rfl⟩)) A Y n m c d s t l k w h h' hn hm).mono fun _ _ q => q.w (len_bw _ _ _)
  · exact (rbin_pw 39 xorI (.inr (.inr (.inl ⟨rfl, rfl⟩))) A Y n m c d s t l k w h h' hn hm).mono fun _ _ q => q.w (len_bw _ _ _)
  · exact (rbin_pw 40 eqI (.inr (.inr (.inr (⟨rfl, rfl⟩)))) A Y n m c d s t l k w h h' hn hm).mono fun _ _ q => q.w (len_bw _ _ _)
  · exact (rbin_ar 21 _ A Y n m c d s t l k w h h' hn hm (.inl ⟨rfl, rfl⟩)).mono fun _ _ q => q.w (len_ar _ _ _)
  · exact (rbin_ar 22 _ A Y n m c d s t l k w h h' hn hm (.inr (.inl ⟨rfl, rfl⟩))).mono fun _ _ q => q.w (len_ar _ _ _)
  · exact (rbin_ar 23 _ A Y n m c d s t l k w h h' hn hm (.inr (.inr (.inl ⟨rfl, rfl⟩)))).mono fun _ _ q => q.w (len_ar _ _ _)
  · exact (rbin_ar 24 _ A Y n m c d s t l k w h h' hn hm (.inr (.inr (.inr (.inl ⟨rfl, rfl⟩))))).mono fun _ _ q => q.w (len_ar _ _ _)
  · exact (rbin_ar 25 _ A Y n m c d s t l k w h h' hn hm (.inr (.inr (.inr (.inr (⟨rfl, rfl⟩)))))).mono fun _ _ q => q.w (len_ar _ _ _)
  · exact (rbin_pow A Y n m c d s t l k w h h' hn hm).mono fun _ _ q => q.w (len_pow _ _)
  · exact (rbin_cm 27 (.inl rfl) A Y n m c d s t l k w h h' hn hm).mono fun _ _ q => retW_eq (q.w len_one) (by exact congrArg one1 (eqf_eqV _ _))
  · exact (rbin_cm 28 (.inr (.inl rfl)) A Y n m c d s t l k w h h' hn hm).mono fun _ _ q => retW_eq (q.w len_one) (by exact congrArg (fun z => one1 (notI z)) (eqf_eqV _ _))
  · exact (rbin_cm 31 (.inr (.inr (.inr (.inr (.inl rfl))))) A Y n m c d s t l k w h h' hn hm).mono fun _ _ q => retW_eq (q.w len_one) (by exact rfl)
  · exact (rbin_cm 32 (.inr (.inr (.inr (.inr (.inr (.inl rfl)))))) A Y n m c d s t l k w h h' hn hm).mono fun _ _ q => retW_eq (q.w len_one) (by exact rfl)
  · exact (rbin_cm 33 (.inr (.inr (.inr (.inr (.inr (.inr (.inl rfl))))))) A Y n m c d s t l k w h h' hn hm).mono fun _ _ q => retW_eq (q.w len_one) (by exact rfl)
  · exact (rbin_cm 34 (.inr (.inr (.inr (.inr (.inr (.inr (.inr (rfl)))))))) A Y n m c d s t l k w h h' hn hm).mono fun _ _ q => retW_eq (q.w len_one) (by exact rfl)
  · exact (rbin_land A Y n m c d s t l k w h h' hn hm).mono fun _ _ q => q.w len_one
  · exact (rbin_lor A Y n m c d s t l k w h h' hn hm).mono fun _ _ q => q.w len_one
  · exact (rbin_sh 41 (.inl (.inl rfl)) A Y n m c d s t l k w h h' hn hm).mono fun _ _ q => RetV.w (v := shV _ _ _ _) q (len_sh _ _ _ _)
  · exact (rbin_sh 42 (.inr (.inl rfl)) A Y n m c d s t l k w h h' hn hm).mono fun _ _ q => RetV.w (v := shV _ _ _ _) q (len_sh _ _ _ _)
  · exact (rbin_sh 43 (.inl (.inr rfl)) A Y n m c d s t l k w h h' hn hm).mono fun _ _ q => RetV.w (v := shV _ _ _ _) q (len_sh _ _ _ _)
  · exact (rbin_sh 44 (.inr (.inr rfl)) A Y n m c d s t l k w h h' hn hm).mono fun _ _ q => RetV.w (v := shV _ _ _ _) q (len_sh _ _ _ _)
  · exact (rbin_cm 29 (.inr (.inr (.inl rfl))) A Y n m c d s t l k w h h' hn hm).mono fun _ _ q => retW_eq (q.w len_one) (by exact congrArg (fun z => one1 (fromI z)) (smf_mt (balL_ok _ _) (balR_ok _ _) _))
  · exact (rbin_cm 30 (.inr (.inr (.inr (.inl rfl)))) A Y n m c d s t l k w h h' hn hm).mono fun _ _ q => retW_eq (q.w len_one) (by exact (congrArg (fun z => one1 (fromI (!z))) (smf_mt (balL_ok _ _) (balR_ok _ _) _)).trans (congrArg one1 (not_from _)))
end Go.Proofs.YtognpmggfplekaaGreatDoor
