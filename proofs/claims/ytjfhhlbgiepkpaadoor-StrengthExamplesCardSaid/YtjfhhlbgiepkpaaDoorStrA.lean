/-
  The functions of package strength and of its reference over the seat's translation: one contract a function. Conditions: none but what each contract names.
-/
import Derived.Test.YtjfhhlbgiepkpaaDoorProg
import Derived.WalkKit
import Derived.WalkLawsBesides
import Derived.LoopTactic
import Derived.Deep.QuietTactic
import Derived.BigQuiet
import Derived.StillTailTactics
import Derived.Deep.RegionHeld3
import Derived.Lib.Hide
import Derived.Below
import Derived.Outline
import Derived.Test.YtjfhhlbgiepkpaaDoorStrM
import Derived.Test.YtjfhhlbgiepkpaaDoorLib
namespace Go.Proofs.YtjfhhlbgiepkpaaDoor
open Go Go.RowKit

theorem ret_iv {k l : IntKind} {a b c d : Int} (h : a = b) (h' : c = d) : Ending.returned (.agg #[.int k a, .int l c]) = .returned (.agg #[.int k b, .int l d]) := by rw [h, h']

theorem limit_any (n : Int) (w : World) : Calls Tryd.prog 38 #[.int .i8 n] w fun e w' => e = .returned (.int .i8 (limI n)) ∧ w' = w := by
  go_enter Tryd.func38, Tryd.ntmps38
  go_wp2
  all_goals
    go_ret
    exact ⟨ret_i (by unfold limI; omega), rfl⟩
theorem limited_any (n : Int) (w : World) : Calls Tryd.prog 39 #[.int .i8 n] w fun e w' => e = .returned (.int .i8 (limI n)) ∧ w' = w := by
  go_enter Tryd.func39, Tryd.ntmps39
  go_wp2
  all_goals
    go_ret
    exact ⟨ret_i (by unfold limI; omega), rfl⟩
def levI (n : Int) : Int := min n 7
theorem level_any (n : Int) (w : World) (h : 0 ≤ n) : Calls Tryd.prog 40 #[.int .u8 n] w fun e w' => e = .returned (.int .i8 (levI n)) ∧ w' = w := by
  go_enter Tryd.func40, Tryd.ntmps40
  go_wp2
  all_goals
    go_ret
    exact ⟨ret_i (by unfold levI; omega), rfl⟩
theorem weakest_any (lo hi : Int) (w : World) [h : Nm lo hi] : Calls Tryd.prog 46 #[.agg #[.int .i8 lo, .int .i8 hi]] w fun e w' => e = .returned (.int .i8 (wk lo hi)) ∧ Below w.heap.size w w' := by
  obtain ⟨h1, h2, h3⟩ := h
  go_enter Tryd.func46, Tryd.ntmps46
  go_wp2
  all_goals
    go_ret
    exact ⟨ret_i (by unfold wk; omega), (Below.refl _ _).alloc (Nat.le_refl _) _⟩
theorem to_any (lo hi : Int) (w : World) : Calls Tryd.prog 31 #[.int .i8 lo, .int .i8 hi] w fun e w' => e = .returned (.agg #[.int .i8 lo, .int .i8 hi]) ∧ Below w.heap.size w w' := by
  go_enter Tryd.func31, Tryd.ntmps31
  go_wp2
  refine bodyPost_ret (v := .agg #[.int .i8 lo, .int .i8 hi]) (by simp [results, Tryd.results31, go_sem]) rfl ⟨rfl, ?_⟩
  repeat first | exact Below.refl _ _ | refine Below.setCell ?_ (by simp) _ | refine Below.alloc ?_ (by simp) _ | refine below_drewN ?_ _
theorem norm_any (lo hi : Int) (w : World) : Calls Tryd.prog 18 #[.agg #[.int .i8 lo, .int .i8 hi]] w fun e w' => e = .returned (.agg #[.int .i8 (nLo lo hi), .int .i8 (nHi lo hi)]) ∧ Below w.heap.size w w' := by
  go_enter Tryd.func18, Tryd.ntmps18
  go_wp2
  go_quiet ((go_at_call 38; exact Calls.quiet_of_same (limit_any _ _)))
  go_wp2
  all_goals
    refine bodyPost_ret (v := .agg #[.int .i8 (nLo lo hi), .int .i8 (nHi lo hi)]) (by simp [results, Tryd.results18, go_sem, nLo, nHi]; omega) rfl ⟨rfl, ?_⟩
    repeat first | exact Below.refl _ _ | refine Below.setCell ?_ (by simp) _ | refine Below.alloc ?_ (by simp) _ | refine below_drewN ?_ _
set_option maxHeartbeats 1000000 in
theorem rnorm_any (lo hi : Int) (w : World) : Calls Tryd.prog 19 #[.agg #[.int .i8 lo, .int .i8 hi]] w fun e w' => e = .returned (.agg #[.int .i8 (nLo lo hi), .int .i8 (nHi lo hi)]) ∧ Below w.heap.size w w' := by
  go_enter Tryd.func19, Tryd.ntmps19
  go_wp2
  go_region_with (go_at_call 39; refine (limited_any _ _).mono ?_; rintro e w' ⟨rfl, rfl⟩)
  all_goals
    go_wp2
    all_goals
      refine bodyPost_ret (v := .agg #[.int .i8 (nLo lo hi), .int .i8 (nHi lo hi)]) (by simp [results, Tryd.results19, go_sem, nLo, nHi]; omega) rfl ⟨rfl, ?_⟩
      repeat first | exact Below.refl _ _ | refine Below.setCell ?_ (by simp) _ | refine Below.alloc ?_ (by simp) _ | refine below_drewN ?_ _
def readI (lo hi : Int) : Int := if nHi lo hi < 0 then 0 else if 0 < nLo lo hi then 1 else if nLo lo hi = 0 ∧ nHi lo hi = 0 then 3 else 2
def conB (lo hi n : Int) : Bool := decide (nLo lo hi ≤ n ∧ n ≤ nHi lo hi)
theorem nm_out (lo hi : Int) : -7 ≤ nLo lo hi ∧ nLo lo hi ≤ nHi lo hi ∧ nHi lo hi ≤ 7 := by
  have h := (inferInstance : Nm (nLo lo hi) (nHi lo hi))
  exact ⟨h.low, h.le, h.high⟩
theorem read_any (lo hi : Int) (w : World) : Calls Tryd.prog 21 #[.agg #[.int .i8 lo, .int .i8 hi]] w fun e w' => e = .returned (.int .u8 (readI lo hi)) ∧ Below w.heap.size w w' := by
  go_enter Tryd.func21, Tryd.ntmps21
  have hn := (nm_out lo hi).2.1
  go_wp2_with (go_at_call 18; refine (norm_any _ _ _).mono ?_; rintro e w1 ⟨rfl, hb⟩; obtain ⟨hc, hf⟩ := bcell hb)
  all_goals
    go_ret
    refine ⟨ret_i ?_, ?_⟩
    · unfold readI
      (try simp only [beq_iff_eq, beq_eq_false_iff_ne, ne_eq] at *)
      repeat first | rw [if_pos (by omega)] | rw [if_neg (by omega)]
    · repeat first | exact Below.refl _ _ | refine Below.trans ?_ (hb.mono (by simp)) | refine Below.setCell ?_ (by simp) _ | refine Below.alloc ?_ (by simp) _ | refine below_drewN ?_ _
theorem rread_any (lo hi : Int) (w : World) : Calls Tryd.prog 22 #[.agg #[.int .i8 lo, .int .i8 hi]] w fun e w' => e = .returned (.int .u8 (readI lo hi)) ∧ Below w.heap.size w w' := by
  go_enter Tryd.func22, Tryd.ntmps22
  have hn := (nm_out lo hi).2.1
  go_wp2_with (go_at_call 19; refine (rnorm_any _ _ _).mono ?_; rintro e w1 ⟨rfl, hb⟩; obtain ⟨hc, hf⟩ := bcell hb)
  all_goals
    go_ret
    refine ⟨ret_i ?_, ?_⟩
    · unfold readI
      (try simp only [beq_iff_eq, beq_eq_false_iff_ne, ne_eq] at *)
      repeat first | rw [if_pos (by omega)] | rw [if_neg (by omega)]
    · repeat first | exact Below.refl _ _ | refine Below.trans ?_ (hb.mono (by simp)) | refine Below.setCell ?_ (by simp) _ | refine Below.alloc ?_ (by simp) _ | refine below_drewN ?_ _
theorem contains_any (lo hi n : Int) (w : World) : Calls Tryd.prog 23 #[.agg #[.int .i8 lo, .int .i8 hi], .int .i64 n] w fun e w' => e = .returned (.bool (conB lo hi n)) ∧ Below w.heap.size w w' := by
  go_enter Tryd.func23, Tryd.ntmps23
  obtain ⟨h1, h2, h3⟩ := nm_out lo hi
  go_wp2_with (go_at_call 18; refine (norm_any _ _ _).mono ?_; rintro e w1 ⟨rfl, hb⟩; obtain ⟨hc, hf⟩ := bcell hb)
  all_goals
    go_ret
    refine ⟨ret_b ?_, ?_⟩
    · unfold conB
      simp
      try omega
    · repeat first | exact Below.refl _ _ | refine Below.trans ?_ (hb.mono (by simp)) | refine Below.setCell ?_ (by simp) _ | refine Below.alloc ?_ (by simp) _ | refine below_drewN ?_ _
theorem rcontains_any (lo hi n : Int) (w : World) : Calls Tryd.prog 24 #[.agg #[.int .i8 lo, .int .i8 hi], .int .i64 n] w fun e w' => e = .returned (.bool (conB lo hi n)) ∧ Below w.heap.size w w' := by
  go_enter Tryd.func24, Tryd.ntmps24
  obtain ⟨h1, h2, h3⟩ := nm_out lo hi
  go_wp2_with (go_at_call 19; refine (rnorm_any _ _ _).mono ?_; rintro e w1 ⟨rfl, hb⟩; obtain ⟨hc, hf⟩ := bcell hb)
  all_goals
    go_ret
    refine ⟨ret_b ?_, ?_⟩
    · unfold conB
      simp
      try omega
    · repeat first | exact Below.refl _ _ | refine Below.trans ?_ (hb.mono (by simp)) | refine Below.setCell ?_ (by simp) _ | refine Below.alloc ?_ (by simp) _ | refine below_drewN ?_ _
theorem eql_p (w : World) (a b c d : Int) : (binOp .eql 29 (.agg #[.int .i8 a, .int .i8 b]) (.agg #[.int .i8 c, .int .i8 d])).run Tryd.prog w = .ok (.bool (a == c && b == d)) w := by
  go_simp
  by_cases h : a = c <;> by_cases h' : b = d <;> simp [h, h']
theorem neq_p (w : World) (a b c d : Int) : (binOp .neq 29 (.agg #[.int .i8 a, .int .i8 b]) (.agg #[.int .i8 c, .int .i8 d])).run Tryd.prog w = .ok (.bool (!(a == c && b == d))) w := by
  go_simp
  by_cases h : a = c <;> by_cases h' : b = d <;> simp [h, h']
theorem eql_r (w : World) (a b c d : Int) : (binOp .eql 28 (.agg #[.int .i8 a, .int .i8 b]) (.agg #[.int .i8 c, .int .i8 d])).run Tryd.prog w = .ok (.bool (a == c && b == d)) w := by
  go_simp
  by_cases h : a = c <;> by_cases h' : b = d <;> simp [h, h']
theorem neq_r (w : World) (a b c d : Int) : (binOp .neq 28 (.agg #[.int .i8 a, .int .i8 b]) (.agg #[.int .i8 c, .int .i8 d])).run Tryd.prog w = .ok (.bool (!(a == c && b == d))) w := by
  go_simp
  by_cases h : a = c <;> by_cases h' : b = d <;> simp [h, h']
attribute [local go_sem ↓] eql_p eql_r neq_p neq_r
theorem valid_any (lo hi : Int) (w : World) : Calls Tryd.prog 20 #[.agg #[.int .i8 lo, .int .i8 hi]] w fun e w' => e = .returned (.bool (lo == nLo lo hi && hi == nHi lo hi)) ∧ Below w.heap.size w w' := by
  go_enter Tryd.func20, Tryd.ntmps20
  go_wp2
  go_region_held3 (fun u => u.cell? ⟨w.heap.size, 0, none⟩ = some (.int .i8 lo) ∧ u.cell? ⟨w.heap.size, 1, none⟩ = some (.int .i8 hi)) (go_keep) ((go_at_call 18; refine (norm_any _ _ _).mono ?_; rintro e w1 ⟨rfl, hb⟩; obtain ⟨hc, hf⟩ := bcell hb))
  go_wp2
  go_ret
  refine ⟨ret_b rfl, ?_⟩
  repeat first | exact Below.refl _ _ | refine Below.trans ?_ (hb.mono (by simp)) | refine Below.setCell ?_ (by simp) _ | refine Below.alloc ?_ (by simp) _ | refine below_drewN ?_ _
theorem within_any (a0 a1 b0 b1 : Int) (w : World) : Calls Tryd.prog 33 #[.agg #[.int .i8 a0, .int .i8 a1], .agg #[.int .i8 b0, .int .i8 b1]] w fun e w' => e = .returned (.bool (decide (b0 ≤ a0 ∧ a1 ≤ b1))) ∧ Below w.heap.size w w' := by
  go_enter Tryd.func33, Tryd.ntmps33
  go_wp2
  all_goals
    go_ret
    refine ⟨ret_b ?_, ?_⟩
    · simp
      try omega
    · repeat first | exact Below.refl _ _ | refine Below.setCell ?_ (by simp) _ | refine Below.alloc ?_ (by simp) _ | refine below_drewN ?_ _
end Go.Proofs.YtjfhhlbgiepkpaaDoor
