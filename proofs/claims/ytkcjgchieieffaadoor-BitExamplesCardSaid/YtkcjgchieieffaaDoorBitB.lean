/-
  The functions of package bit and of its reference over the seat's translation, second part: the contracts of the reference, of Parse, of Eq, and of the statements' common check 'awake'.
-/
import Derived.Test.YtkcjgchieieffaaDoorBitA
namespace Go.Proofs.YtkcjgchieieffaaDoor
open Go Go.RowKit


theorem andI_eq (a b : Int) [ha : NN a] [hb : NN b] : andI a b = if a = 0 ∨ b = 0 then 0 else if a = 1 ∧ b = 1 then 1 else 2 := by
  have ha := ha.nn
  have hb := hb.nn
  have hA : a = 0 ∨ a = 1 ∨ a = 2 ∨ a = 3 ∨ a > 3 := by omega
  have hB : b = 0 ∨ b = 1 ∨ b = 2 ∨ b = 3 ∨ b > 3 := by omega
  have sA : a > 3 → stI a = 2 := fun h => if_pos h
  have sB : b > 3 → stI b = 2 := fun h => if_pos h
  unfold andI
  rcases hA with rfl | rfl | rfl | rfl | h0 <;> rcases hB with rfl | rfl | rfl | rfl | h1
  all_goals first
    | decide
    | (rw [sA h0, sB h1]; refine Eq.trans (b := 2) (by decide) ?_; simp; omega)
    | (rw [sA h0, sB h1]; refine Eq.trans (b := 2) (by decide) ?_; rw [if_neg (by omega), if_neg (by omega)])
    | (simp only [sA h0]; simp [stI, tabI]; try omega)
    | (simp only [sB h1]; simp [stI, tabI]; try omega)

theorem orI_eq (a b : Int) [ha : NN a] [hb : NN b] : orI a b = if a = 1 ∨ b = 1 then 1 else if a = 0 ∧ b = 0 then 0 else 2 := by
  have ha := ha.nn
  have hb := hb.nn
  have hA : a = 0 ∨ a = 1 ∨ a = 2 ∨ a = 3 ∨ a > 3 := by omega
  have hB : b = 0 ∨ b = 1 ∨ b = 2 ∨ b = 3 ∨ b > 3 := by omega
  have sA : a > 3 → stI a = 2 := fun h => if_pos h
  have sB : b > 3 → stI b = 2 := fun h => if_pos h
  unfold orI
  rcases hA with rfl | rfl | rfl | rfl | h0 <;> rcases hB with rfl | rfl | rfl | rfl | h1
  all_goals first
    | decide
    | (rw [sA h0, sB h1]; refine Eq.trans (b := 2) (by decide) ?_; simp; omega)
    | (rw [sA h0, sB h1]; refine Eq.trans (b := 2) (by decide) ?_; rw [if_neg (by omega), if_neg (by omega)])
    | (simp only [sA h0]; simp [stI, tabI]; try omega)
    | (simp only [sB h1]; simp [stI, tabI]; try omega)

theorem xorI_eq (a b : Int) [ha : NN a] [hb : NN b] : xorI a b = if knownB a = false ∨ knownB b = false then 2 else if a = b then 0 else 1 := by
  have ha := ha.nn
  have hb := hb.nn
  have hA : a = 0 ∨ a = 1 ∨ a = 2 ∨ a = 3 ∨ a > 3 := by omega
  have hB : b = 0 ∨ b = 1 ∨ b = 2 ∨ b = 3 ∨ b > 3 := by omega
  have sA : a > 3 → stI a = 2 := fun h => if_pos h
  have sB : b > 3 → stI b = 2 := fun h => if_pos h
  unfold xorI
  rcases hA with rfl | rfl | rfl | rfl | h0 <;> rcases hB with rfl | rfl | rfl | rfl | h1
  all_goals first
    | decide
    | (rw [sA h0, sB h1]; refine Eq.trans (b := 2) (by decide) ?_; simp [knownB]; omega)
    | (rw [sA h0, sB h1]; refine Eq.trans (b := 2) (by decide) ?_; rw [if_neg (by omega), if_neg (by omega)])
    | (simp only [sA h0]; simp [stI, tabI, knownB]; try omega)
    | (simp only [sB h1]; simp [stI, tabI, knownB]; try omega)

theorem comI_eq (a b : Int) [ha : NN a] [hb : NN b] : comI a b = if knownB a = true ∧ a = b then a else 2 := by
  have ha := ha.nn
  have hb := hb.nn
  have hA : a = 0 ∨ a = 1 ∨ a = 2 ∨ a = 3 ∨ a > 3 := by omega
  have hB : b = 0 ∨ b = 1 ∨ b = 2 ∨ b = 3 ∨ b > 3 := by omega
  have sA : a > 3 → stI a = 2 := fun h => if_pos h
  have sB : b > 3 → stI b = 2 := fun h => if_pos h
  unfold comI
  rcases hA with rfl | rfl | rfl | rfl | h0 <;> rcases hB with rfl | rfl | rfl | rfl | h1
  all_goals first
    | decide
    | (rw [sA h0, sB h1]; refine Eq.trans (b := 2) (by decide) ?_; simp [knownB]; omega)
    | (rw [sA h0, sB h1]; refine Eq.trans (b := 2) (by decide) ?_; rw [if_neg (by omega), if_neg (by omega)])
    | (simp only [sA h0]; simp [stI, tabI, knownB]; try omega)
    | (simp only [sB h1]; simp [stI, tabI, knownB]; try omega)

theorem bufI_eq (a : Int) [ha : NN a] : bufI a = if knownB a = true then a else 2 := by
  have ha := ha.nn
  obtain rfl | rfl | rfl | rfl | h : a = 0 ∨ a = 1 ∨ a = 2 ∨ a = 3 ∨ a > 3 := by omega
  all_goals first
    | decide
    | (unfold bufI; rw [show stI a = 2 from if_pos h]; simp [tabI, knownB]; omega)
theorem notI_eq (a : Int) [ha : NN a] : notI a = if a = 0 then 1 else if a = 1 then 0 else 2 := by
  have ha := ha.nn
  obtain rfl | rfl | rfl | rfl | h : a = 0 ∨ a = 1 ∨ a = 2 ∨ a = 3 ∨ a > 3 := by omega
  all_goals first
    | decide
    | (unfold notI; rw [show stI a = 2 from if_pos h, if_neg (by omega), if_neg (by omega)]; rfl)

set_option maxHeartbeats 1000000 in
theorem rand_any (a b : Int) (w : World) [NN a] [NN b] : Calls Tryd.prog 21 #[.int .u8 a, .int .u8 b] w fun e w' => e = .returned (.int .u8 (andI a b)) ∧ ∃ m, w' = w.drewN m := by
  rw [andI_eq a b]
  go_enter Tryd.func21, Tryd.ntmps21
  go_wp2_with (fail)
  all_goals go_ret
  all_goals
    refine ⟨ret_u8 ?_, by first | exact ⟨_, rfl⟩ | exact ⟨0, rfl⟩⟩
    simp_all

set_option maxHeartbeats 1000000 in
theorem ror_any (a b : Int) (w : World) [NN a] [NN b] : Calls Tryd.prog 23 #[.int .u8 a, .int .u8 b] w fun e w' => e = .returned (.int .u8 (orI a b)) ∧ ∃ m, w' = w.drewN m := by
  rw [orI_eq a b]
  go_enter Tryd.func23, Tryd.ntmps23
  go_wp2_with (fail)
  all_goals go_ret
  all_goals
    refine ⟨ret_u8 ?_, by first | exact ⟨_, rfl⟩ | exact ⟨0, rfl⟩⟩
    simp_all

set_option maxHeartbeats 1000000 in
theorem rxor_any (a b : Int) (w : World) [NN a] [NN b] : Calls Tryd.prog 25 #[.int .u8 a, .int .u8 b] w fun e w' => e = .returned (.int .u8 (xorI a b)) ∧ ∃ m, w' = w.drewN m := by
  rw [xorI_eq a b]
  cases hA : knownB a <;> cases hB : knownB b
  all_goals
    go_enter Tryd.func25, Tryd.ntmps25
    go_wp2_with (go_at_call 13; refine (rknown_any _ _).mono ?_; rintro e w' ⟨rfl, m, rfl⟩)
    all_goals go_ret
    all_goals
      refine ⟨ret_u8 ?_, by first | exact ⟨_, rfl⟩ | exact ⟨0, rfl⟩⟩
      simp_all
theorem rbuf_any (a : Int) (w : World) [NN a] : Calls Tryd.prog 17 #[.int .u8 a] w fun e w' => e = .returned (.int .u8 (bufI a)) ∧ ∃ m, w' = w.drewN m := by
  rw [bufI_eq a]
  cases hA : knownB a
  all_goals
    go_enter Tryd.func17, Tryd.ntmps17
    go_wp2_with (go_at_call 13; refine (rknown_any _ _).mono ?_; rintro e w' ⟨rfl, m, rfl⟩)
    all_goals go_ret
    all_goals
      refine ⟨ret_u8 ?_, by first | exact ⟨_, rfl⟩ | exact ⟨0, rfl⟩⟩
      simp_all
theorem rnot_any (a : Int) (w : World) [NN a] : Calls Tryd.prog 15 #[.int .u8 a] w fun e w' => e = .returned (.int .u8 (notI a)) ∧ ∃ m, w' = w.drewN m := by
  rw [notI_eq a]
  go_enter Tryd.func15, Tryd.ntmps15
  go_wp2
  all_goals go_ret
  all_goals
    refine ⟨ret_u8 ?_, 0, rfl⟩
    simp_all
theorem rchr_any (a : Int) (w : World) [NN a] : Calls Tryd.prog 19 #[.int .u8 a] w fun e w' => e = .returned (.int .u8 (chrI a)) ∧ ∃ m, w' = w.drewN m := by
  have hs := stI_cases a
  have S := norm_any a
  unfold chrI
  generalize stI a = s at *
  rcases hs with rfl | rfl | rfl | rfl
  all_goals
    go_enter Tryd.func19, Tryd.ntmps19
    go_wp2_with (go_at_call 40; refine (S _).mono ?_; rintro e w' ⟨rfl, rfl⟩)
    go_ret
    exact ⟨rfl, 0, rfl⟩
theorem req_any (a b : Int) (w : World) [NN a] [NN b] : Calls Tryd.prog 27 #[.int .u8 a, .int .u8 b] w fun e w' => e = .returned (.int .u8 (eqI a b)) ∧ ∃ m, w' = w.drewN m := by
  go_enter Tryd.func27, Tryd.ntmps27
  go_wp2_with (first | (go_at_call 25; refine (rxor_any _ _ _).mono ?_; rintro e w' ⟨rfl, m, rfl⟩) | (go_at_call 15; refine (rnot_any _ _).mono ?_; rintro e w' ⟨rfl, m, rfl⟩))
  go_ret
  exact ⟨rfl, _, rfl⟩
theorem eq_any (a b : Int) (w : World) [NN a] [NN b] [TXor w] [TNot w] : Calls Tryd.prog 26 #[.int .u8 a, .int .u8 b] w fun e w' => e = .returned (.int .u8 (eqI a b)) ∧ ∃ m, w' = w.drewN m := by
  go_enter Tryd.func26, Tryd.ntmps26
  go_wp2_with (first | (go_at_call 24; refine (xor_any _ _ _).mono ?_; rintro e w' ⟨rfl, m, rfl⟩) | (go_at_call 14; refine (not_any _ _).mono ?_; rintro e w' ⟨rfl, m, rfl⟩))
  go_ret
  exact ⟨rfl, _, rfl⟩
set_option maxHeartbeats 1000000 in
theorem rmux_any (x a b : Int) (w : World) [NN x] [NN a] [NN b] : Calls Tryd.prog 33 #[.int .u8 x, .int .u8 a, .int .u8 b] w fun e w' => e = .returned (.int .u8 (muxI x a b)) ∧ ∃ m, w' = w.drewN m := by
  unfold muxI
  rw [comI_eq a b]
  have hB := bufI_eq b
  by_cases h1 : x = 1
  · subst h1
    go_enter Tryd.func33, Tryd.ntmps33
    go_wp2_with (go_at_call 17; refine (rbuf_any _ _).mono ?_; rintro e w' ⟨rfl, m, rfl⟩)
    go_ret
    exact ⟨rfl, _, rfl⟩
  · by_cases h0 : x = 0
    · subst h0
      clear hB
      go_enter Tryd.func33, Tryd.ntmps33
      go_wp2_with (go_at_call 17; refine (rbuf_any _ _).mono ?_; rintro e w' ⟨rfl, m, rfl⟩)
      go_ret
      exact ⟨rfl, _, rfl⟩
    · have HB := Lib.hid hB
      clear hB
      cases hk : knownB a <;> by_cases hab : a = b
      all_goals
        go_enter Tryd.func33, Tryd.ntmps33
        go_wp2_with (first | (go_at_call 17; refine (rbuf_any _ _).mono ?_; rintro e w' ⟨rfl, m, rfl⟩) | (go_at_call 13; refine (rknown_any _ _).mono ?_; rintro e w' ⟨rfl, m, rfl⟩))
        all_goals go_ret
        all_goals
          refine ⟨ret_u8 ?_, by first | exact ⟨_, rfl⟩ | exact ⟨0, rfl⟩⟩
          have hB := HB.out
          simp_all

set_option maxHeartbeats 1000000 in
theorem parse_any (c : Int) (w : World) : Calls Tryd.prog 35 #[.int .u8 c] w fun e w' => e = .returned (.tuple #[.int .u8 (parI c), .bool (parB c)]) ∧ ∃ m, w' = w.drewN m := by
  unfold parI parB
  go_enter Tryd.func35, Tryd.ntmps35
  go_wp2
  all_goals go_ret2
  all_goals
    refine ⟨?_, 0, rfl⟩
    simp_all

set_option maxHeartbeats 1000000 in
theorem rparse_any (c : Int) (w : World) : Calls Tryd.prog 36 #[.int .u8 c] w fun e w' => e = .returned (.tuple #[.int .u8 (parI c), .bool (parB c)]) ∧ ∃ m, w' = w.drewN m := by
  unfold parI parB
  go_enter Tryd.func36, Tryd.ntmps36
  go_wp2
  all_goals go_ret2
  all_goals
    refine ⟨?_, 0, rfl⟩
    simp_all

set_option maxHeartbeats 1000000 in
theorem awake_any (w : World) [TAnd w] [TOr w] [TXor w] [TBuf w] [TCom w] : Calls Tryd.prog 34 #[] w fun e w' => e = .returned (.bool true) ∧ ∃ m, w' = w.drewN m := by
  have e1 : andI 0 2 = 0 := by decide
  have e2 : andI 1 3 = 2 := by decide
  have e3 : orI 1 2 = 1 := by decide
  have e4 : xorI 2 2 = 2 := by decide
  have e5 : muxI 2 1 1 = 1 := by decide
  have e6 : muxI 2 1 0 = 2 := by decide
  have e7 : muxI 1 3 0 = 2 := by decide
  have e8 : leqB 2 0 = true := by decide
  have e9 : leqB 2 3 = false := by decide
  have e10 : parI 63 = 3 := by decide
  have e11 : parB 63 = true := by decide
  go_enter Tryd.func34, Tryd.ntmps34
  go_wp2_with (first
    | (go_at_call 35; refine (parse_any _ _).mono ?_; rintro e w' ⟨rfl, m, rfl⟩)
    | (go_at_call 20; refine (and_any _ _ _).mono ?_; rintro e w' ⟨rfl, m, rfl⟩)
    | (go_at_call 22; refine (or_any _ _ _).mono ?_; rintro e w' ⟨rfl, m, rfl⟩)
    | (go_at_call 24; refine (xor_any _ _ _).mono ?_; rintro e w' ⟨rfl, m, rfl⟩)
    | (go_at_call 32; refine (mux_any _ _ _ _).mono ?_; rintro e w' ⟨rfl, m, rfl⟩)
    | (go_at_call 30; refine (leq_any _ _ _).mono ?_; rintro e w' ⟨rfl, m, rfl⟩))
  go_ret
  exact ⟨rfl, _, rfl⟩

end Go.Proofs.YtkcjgchieieffaaDoor
