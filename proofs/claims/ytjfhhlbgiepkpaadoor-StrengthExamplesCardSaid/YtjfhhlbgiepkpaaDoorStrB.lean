/-
  combine, Combine and their references over the seat's translation. Conditions: intervals normalized where a contract says so.
-/
import Derived.Test.YtjfhhlbgiepkpaaDoorStrA
namespace Go.Proofs.YtjfhhlbgiepkpaaDoor
open Go Go.RowKit
attribute [local go_sem ↓] eql_p eql_r neq_p neq_r


set_option maxHeartbeats 1000000 in
theorem combine1_any (a0 a1 b0 b1 : Int) (w : World) (hw : wk b0 b1 ≤ wk a0 a1) [A : Nm a0 a1] [B : Nm b0 b1] : Calls Tryd.prog 36 #[.agg #[.int .i8 a0, .int .i8 a1], .agg #[.int .i8 b0, .int .i8 b1]] w fun e w' => e = .returned (.agg #[.int .i8 (c1Lo a0 a1 b0 b1), .int .i8 (c1Hi a0 a1 b0 b1)]) ∧ Below w.heap.size w w' := by
  have wb : 0 ≤ wk a0 a1 ∧ wk a0 a1 ≤ 7 := by have := A.low; have := A.le; have := A.high; unfold wk; omega
  obtain ⟨wb0, wb1⟩ := wb
  go_enter Tryd.func36, Tryd.ntmps36
  go_wp2_with fail
  refine (weakest_any _ _ _).mono ?_
  rintro e w1 ⟨rfl, hb1⟩

  have oA := (((Own.new w 29 #[.int .i8 a0, .int .i8 a1]).alloc (.cells #[.int .i8 b0, .int .i8 b1] 29)).alloc (.cells #[.int .i8 0, .int .i8 0] 29)).step hb1
  have oB := ((Own.new (w.alloc (.cells #[.int .i8 a0, .int .i8 a1] 29)) 29 #[.int .i8 b0, .int .i8 b1]).alloc (.cells #[.int .i8 0, .int .i8 0] 29)).step hb1
  have oR := (Own.new ((w.alloc (.cells #[.int .i8 a0, .int .i8 a1] 29)).alloc (.cells #[.int .i8 b0, .int .i8 b1] 29)) 29 #[.int .i8 0, .int .i8 0]).step hb1
  simp only [World.size_alloc] at oB oR
  have B1 : Below w.heap.size w w1 := below_step (below_new (below_new (below_new (Below.refl _ _) _) _) _) hb1
  have qB := oB.cell
  go_wp2_with fail
  refine (weakest_any _ _ _).mono ?_
  rintro e w2 ⟨rfl, hb2⟩
  have oA := oA.step hb2
  have oB := oB.step hb2
  have oR := oR.step hb2
  have B2 := below_step B1 hb2
  have H := Lib.hid (And.intro oR (And.intro oA B2))
  have qA := oA.cell
  have qB := oB.cell
  have qR := oR.cell
  have fA := oA.free
  have fR := oR.free
  clear oA oB oR B1 B2 hb1 hb2
  go_wp2
  all_goals
    have hB := H.out.2.2
    refine bodyPost_ret (v := .agg #[.int .i8 (c1Lo a0 a1 b0 b1), .int .i8 (c1Hi a0 a1 b0 b1)]) ?_ rfl ⟨rfl, ?_⟩
    · simp [results, Tryd.results36, go_sem, qR]
      unfold c1Lo c1Hi
      constructor <;> split <;> omega
    · repeat first | exact Below.refl _ _ | assumption | refine below_set ?_ (by simp; try omega) _ | refine below_new ?_ _ | refine below_drewN ?_ _ | refine below_step ?_ (by assumption)
set_option maxHeartbeats 1000000 in
theorem combine_any (a0 a1 b0 b1 : Int) (w : World) [A : Nm a0 a1] [B : Nm b0 b1] : Calls Tryd.prog 36 #[.agg #[.int .i8 a0, .int .i8 a1], .agg #[.int .i8 b0, .int .i8 b1]] w fun e w' => e = .returned (.agg #[.int .i8 (cLo a0 a1 b0 b1), .int .i8 (cHi a0 a1 b0 b1)]) ∧ Below w.heap.size w w' := by
  by_cases hw : wk a0 a1 < wk b0 b1
  · have e1 : cLo a0 a1 b0 b1 = c1Lo b0 b1 a0 a1 := if_pos hw
    have e2 : cHi a0 a1 b0 b1 = c1Hi b0 b1 a0 a1 := if_pos hw
    rw [e1, e2]
    clear e1 e2
    go_enter Tryd.func36, Tryd.ntmps36
    go_wp2_with fail
    refine (weakest_any _ _ _).mono ?_
    rintro e w1 ⟨rfl, hb1⟩
    have oA := (((Own.new w 29 #[.int .i8 a0, .int .i8 a1]).alloc (.cells #[.int .i8 b0, .int .i8 b1] 29)).alloc (.cells #[.int .i8 0, .int .i8 0] 29)).step hb1
    have oB := ((Own.new (w.alloc (.cells #[.int .i8 a0, .int .i8 a1] 29)) 29 #[.int .i8 b0, .int .i8 b1]).alloc (.cells #[.int .i8 0, .int .i8 0] 29)).step hb1
    have oR := (Own.new ((w.alloc (.cells #[.int .i8 a0, .int .i8 a1] 29)).alloc (.cells #[.int .i8 b0, .int .i8 b1] 29)) 29 #[.int .i8 0, .int .i8 0]).step hb1
    simp only [World.size_alloc] at oB oR
    have B1 : Below w.heap.size w w1 := below_step (below_new (below_new (below_new (Below.refl _ _) _) _) _) hb1
    have qB := oB.cell
    go_wp2_with fail
    refine (weakest_any _ _ _).mono ?_
    rintro e w2 ⟨rfl, hb2⟩
    have oA := oA.step hb2
    have oB := oB.step hb2
    have oR := oR.step hb2
    have B2 := below_step B1 hb2
    have H := Lib.hid (And.intro oR B2)
    have qA := oA.cell
    have qB := oB.cell
    clear oA oB oR B1 B2 hb1 hb2
    go_wp2_with fail
    refine (combine1_any _ _ _ _ _ (by omega)).mono ?_
    rintro e w3 ⟨rfl, hb3⟩
    obtain ⟨oR, B2⟩ := H.out
    have oR := oR.step hb3
    have B3 := below_step B2 hb3
    have qR := oR.cell
    have fR := oR.free
    clear oR B2 hb3 qA qB H
    go_wp2
    refine bodyPost_ret (v := .agg #[.int .i8 (c1Lo b0 b1 a0 a1), .int .i8 (c1Hi b0 b1 a0 a1)]) ?_ rfl ⟨rfl, ?_⟩
    · simp [results, Tryd.results36, go_sem, qR]
    · repeat first | exact Below.refl _ _ | assumption | refine below_set ?_ (by simp; try omega) _ | refine below_new ?_ _ | refine below_drewN ?_ _ | refine below_step ?_ (by assumption)
  · have e1 : cLo a0 a1 b0 b1 = c1Lo a0 a1 b0 b1 := if_neg hw
    have e2 : cHi a0 a1 b0 b1 = c1Hi a0 a1 b0 b1 := if_neg hw
    rw [e1, e2]
    exact combine1_any a0 a1 b0 b1 w (by omega)
end Go.Proofs.YtjfhhlbgiepkpaaDoor
