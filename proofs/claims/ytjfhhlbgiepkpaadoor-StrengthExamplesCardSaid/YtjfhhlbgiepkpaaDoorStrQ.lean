/-
  The walk of the statement 'StrengthAlgebra' over the seat's translation. Conditions: the two tables read as the program lays them ('Tb').
-/
import Derived.Test.YtjfhhlbgiepkpaaDoorStrN
import Derived.Test.YtjfhhlbgiepkpaaDoorV
namespace Go.Proofs.YtjfhhlbgiepkpaaDoor
open Go Go.RowKit
attribute [local go_sem ↓] eql_p eql_r neq_p neq_r

theorem wp_calls {P : Program} {Q : Exit → Act → World → Prop} {o : Oper} {a : Act} {w : World} {K : Act → World → Prop} {F : FuncId} {xs : Array Operand} {ats : Array TypeId} {args : Array Value} (ho : o.op = .call { callee := .value (.func F), args := xs, argTypes := ats })
    (hin : ∀ args u, (callFunc F args).run P u = .ok (.enter F args) u) (hx : xs.map a.eval = args) (h : Calls P F args w fun e w' => ∃ v, e = .returned v ∧ K (a.put o.dst v) w') : o.wp P a w K Q := by
  unfold Oper.wp
  obtain ⟨dst, op, ty, pos, after, guard⟩ := o
  simp only at ho
  subst ho
  rw [execOp_call_go, hin, Oper.upon_enter, hx, show (#[] ++ args ++ #[] : Array Value) = args by simp]
  refine h.mono ?_
  rintro e w' ⟨v, rfl, hk⟩
  exact hk
theorem yieldD_of {ds : List (Option Tmp)} {tmps : Array Value} {j : Nat} {d : Tmp} {b : Bool} (hd : ds[j]? = some (some d)) (h : tmps[d]? = some (.bool b)) : yieldD ds tmps j = some b := by
  simp [yieldD, hd, h]
theorem wanted_of {o : Oper} {y : Nat → Option Bool} {j : Nat} {b : Bool} (hg : o.guard = some (j, b)) (h : y j = some b) : Region.wanted o y = true := by
  simp [Region.wanted, hg, h]
theorem if_ok {o : Oper} {y : Nat → Option Bool} {X Y : Prop} (hg : o.guard = none) (h : X) : if Region.wanted o y = true then X else Y := by
  rw [if_pos (by simp [Region.wanted, hg])]
  exact h
theorem if_wanted {o : Oper} {y : Nat → Option Bool} {X Y : Prop} {j : Nat} {b : Bool} (hg : o.guard = some (j, b)) (hy : y j = some b) (h : X) : if Region.wanted o y = true then X else Y := by
  rw [if_pos (wanted_of hg hy)]
  exact h
abbrev Is (c : Value) : Value → World → Prop := fun v _ => v = c
abbrev Sl (n : Nat) (f : Nat → Int × Int) : Value → World → Prop := fun v u => ∃ g : Nat, v = .slice (some ⟨g, 0, none⟩) n n ∧ RdS u (some ⟨g, 0, none⟩) n f
def Stable (S : World → Prop) (V : Value → World → Prop) : Prop := ∀ v u u', S u → Below u.heap.size u u' → V v u → V v u'
theorem st_is {S : World → Prop} {c : Value} : Stable S (Is c) := fun _ _ _ _ _ h => h
theorem st_sl {S : World → Prop} {n : Nat} {f : Nat → Int × Int} : Stable S (Sl n f) := fun _ _ _ _ hb ⟨g, h1, h2⟩ => ⟨g, h1, h2.step hb⟩
theorem st_nil {S : World → Prop} : ∀ V ∈ ([] : List (Value → World → Prop)), Stable S V := fun _ h => by cases h
theorem st_cons {S : World → Prop} {V : Value → World → Prop} {l : List (Value → World → Prop)} (h : Stable S V) (t : ∀ V ∈ l, Stable S V) : ∀ U ∈ V :: l, Stable S U := fun U hU => by
  rcases List.mem_cons.1 hU with rfl | hU
  · exact h
  · exact t U hU
theorem enter_comb (args : Array Value) (u : World) : (callFunc 15 args).run Tryd.prog u = .ok (.enter 15 args) u := by
  simp [callFunc, Tryd.func15, run_program]
  rfl
theorem enter_to (args : Array Value) (u : World) : (callFunc 31 args).run Tryd.prog u = .ok (.enter 31 args) u := by
  simp [callFunc, Tryd.func31, run_program]
  rfl
theorem enter_awake (args : Array Value) (u : World) : (callFunc 13 args).run Tryd.prog u = .ok (.enter 13 args) u := by
  simp [callFunc, Tryd.func13, run_program]
  rfl
/-- What the region keeps. -/
def Sg (w u : World) (b7 b8 b9 b10 : Nat) (a0 a1 b0 b1 d0 d1 s0 s1 : Int) : Prop := Tb u ∧ Own u b7 29 #[.int .i8 a0, .int .i8 a1] ∧ Own u b8 29 #[.int .i8 b0, .int .i8 b1] ∧ Own u b9 29 #[.int .i8 d0, .int .i8 d1] ∧ Own u b10 29 #[.int .i8 s0, .int .i8 s1] ∧ Below w.heap.size w u
theorem Sg.step {w : World} {b7 b8 b9 b10 : Nat} {a0 a1 b0 b1 d0 d1 s0 s1 : Int} (u v : World) (h : Sg w u b7 b8 b9 b10 a0 a1 b0 b1 d0 d1 s0 s1) (hb : Below u.heap.size u v) : Sg w v b7 b8 b9 b10 a0 a1 b0 b1 d0 d1 s0 s1 :=
  ⟨h.1.step hb, h.2.1.step hb, h.2.2.1.step hb, h.2.2.2.1.step hb, h.2.2.2.2.1.step hb, below_step h.2.2.2.2.2 hb⟩

/-- The obligations, one behind the other. -/
def StepsL (P : Program) (Q : Exit → Act → World → Prop) (n : Nat) (D : List Deferred) (S : World → Prop) (os : List (Nat × Value)) (VS : List (Value → World → Prop)) (ds : List (Option Tmp)) : Nat → List Oper → Prop
  | _, [] => True
  | i, o :: r => StepOk P Q n D S os VS ds i o ∧ StepsL P Q n D S os VS ds (i + 1) r
theorem stepsL_get {P : Program} {Q : Exit → Act → World → Prop} {n : Nat} {D : List Deferred} {S : World → Prop} {os : List (Nat × Value)} {VS : List (Value → World → Prop)} {ds : List (Option Tmp)} : ∀ (l : List Oper) (k : Nat), StepsL P Q n D S os VS ds k l → ∀ (i : Nat) (o : Oper), l[i]? = some o → StepOk P Q n D S os VS ds (k + i) o
  | [], _, _, i, o, h => by simp at h
  | x :: l, k, hs, 0, o, h => by simp at h; subst h; exact hs.1
  | x :: l, k, hs, i + 1, o, h => by
    have := stepsL_get l (k + 1) hs.2 i o (by simpa using h)
    rwa [show k + 1 + i = k + (i + 1) by omega] at this
theorem steps_all {P : Program} {ops : Array Oper} {Q : Exit → Act → World → Prop} {n : Nat} {D : List Deferred} {S : World → Prop} {os : List (Nat × Value)} {VS : List (Value → World → Prop)} {ds : List (Option Tmp)} (h : StepsL P Q n D S os VS ds 0 ops.toList) : ∀ i o, ops[i]? = some o → StepOk P Q n D S os VS ds i o := fun i o ho => by
  have := stepsL_get ops.toList 0 h i o (by simpa using ho)
  rwa [Nat.zero_add] at this
def algDS : List (Option Tmp) :=
  [some 19, some 20, some 21, some 22, some 23, some 24, some 25, some 26, some 27, some 28, some 29, some 30, some 31, some 32, some 33, some 34, some 35, some 36, some 37, some 38, some 39, some 40, some 41, some 42, some 43, some 44, some 45, some 46, some 47, some 48, some 49, some 50, some 51, some 52, some 53, some 54, some 55, some 56, some 57, some 58, some 59, some 60, some 61, some 62, some 63, some 64, some 65, some 66, some 67, some 68, some 69, some 70, some 71, some 72, some 73, some 74, some 75, some 76, some 77, some 78, some 6]
def algVS (a0 a1 b0 b1 d0 d1 : Int) : List (Value → World → Prop) :=
  [Is (.agg #[.int .i8 a0, .int .i8 a1]),
    Is (.agg #[.int .i8 b0, .int .i8 b1]),
    Sl 2 (f2 a0 a1 b0 b1),
    Is (.agg #[.int .i8 (fC (f2 a0 a1 b0 b1) 2).1, .int .i8 (fC (f2 a0 a1 b0 b1) 2).2]),
    Is (.agg #[.int .i8 b0, .int .i8 b1]),
    Is (.agg #[.int .i8 a0, .int .i8 a1]),
    Sl 2 (f2 b0 b1 a0 a1),
    Is (.agg #[.int .i8 (fC (f2 a0 a1 b0 b1) 2).1, .int .i8 (fC (f2 a0 a1 b0 b1) 2).2]),
    Is (.bool true),
    Is (.bool true),
    Is (.agg #[.int .i8 d0, .int .i8 d1]),
    Is (.agg #[.int .i8 a0, .int .i8 a1]),
    Is (.agg #[.int .i8 b0, .int .i8 b1]),
    Sl 3 (f3 d0 d1 a0 a1 b0 b1),
    Is (.agg #[.int .i8 (fC (f3 a0 a1 b0 b1 d0 d1) 3).1, .int .i8 (fC (f3 a0 a1 b0 b1 d0 d1) 3).2]),
    Is (.agg #[.int .i8 (fC (f3 a0 a1 b0 b1 d0 d1) 3).1, .int .i8 (fC (f3 a0 a1 b0 b1 d0 d1) 3).2]),
    Is (.bool true),
    Is (.bool true),
    Is (.bool true),
    Is (.agg #[.int .i8 a0, .int .i8 a1]),
    Is (.agg #[.int .i8 b0, .int .i8 b1]),
    Sl 2 (f2 a0 a1 b0 b1),
    Is (.agg #[.int .i8 (fC (f2 a0 a1 b0 b1) 2).1, .int .i8 (fC (f2 a0 a1 b0 b1) 2).2]),
    Is (.agg #[.int .i8 d0, .int .i8 d1]),
    Sl 2 (f2 (fC (f2 a0 a1 b0 b1) 2).1 (fC (f2 a0 a1 b0 b1) 2).2 d0 d1),
    Is (.agg #[.int .i8 (fC (f3 a0 a1 b0 b1 d0 d1) 3).1, .int .i8 (fC (f3 a0 a1 b0 b1 d0 d1) 3).2]),
    Is (.agg #[.int .i8 (fC (f3 a0 a1 b0 b1 d0 d1) 3).1, .int .i8 (fC (f3 a0 a1 b0 b1 d0 d1) 3).2]),
    Is (.bool true),
    Is (.bool true),
    Is (.bool true),
    Is (.agg #[.int .i8 a0, .int .i8 a1]),
    Is (.agg #[.int .i8 b0, .int .i8 b1]),
    Is (.agg #[.int .i8 d0, .int .i8 d1]),
    Sl 2 (f2 b0 b1 d0 d1),
    Is (.agg #[.int .i8 (fC (f2 b0 b1 d0 d1) 2).1, .int .i8 (fC (f2 b0 b1 d0 d1) 2).2]),
    Sl 2 (f2 a0 a1 (fC (f2 b0 b1 d0 d1) 2).1 (fC (f2 b0 b1 d0 d1) 2).2),
    Is (.agg #[.int .i8 (fC (f3 a0 a1 b0 b1 d0 d1) 3).1, .int .i8 (fC (f3 a0 a1 b0 b1 d0 d1) 3).2]),
    Is (.agg #[.int .i8 (fC (f3 a0 a1 b0 b1 d0 d1) 3).1, .int .i8 (fC (f3 a0 a1 b0 b1 d0 d1) 3).2]),
    Is (.bool true),
    Is (.bool true),
    Is (.bool true),
    Is (.agg #[.int .i8 a0, .int .i8 a1]),
    Is (.agg #[.int .i8 0, .int .i8 0]),
    Sl 2 (f2 a0 a1 0 0),
    Is (.agg #[.int .i8 (nLo a0 a1), .int .i8 (nHi a0 a1)]),
    Is (.agg #[.int .i8 a0, .int .i8 a1]),
    Is (.agg #[.int .i8 (nLo a0 a1), .int .i8 (nHi a0 a1)]),
    Is (.bool true),
    Is (.bool true),
    Is (.bool true),
    Is (.agg #[.int .i8 a0, .int .i8 a1]),
    Sl 1 (f1 a0 a1),
    Is (.agg #[.int .i8 (nLo a0 a1), .int .i8 (nHi a0 a1)]),
    Is (.agg #[.int .i8 a0, .int .i8 a1]),
    Is (.agg #[.int .i8 (nLo a0 a1), .int .i8 (nHi a0 a1)]),
    Is (.bool true),
    Is (.bool true),
    Is (.bool true),
    Is (.bool true),
    Is (.bool true),
    Is (.bool true)]
theorem algVS_stable (S : World → Prop) (a0 a1 b0 b1 d0 d1 : Int) : ∀ V ∈ algVS a0 a1 b0 b1 d0 d1, Stable S V :=
  st_cons st_is (st_cons st_is (st_cons st_sl (st_cons st_is (st_cons st_is (st_cons st_is (st_cons st_sl (st_cons st_is (st_cons st_is (st_cons st_is (st_cons st_is (st_cons st_is (st_cons st_is (st_cons st_sl (st_cons st_is (st_cons st_is (st_cons st_is (st_cons st_is (st_cons st_is (st_cons st_is (st_cons st_is (st_cons st_sl (st_cons st_is (st_cons st_is (st_cons st_sl (st_cons st_is (st_cons st_is (st_cons st_is (st_cons st_is (st_cons st_is (st_cons st_is (st_cons st_is (st_cons st_is (st_cons st_sl (st_cons st_is (st_cons st_sl (st_cons st_is (st_cons st_is (st_cons st_is (st_cons st_is (st_cons st_is (st_cons st_is (st_cons st_is (st_cons st_sl (st_cons st_is (st_cons st_is (st_cons st_is (st_cons st_is (st_cons st_is (st_cons st_is (st_cons st_is (st_cons st_sl (st_cons st_is (st_cons st_is (st_cons st_is (st_cons st_is (st_cons st_is (st_cons st_is (st_cons st_is (st_cons st_is (st_cons st_is (st_nil)))))))))))))))))))))))))))))))))))))))))))))))))))))))))))))

set_option maxRecDepth 100000 in
set_option maxHeartbeats 8000000 in
theorem walk_StrengthAlgebra (a0 a1 b0 b1 d0 d1 : Int) (w : World) [T : Tb w] : Calls Tryd.prog 8 #[.agg #[.int .i8 a0, .int .i8 a1], .agg #[.int .i8 b0, .int .i8 b1], .agg #[.int .i8 d0, .int .i8 d1]] w fun e w' => e = .returned (.bool true) ∧ Below w.heap.size w w' := by
  go_enter Tryd.func8, Tryd.ntmps8
  go_upto_region 1 with fail
  go_cut [7, 8, 9] (fun s7 s8 s9 wx => ∃ b7 b8 b9 : Nat, s7 = .pointer (some ⟨b7, 0, none⟩) ∧ s8 = .pointer (some ⟨b8, 0, none⟩) ∧ s9 = .pointer (some ⟨b9, 0, none⟩) ∧ Own wx b7 29 #[.int .i8 a0, .int .i8 a1] ∧ Own wx b8 29 #[.int .i8 b0, .int .i8 b1] ∧ Own wx b9 29 #[.int .i8 d0, .int .i8 d1] ∧ Below w.heap.size w wx)
  case first =>
    go_region
    all_goals
      go_wp2_with fail
      go_meet
      refine ⟨_, _, _, rfl, rfl, rfl, ?_, ?_, ?_, ?_⟩
      · refine Own.drew ?_
        repeat first | exact Own.at _ _ _ (by simp) | refine Own.alloc ?_ _
      · refine Own.drew ?_
        repeat first | exact Own.at _ _ _ (by simp) | refine Own.alloc ?_ _
      · refine Own.drew ?_
        repeat first | exact Own.at _ _ _ (by simp) | refine Own.alloc ?_ _
      · refine Below.drew ?_
        repeat first | exact Below.refl _ _ | refine below_new ?_ _
  case rest =>
    obtain ⟨b7, b8, b9, rfl, rfl, rfl, O7, O8, O9, B⟩ := hcut
    have T0 := Tb.step T B
    have q70 := O7.cell 0
    have q71 := O7.cell 1
    have q80 := O8.cell 0
    have q81 := O8.cell 1
    have q90 := O9.cell 0
    have q91 := O9.cell 1
    have H := Lib.hid (And.intro T0 (And.intro O7 (And.intro O8 (And.intro O9 B))))
    clear O7 O8 O9 B T0 T
    go_wp2_with fail
    refine (Combine_any _ _ _ _ _ (by decide) (Rd3 _ _ _ _ _ _ _ _ (by simp))).mono ?_
    rintro e w1 ⟨rfl, hb⟩
    obtain ⟨T0, O7, O8, O9, B⟩ := H.out
    clear H q70 q71 q80 q81 q90 q91
    replace T0 := T0.step (below_step (below_new (Below.refl _ _) _) hb)
    replace O7 := (O7.alloc _).step hb
    replace O8 := (O8.alloc _).step hb
    replace O9 := (O9.alloc _).step hb
    replace B := below_step (below_new B _) hb
    have r1 := alg1 a0 a1 b0 b1
    have r2 := alg2 a0 a1 b0 b1 d0 d1
    have r3 := alg3 a0 a1 b0 b1 d0 d1
    have r4 := alg4 a0 a1 b0 b1 d0 d1
    have r5 := alg5 a0 a1
    have r6 := fC1 a0 a1
    replace r1 := Lib.hid r1
    replace r2 := Lib.hid r2
    replace r3 := Lib.hid r3
    replace r4 := Lib.hid r4
    replace r5 := Lib.hid r5
    replace r6 := Lib.hid r6
    have H := Lib.hid (show Sg w (w1.alloc (.cells #[.int .i8 (fC (f3 a0 a1 b0 b1 d0 d1) 3).1, .int .i8 (fC (f3 a0 a1 b0 b1 d0 d1) 3).2] 29)) b7 b8 b9 w1.heap.size a0 a1 b0 b1 d0 d1 (fC (f3 a0 a1 b0 b1 d0 d1) 3).1 (fC (f3 a0 a1 b0 b1 d0 d1) 3).2 from
      ⟨T0.step (below_new (Below.refl _ _) _), O7.alloc _, O8.alloc _, O9.alloc _, Own.new _ _ _, below_new B _⟩)
    clear T0 O7 O8 O9 B hb
    go_wp2_with fail
    generalize w1.alloc (.cells #[.int .i8 (fC (f3 a0 a1 b0 b1 d0 d1) 3).1, .int .i8 (fC (f3 a0 a1 b0 b1 d0 d1) 3).2] 29) = W5 at *
    generalize w1.heap.size = b10 at *
    have hM : ∀ u v, Sg w u b7 b8 b9 b10 a0 a1 b0 b1 d0 d1 (fC (f3 a0 a1 b0 b1 d0 d1) 3).1 (fC (f3 a0 a1 b0 b1 d0 d1) 3).2 → Below u.heap.size u v → Sg w v b7 b8 b9 b10 a0 a1 b0 b1 d0 d1 (fC (f3 a0 a1 b0 b1 d0 d1) 3).1 (fC (f3 a0 a1 b0 b1 d0 d1) 3).2 := Sg.step
    replace r1 := r1.out
    replace r2 := r2.out
    replace r3 := r3.out
    replace r4 := r4.out
    replace r5 := r5.out
    replace r6 := r6.out
    refine region_v (by kernel_rfl) (fun u => Sg w u b7 b8 b9 b10 a0 a1 b0 b1 d0 d1 (fC (f3 a0 a1 b0 b1 d0 d1) 3).1 (fC (f3 a0 a1 b0 b1 d0 d1) 3).2)
      [(7, .pointer (some ⟨b7, 0, none⟩)), (8, .pointer (some ⟨b8, 0, none⟩)), (9, .pointer (some ⟨b9, 0, none⟩)), (10, .pointer (some ⟨b10, 0, none⟩))]
      (algVS a0 a1 b0 b1 d0 d1) algDS
      (by kernel_rfl) rfl (by kernel_rfl) (by kernel_rfl) (by kernel_rfl) (by kernel_rfl) (hM _ _ H.out (below_drewN (Below.refl _ _) 1)) (by intro p hp; simp at hp; rcases hp with rfl | rfl | rfl | rfl <;> rfl) ?mono (steps_all ?steps) ?fin
    case mono => exact algVS_stable _ _ _ _ _ _ _
    case steps =>
      refine ⟨?_, ?_⟩
      · intro a w hsz hdf hS hO hF K hK
        have h7 := hO (7, .pointer (some ⟨b7, 0, none⟩)) (by simp)
        clear hO hF hsz hdf
        refine if_ok (by rfl) ?_
        refine wp_load_row 29 (.tmp 7) rfl b7 (ev h7) 29 _ (0, 0) _ (hS.2.1) Tryd.underlying29 rfl (by kernel_rfl) ?_
        exact hK _ w (fun h => by cases h) (Below.refl _ _) hS rfl
      refine ⟨?_, ?_⟩
      · intro a w hsz hdf hS hO hF K hK
        have h8 := hO (8, .pointer (some ⟨b8, 0, none⟩)) (by simp)
        clear hO hF hsz hdf
        refine if_ok (by rfl) ?_
        refine wp_load_row 29 (.tmp 8) rfl b8 (ev h8) 29 _ (0, 0) _ (hS.2.2.1) Tryd.underlying29 rfl (by kernel_rfl) ?_
        exact hK _ w (fun h => by cases h) (Below.refl _ _) hS rfl
      refine ⟨?_, ?_⟩
      · intro a w hsz hdf hS hO hF K hK
        obtain ⟨_, f0, rfl⟩ := (hF 0 (by decide)).1 19 _ rfl rfl
        obtain ⟨_, f1, rfl⟩ := (hF 1 (by decide)).1 20 _ rfl rfl
        clear hO hF hsz hdf
        refine if_ok (by rfl) ?_
        go_simp
        exact hK _ _ (fun h => by cases h) (below_new (Below.refl _ _) _) (hM _ _ hS (below_new (Below.refl _ _) _)) ⟨_, rfl, Rd2 _ _ _ _ _ _ rfl⟩
      refine ⟨?_, ?_⟩
      · intro a w hsz hdf hS hO hF K hK
        obtain ⟨_, f2, g2, rfl, hr2⟩ := (hF 2 (by decide)).1 21 _ rfl rfl
        clear hO hF hsz hdf
        refine if_ok (by rfl) ?_
        refine wp_calls rfl enter_comb (show _ = #[.slice (some ⟨g2, 0, none⟩) 2 2] by simp [Act.eval, f2]) ?_
        refine (Combine_any _ _ _ _ _ (by decide) hr2).mono ?_
        rintro e w' ⟨rfl, hb⟩
        exact ⟨_, rfl, hK _ w' (fun h => by cases h) hb (hM _ _ hS hb) rfl⟩
      refine ⟨?_, ?_⟩
      · intro a w hsz hdf hS hO hF K hK
        have h8 := hO (8, .pointer (some ⟨b8, 0, none⟩)) (by simp)
        clear hO hF hsz hdf
        refine if_ok (by rfl) ?_
        refine wp_load_row 29 (.tmp 8) rfl b8 (ev h8) 29 _ (0, 0) _ (hS.2.2.1) Tryd.underlying29 rfl (by kernel_rfl) ?_
        exact hK _ w (fun h => by cases h) (Below.refl _ _) hS rfl
      refine ⟨?_, ?_⟩
      · intro a w hsz hdf hS hO hF K hK
        have h7 := hO (7, .pointer (some ⟨b7, 0, none⟩)) (by simp)
        clear hO hF hsz hdf
        refine if_ok (by rfl) ?_
        refine wp_load_row 29 (.tmp 7) rfl b7 (ev h7) 29 _ (0, 0) _ (hS.2.1) Tryd.underlying29 rfl (by kernel_rfl) ?_
        exact hK _ w (fun h => by cases h) (Below.refl _ _) hS rfl
      refine ⟨?_, ?_⟩
      · intro a w hsz hdf hS hO hF K hK
        obtain ⟨_, f4, rfl⟩ := (hF 4 (by decide)).1 23 _ rfl rfl
        obtain ⟨_, f5, rfl⟩ := (hF 5 (by decide)).1 24 _ rfl rfl
        clear hO hF hsz hdf
        refine if_ok (by rfl) ?_
        go_simp
        exact hK _ _ (fun h => by cases h) (below_new (Below.refl _ _) _) (hM _ _ hS (below_new (Below.refl _ _) _)) ⟨_, rfl, Rd2 _ _ _ _ _ _ rfl⟩
      refine ⟨?_, ?_⟩
      · intro a w hsz hdf hS hO hF K hK
        obtain ⟨_, f6, g6, rfl, hr6⟩ := (hF 6 (by decide)).1 25 _ rfl rfl
        clear hO hF hsz hdf
        refine if_ok (by rfl) ?_
        refine wp_calls rfl enter_comb (show _ = #[.slice (some ⟨g6, 0, none⟩) 2 2] by simp [Act.eval, f6]) ?_
        refine (Combine_any _ _ _ _ _ (by decide) hr6).mono ?_
        rintro e w' ⟨rfl, hb⟩
        exact ⟨_, rfl, hK _ w' (fun h => by cases h) hb (hM _ _ hS hb) (by change _ = _; simp only [r1])⟩
      refine ⟨?_, ?_⟩
      · intro a w hsz hdf hS hO hF K hK
        obtain ⟨_, f3, rfl⟩ := (hF 3 (by decide)).1 22 _ rfl rfl
        obtain ⟨_, f7, rfl⟩ := (hF 7 (by decide)).1 26 _ rfl rfl
        clear hO hF hsz hdf
        refine if_ok (by rfl) ?_
        go_simp
        exact hK _ w (fun h => by cases h) (Below.refl _ _) hS rfl
      refine ⟨?_, ?_⟩
      · intro a w hsz hdf hS hO hF K hK
        obtain ⟨_, f8, rfl⟩ := (hF 8 (by decide)).1 27 _ rfl rfl
        clear hO hF hsz hdf
        refine if_ok (by rfl) ?_
        go_simp
        exact hK _ w (fun h => by cases h) (Below.refl _ _) hS rfl
      refine ⟨?_, ?_⟩
      · intro a w hsz hdf hS hO hF K hK
        obtain ⟨_, f9, rfl⟩ := (hF 9 (by decide)).1 28 _ rfl rfl
        have h9 := hO (9, .pointer (some ⟨b9, 0, none⟩)) (by simp)
        clear hO hF hsz hdf
        refine if_wanted (j := 9) (b := true) rfl (yieldD_of (d := 28) rfl f9) ?_
        refine wp_load_row 29 (.tmp 9) rfl b9 (ev h9) 29 _ (0, 0) _ (hS.2.2.2.1) Tryd.underlying29 rfl (by kernel_rfl) ?_
        exact hK _ w (fun h => by cases h) (Below.refl _ _) hS rfl
      refine ⟨?_, ?_⟩
      · intro a w hsz hdf hS hO hF K hK
        obtain ⟨_, f9, rfl⟩ := (hF 9 (by decide)).1 28 _ rfl rfl
        have h7 := hO (7, .pointer (some ⟨b7, 0, none⟩)) (by simp)
        clear hO hF hsz hdf
        refine if_wanted (j := 9) (b := true) rfl (yieldD_of (d := 28) rfl f9) ?_
        refine wp_load_row 29 (.tmp 7) rfl b7 (ev h7) 29 _ (0, 0) _ (hS.2.1) Tryd.underlying29 rfl (by kernel_rfl) ?_
        exact hK _ w (fun h => by cases h) (Below.refl _ _) hS rfl
      refine ⟨?_, ?_⟩
      · intro a w hsz hdf hS hO hF K hK
        obtain ⟨_, f9, rfl⟩ := (hF 9 (by decide)).1 28 _ rfl rfl
        have h8 := hO (8, .pointer (some ⟨b8, 0, none⟩)) (by simp)
        clear hO hF hsz hdf
        refine if_wanted (j := 9) (b := true) rfl (yieldD_of (d := 28) rfl f9) ?_
        refine wp_load_row 29 (.tmp 8) rfl b8 (ev h8) 29 _ (0, 0) _ (hS.2.2.1) Tryd.underlying29 rfl (by kernel_rfl) ?_
        exact hK _ w (fun h => by cases h) (Below.refl _ _) hS rfl
      refine ⟨?_, ?_⟩
      · intro a w hsz hdf hS hO hF K hK
        obtain ⟨_, f10, rfl⟩ := (hF 10 (by decide)).1 29 _ rfl rfl
        obtain ⟨_, f11, rfl⟩ := (hF 11 (by decide)).1 30 _ rfl rfl
        obtain ⟨_, f12, rfl⟩ := (hF 12 (by decide)).1 31 _ rfl rfl
        obtain ⟨_, f9, rfl⟩ := (hF 9 (by decide)).1 28 _ rfl rfl
        clear hO hF hsz hdf
        refine if_wanted (j := 9) (b := true) rfl (yieldD_of (d := 28) rfl f9) ?_
        go_simp
        exact hK _ _ (fun h => by cases h) (below_new (Below.refl _ _) _) (hM _ _ hS (below_new (Below.refl _ _) _)) ⟨_, rfl, Rd3 _ _ _ _ _ _ _ _ rfl⟩
      refine ⟨?_, ?_⟩
      · intro a w hsz hdf hS hO hF K hK
        obtain ⟨_, f13, g13, rfl, hr13⟩ := (hF 13 (by decide)).1 32 _ rfl rfl
        obtain ⟨_, f9, rfl⟩ := (hF 9 (by decide)).1 28 _ rfl rfl
        clear hO hF hsz hdf
        refine if_wanted (j := 9) (b := true) rfl (yieldD_of (d := 28) rfl f9) ?_
        refine wp_calls rfl enter_comb (show _ = #[.slice (some ⟨g13, 0, none⟩) 3 3] by simp [Act.eval, f13]) ?_
        refine (Combine_any _ _ _ _ _ (by decide) hr13).mono ?_
        rintro e w' ⟨rfl, hb⟩
        exact ⟨_, rfl, hK _ w' (fun h => by cases h) hb (hM _ _ hS hb) (by change _ = _; simp only [r2])⟩
      refine ⟨?_, ?_⟩
      · intro a w hsz hdf hS hO hF K hK
        obtain ⟨_, f9, rfl⟩ := (hF 9 (by decide)).1 28 _ rfl rfl
        have h10 := hO (10, .pointer (some ⟨b10, 0, none⟩)) (by simp)
        clear hO hF hsz hdf
        refine if_wanted (j := 9) (b := true) rfl (yieldD_of (d := 28) rfl f9) ?_
        refine wp_load_row 29 (.tmp 10) rfl b10 (ev h10) 29 _ (0, 0) _ (hS.2.2.2.2.1) Tryd.underlying29 rfl (by kernel_rfl) ?_
        exact hK _ w (fun h => by cases h) (Below.refl _ _) hS rfl
      refine ⟨?_, ?_⟩
      · intro a w hsz hdf hS hO hF K hK
        obtain ⟨_, f14, rfl⟩ := (hF 14 (by decide)).1 33 _ rfl rfl
        obtain ⟨_, f15, rfl⟩ := (hF 15 (by decide)).1 34 _ rfl rfl
        obtain ⟨_, f9, rfl⟩ := (hF 9 (by decide)).1 28 _ rfl rfl
        clear hO hF hsz hdf
        refine if_wanted (j := 9) (b := true) rfl (yieldD_of (d := 28) rfl f9) ?_
        go_simp
        exact hK _ w (fun h => by cases h) (Below.refl _ _) hS rfl
      refine ⟨?_, ?_⟩
      · intro a w hsz hdf hS hO hF K hK
        obtain ⟨_, f9, rfl⟩ := (hF 9 (by decide)).1 28 _ rfl rfl
        obtain ⟨_, f16, rfl⟩ := (hF 16 (by decide)).1 35 _ rfl rfl
        clear hO hF hsz hdf
        refine if_ok (by rfl) ?_
        go_simp
        exact hK _ w (fun h => by cases h) (Below.refl _ _) hS rfl
      refine ⟨?_, ?_⟩
      · intro a w hsz hdf hS hO hF K hK
        obtain ⟨_, f17, rfl⟩ := (hF 17 (by decide)).1 36 _ rfl rfl
        clear hO hF hsz hdf
        refine if_ok (by rfl) ?_
        go_simp
        exact hK _ w (fun h => by cases h) (Below.refl _ _) hS rfl
      refine ⟨?_, ?_⟩
      · intro a w hsz hdf hS hO hF K hK
        obtain ⟨_, f18, rfl⟩ := (hF 18 (by decide)).1 37 _ rfl rfl
        have h7 := hO (7, .pointer (some ⟨b7, 0, none⟩)) (by simp)
        clear hO hF hsz hdf
        refine if_wanted (j := 18) (b := true) rfl (yieldD_of (d := 37) rfl f18) ?_
        refine wp_load_row 29 (.tmp 7) rfl b7 (ev h7) 29 _ (0, 0) _ (hS.2.1) Tryd.underlying29 rfl (by kernel_rfl) ?_
        exact hK _ w (fun h => by cases h) (Below.refl _ _) hS rfl
      refine ⟨?_, ?_⟩
      · intro a w hsz hdf hS hO hF K hK
        obtain ⟨_, f18, rfl⟩ := (hF 18 (by decide)).1 37 _ rfl rfl
        have h8 := hO (8, .pointer (some ⟨b8, 0, none⟩)) (by simp)
        clear hO hF hsz hdf
        refine if_wanted (j := 18) (b := true) rfl (yieldD_of (d := 37) rfl f18) ?_
        refine wp_load_row 29 (.tmp 8) rfl b8 (ev h8) 29 _ (0, 0) _ (hS.2.2.1) Tryd.underlying29 rfl (by kernel_rfl) ?_
        exact hK _ w (fun h => by cases h) (Below.refl _ _) hS rfl
      refine ⟨?_, ?_⟩
      · intro a w hsz hdf hS hO hF K hK
        obtain ⟨_, f19, rfl⟩ := (hF 19 (by decide)).1 38 _ rfl rfl
        obtain ⟨_, f20, rfl⟩ := (hF 20 (by decide)).1 39 _ rfl rfl
        obtain ⟨_, f18, rfl⟩ := (hF 18 (by decide)).1 37 _ rfl rfl
        clear hO hF hsz hdf
        refine if_wanted (j := 18) (b := true) rfl (yieldD_of (d := 37) rfl f18) ?_
        go_simp
        exact hK _ _ (fun h => by cases h) (below_new (Below.refl _ _) _) (hM _ _ hS (below_new (Below.refl _ _) _)) ⟨_, rfl, Rd2 _ _ _ _ _ _ rfl⟩
      refine ⟨?_, ?_⟩
      · intro a w hsz hdf hS hO hF K hK
        obtain ⟨_, f21, g21, rfl, hr21⟩ := (hF 21 (by decide)).1 40 _ rfl rfl
        obtain ⟨_, f18, rfl⟩ := (hF 18 (by decide)).1 37 _ rfl rfl
        clear hO hF hsz hdf
        refine if_wanted (j := 18) (b := true) rfl (yieldD_of (d := 37) rfl f18) ?_
        refine wp_calls rfl enter_comb (show _ = #[.slice (some ⟨g21, 0, none⟩) 2 2] by simp [Act.eval, f21]) ?_
        refine (Combine_any _ _ _ _ _ (by decide) hr21).mono ?_
        rintro e w' ⟨rfl, hb⟩
        exact ⟨_, rfl, hK _ w' (fun h => by cases h) hb (hM _ _ hS hb) rfl⟩
      refine ⟨?_, ?_⟩
      · intro a w hsz hdf hS hO hF K hK
        obtain ⟨_, f18, rfl⟩ := (hF 18 (by decide)).1 37 _ rfl rfl
        have h9 := hO (9, .pointer (some ⟨b9, 0, none⟩)) (by simp)
        clear hO hF hsz hdf
        refine if_wanted (j := 18) (b := true) rfl (yieldD_of (d := 37) rfl f18) ?_
        refine wp_load_row 29 (.tmp 9) rfl b9 (ev h9) 29 _ (0, 0) _ (hS.2.2.2.1) Tryd.underlying29 rfl (by kernel_rfl) ?_
        exact hK _ w (fun h => by cases h) (Below.refl _ _) hS rfl
      refine ⟨?_, ?_⟩
      · intro a w hsz hdf hS hO hF K hK
        obtain ⟨_, f22, rfl⟩ := (hF 22 (by decide)).1 41 _ rfl rfl
        obtain ⟨_, f23, rfl⟩ := (hF 23 (by decide)).1 42 _ rfl rfl
        obtain ⟨_, f18, rfl⟩ := (hF 18 (by decide)).1 37 _ rfl rfl
        clear hO hF hsz hdf
        refine if_wanted (j := 18) (b := true) rfl (yieldD_of (d := 37) rfl f18) ?_
        go_simp
        exact hK _ _ (fun h => by cases h) (below_new (Below.refl _ _) _) (hM _ _ hS (below_new (Below.refl _ _) _)) ⟨_, rfl, Rd2 _ _ _ _ _ _ rfl⟩
      refine ⟨?_, ?_⟩
      · intro a w hsz hdf hS hO hF K hK
        obtain ⟨_, f24, g24, rfl, hr24⟩ := (hF 24 (by decide)).1 43 _ rfl rfl
        obtain ⟨_, f18, rfl⟩ := (hF 18 (by decide)).1 37 _ rfl rfl
        clear hO hF hsz hdf
        refine if_wanted (j := 18) (b := true) rfl (yieldD_of (d := 37) rfl f18) ?_
        refine wp_calls rfl enter_comb (show _ = #[.slice (some ⟨g24, 0, none⟩) 2 2] by simp [Act.eval, f24]) ?_
        refine (Combine_any _ _ _ _ _ (by decide) hr24).mono ?_
        rintro e w' ⟨rfl, hb⟩
        exact ⟨_, rfl, hK _ w' (fun h => by cases h) hb (hM _ _ hS hb) (by change _ = _; simp only [r3])⟩
      refine ⟨?_, ?_⟩
      · intro a w hsz hdf hS hO hF K hK
        obtain ⟨_, f18, rfl⟩ := (hF 18 (by decide)).1 37 _ rfl rfl
        have h10 := hO (10, .pointer (some ⟨b10, 0, none⟩)) (by simp)
        clear hO hF hsz hdf
        refine if_wanted (j := 18) (b := true) rfl (yieldD_of (d := 37) rfl f18) ?_
        refine wp_load_row 29 (.tmp 10) rfl b10 (ev h10) 29 _ (0, 0) _ (hS.2.2.2.2.1) Tryd.underlying29 rfl (by kernel_rfl) ?_
        exact hK _ w (fun h => by cases h) (Below.refl _ _) hS rfl
      refine ⟨?_, ?_⟩
      · intro a w hsz hdf hS hO hF K hK
        obtain ⟨_, f25, rfl⟩ := (hF 25 (by decide)).1 44 _ rfl rfl
        obtain ⟨_, f26, rfl⟩ := (hF 26 (by decide)).1 45 _ rfl rfl
        obtain ⟨_, f18, rfl⟩ := (hF 18 (by decide)).1 37 _ rfl rfl
        clear hO hF hsz hdf
        refine if_wanted (j := 18) (b := true) rfl (yieldD_of (d := 37) rfl f18) ?_
        go_simp
        exact hK _ w (fun h => by cases h) (Below.refl _ _) hS rfl
      refine ⟨?_, ?_⟩
      · intro a w hsz hdf hS hO hF K hK
        obtain ⟨_, f18, rfl⟩ := (hF 18 (by decide)).1 37 _ rfl rfl
        obtain ⟨_, f27, rfl⟩ := (hF 27 (by decide)).1 46 _ rfl rfl
        clear hO hF hsz hdf
        refine if_ok (by rfl) ?_
        go_simp
        exact hK _ w (fun h => by cases h) (Below.refl _ _) hS rfl
      refine ⟨?_, ?_⟩
      · intro a w hsz hdf hS hO hF K hK
        obtain ⟨_, f28, rfl⟩ := (hF 28 (by decide)).1 47 _ rfl rfl
        clear hO hF hsz hdf
        refine if_ok (by rfl) ?_
        go_simp
        exact hK _ w (fun h => by cases h) (Below.refl _ _) hS rfl
      refine ⟨?_, ?_⟩
      · intro a w hsz hdf hS hO hF K hK
        obtain ⟨_, f29, rfl⟩ := (hF 29 (by decide)).1 48 _ rfl rfl
        have h7 := hO (7, .pointer (some ⟨b7, 0, none⟩)) (by simp)
        clear hO hF hsz hdf
        refine if_wanted (j := 29) (b := true) rfl (yieldD_of (d := 48) rfl f29) ?_
        refine wp_load_row 29 (.tmp 7) rfl b7 (ev h7) 29 _ (0, 0) _ (hS.2.1) Tryd.underlying29 rfl (by kernel_rfl) ?_
        exact hK _ w (fun h => by cases h) (Below.refl _ _) hS rfl
      refine ⟨?_, ?_⟩
      · intro a w hsz hdf hS hO hF K hK
        obtain ⟨_, f29, rfl⟩ := (hF 29 (by decide)).1 48 _ rfl rfl
        have h8 := hO (8, .pointer (some ⟨b8, 0, none⟩)) (by simp)
        clear hO hF hsz hdf
        refine if_wanted (j := 29) (b := true) rfl (yieldD_of (d := 48) rfl f29) ?_
        refine wp_load_row 29 (.tmp 8) rfl b8 (ev h8) 29 _ (0, 0) _ (hS.2.2.1) Tryd.underlying29 rfl (by kernel_rfl) ?_
        exact hK _ w (fun h => by cases h) (Below.refl _ _) hS rfl
      refine ⟨?_, ?_⟩
      · intro a w hsz hdf hS hO hF K hK
        obtain ⟨_, f29, rfl⟩ := (hF 29 (by decide)).1 48 _ rfl rfl
        have h9 := hO (9, .pointer (some ⟨b9, 0, none⟩)) (by simp)
        clear hO hF hsz hdf
        refine if_wanted (j := 29) (b := true) rfl (yieldD_of (d := 48) rfl f29) ?_
        refine wp_load_row 29 (.tmp 9) rfl b9 (ev h9) 29 _ (0, 0) _ (hS.2.2.2.1) Tryd.underlying29 rfl (by kernel_rfl) ?_
        exact hK _ w (fun h => by cases h) (Below.refl _ _) hS rfl
      refine ⟨?_, ?_⟩
      · intro a w hsz hdf hS hO hF K hK
        obtain ⟨_, f31, rfl⟩ := (hF 31 (by decide)).1 50 _ rfl rfl
        obtain ⟨_, f32, rfl⟩ := (hF 32 (by decide)).1 51 _ rfl rfl
        obtain ⟨_, f29, rfl⟩ := (hF 29 (by decide)).1 48 _ rfl rfl
        clear hO hF hsz hdf
        refine if_wanted (j := 29) (b := true) rfl (yieldD_of (d := 48) rfl f29) ?_
        go_simp
        exact hK _ _ (fun h => by cases h) (below_new (Below.refl _ _) _) (hM _ _ hS (below_new (Below.refl _ _) _)) ⟨_, rfl, Rd2 _ _ _ _ _ _ rfl⟩
      refine ⟨?_, ?_⟩
      · intro a w hsz hdf hS hO hF K hK
        obtain ⟨_, f33, g33, rfl, hr33⟩ := (hF 33 (by decide)).1 52 _ rfl rfl
        obtain ⟨_, f29, rfl⟩ := (hF 29 (by decide)).1 48 _ rfl rfl
        clear hO hF hsz hdf
        refine if_wanted (j := 29) (b := true) rfl (yieldD_of (d := 48) rfl f29) ?_
        refine wp_calls rfl enter_comb (show _ = #[.slice (some ⟨g33, 0, none⟩) 2 2] by simp [Act.eval, f33]) ?_
        refine (Combine_any _ _ _ _ _ (by decide) hr33).mono ?_
        rintro e w' ⟨rfl, hb⟩
        exact ⟨_, rfl, hK _ w' (fun h => by cases h) hb (hM _ _ hS hb) rfl⟩
      refine ⟨?_, ?_⟩
      · intro a w hsz hdf hS hO hF K hK
        obtain ⟨_, f30, rfl⟩ := (hF 30 (by decide)).1 49 _ rfl rfl
        obtain ⟨_, f34, rfl⟩ := (hF 34 (by decide)).1 53 _ rfl rfl
        obtain ⟨_, f29, rfl⟩ := (hF 29 (by decide)).1 48 _ rfl rfl
        clear hO hF hsz hdf
        refine if_wanted (j := 29) (b := true) rfl (yieldD_of (d := 48) rfl f29) ?_
        go_simp
        exact hK _ _ (fun h => by cases h) (below_new (Below.refl _ _) _) (hM _ _ hS (below_new (Below.refl _ _) _)) ⟨_, rfl, Rd2 _ _ _ _ _ _ rfl⟩
      refine ⟨?_, ?_⟩
      · intro a w hsz hdf hS hO hF K hK
        obtain ⟨_, f35, g35, rfl, hr35⟩ := (hF 35 (by decide)).1 54 _ rfl rfl
        obtain ⟨_, f29, rfl⟩ := (hF 29 (by decide)).1 48 _ rfl rfl
        clear hO hF hsz hdf
        refine if_wanted (j := 29) (b := true) rfl (yieldD_of (d := 48) rfl f29) ?_
        refine wp_calls rfl enter_comb (show _ = #[.slice (some ⟨g35, 0, none⟩) 2 2] by simp [Act.eval, f35]) ?_
        refine (Combine_any _ _ _ _ _ (by decide) hr35).mono ?_
        rintro e w' ⟨rfl, hb⟩
        exact ⟨_, rfl, hK _ w' (fun h => by cases h) hb (hM _ _ hS hb) (by change _ = _; simp only [r4])⟩
      refine ⟨?_, ?_⟩
      · intro a w hsz hdf hS hO hF K hK
        obtain ⟨_, f29, rfl⟩ := (hF 29 (by decide)).1 48 _ rfl rfl
        have h10 := hO (10, .pointer (some ⟨b10, 0, none⟩)) (by simp)
        clear hO hF hsz hdf
        refine if_wanted (j := 29) (b := true) rfl (yieldD_of (d := 48) rfl f29) ?_
        refine wp_load_row 29 (.tmp 10) rfl b10 (ev h10) 29 _ (0, 0) _ (hS.2.2.2.2.1) Tryd.underlying29 rfl (by kernel_rfl) ?_
        exact hK _ w (fun h => by cases h) (Below.refl _ _) hS rfl
      refine ⟨?_, ?_⟩
      · intro a w hsz hdf hS hO hF K hK
        obtain ⟨_, f36, rfl⟩ := (hF 36 (by decide)).1 55 _ rfl rfl
        obtain ⟨_, f37, rfl⟩ := (hF 37 (by decide)).1 56 _ rfl rfl
        obtain ⟨_, f29, rfl⟩ := (hF 29 (by decide)).1 48 _ rfl rfl
        clear hO hF hsz hdf
        refine if_wanted (j := 29) (b := true) rfl (yieldD_of (d := 48) rfl f29) ?_
        go_simp
        exact hK _ w (fun h => by cases h) (Below.refl _ _) hS rfl
      refine ⟨?_, ?_⟩
      · intro a w hsz hdf hS hO hF K hK
        obtain ⟨_, f29, rfl⟩ := (hF 29 (by decide)).1 48 _ rfl rfl
        obtain ⟨_, f38, rfl⟩ := (hF 38 (by decide)).1 57 _ rfl rfl
        clear hO hF hsz hdf
        refine if_ok (by rfl) ?_
        go_simp
        exact hK _ w (fun h => by cases h) (Below.refl _ _) hS rfl
      refine ⟨?_, ?_⟩
      · intro a w hsz hdf hS hO hF K hK
        obtain ⟨_, f39, rfl⟩ := (hF 39 (by decide)).1 58 _ rfl rfl
        clear hO hF hsz hdf
        refine if_ok (by rfl) ?_
        go_simp
        exact hK _ w (fun h => by cases h) (Below.refl _ _) hS rfl
      refine ⟨?_, ?_⟩
      · intro a w hsz hdf hS hO hF K hK
        obtain ⟨_, f40, rfl⟩ := (hF 40 (by decide)).1 59 _ rfl rfl
        have h7 := hO (7, .pointer (some ⟨b7, 0, none⟩)) (by simp)
        clear hO hF hsz hdf
        refine if_wanted (j := 40) (b := true) rfl (yieldD_of (d := 59) rfl f40) ?_
        refine wp_load_row 29 (.tmp 7) rfl b7 (ev h7) 29 _ (0, 0) _ (hS.2.1) Tryd.underlying29 rfl (by kernel_rfl) ?_
        exact hK _ w (fun h => by cases h) (Below.refl _ _) hS rfl
      refine ⟨?_, ?_⟩
      · intro a w hsz hdf hS hO hF K hK
        obtain ⟨_, f40, rfl⟩ := (hF 40 (by decide)).1 59 _ rfl rfl
        clear hO hF hsz hdf
        refine if_wanted (j := 40) (b := true) rfl (yieldD_of (d := 59) rfl f40) ?_
        refine wp_calls rfl enter_to (show _ = #[.int .i8 0, .int .i8 0] by simp [Act.eval]) ?_
        refine (to_any _ _ _).mono ?_
        rintro e w' ⟨rfl, hb⟩
        exact ⟨_, rfl, hK _ w' (fun h => by cases h) hb (hM _ _ hS hb) rfl⟩
      refine ⟨?_, ?_⟩
      · intro a w hsz hdf hS hO hF K hK
        obtain ⟨_, f41, rfl⟩ := (hF 41 (by decide)).1 60 _ rfl rfl
        obtain ⟨_, f42, rfl⟩ := (hF 42 (by decide)).1 61 _ rfl rfl
        obtain ⟨_, f40, rfl⟩ := (hF 40 (by decide)).1 59 _ rfl rfl
        clear hO hF hsz hdf
        refine if_wanted (j := 40) (b := true) rfl (yieldD_of (d := 59) rfl f40) ?_
        go_simp
        exact hK _ _ (fun h => by cases h) (below_new (Below.refl _ _) _) (hM _ _ hS (below_new (Below.refl _ _) _)) ⟨_, rfl, Rd2 _ _ _ _ _ _ rfl⟩
      refine ⟨?_, ?_⟩
      · intro a w hsz hdf hS hO hF K hK
        obtain ⟨_, f43, g43, rfl, hr43⟩ := (hF 43 (by decide)).1 62 _ rfl rfl
        obtain ⟨_, f40, rfl⟩ := (hF 40 (by decide)).1 59 _ rfl rfl
        clear hO hF hsz hdf
        refine if_wanted (j := 40) (b := true) rfl (yieldD_of (d := 59) rfl f40) ?_
        refine wp_calls rfl enter_comb (show _ = #[.slice (some ⟨g43, 0, none⟩) 2 2] by simp [Act.eval, f43]) ?_
        refine (Combine_any _ _ _ _ _ (by decide) hr43).mono ?_
        rintro e w' ⟨rfl, hb⟩
        exact ⟨_, rfl, hK _ w' (fun h => by cases h) hb (hM _ _ hS hb) (by change _ = _; simp only [r5])⟩
      refine ⟨?_, ?_⟩
      · intro a w hsz hdf hS hO hF K hK
        obtain ⟨_, f40, rfl⟩ := (hF 40 (by decide)).1 59 _ rfl rfl
        have h7 := hO (7, .pointer (some ⟨b7, 0, none⟩)) (by simp)
        clear hO hF hsz hdf
        refine if_wanted (j := 40) (b := true) rfl (yieldD_of (d := 59) rfl f40) ?_
        refine wp_load_row 29 (.tmp 7) rfl b7 (ev h7) 29 _ (0, 0) _ (hS.2.1) Tryd.underlying29 rfl (by kernel_rfl) ?_
        exact hK _ w (fun h => by cases h) (Below.refl _ _) hS rfl
      refine ⟨?_, ?_⟩
      · intro a w hsz hdf hS hO hF K hK
        obtain ⟨_, f45, rfl⟩ := (hF 45 (by decide)).1 64 _ rfl rfl
        obtain ⟨_, f40, rfl⟩ := (hF 40 (by decide)).1 59 _ rfl rfl
        clear hO hF hsz hdf
        refine if_wanted (j := 40) (b := true) rfl (yieldD_of (d := 59) rfl f40) ?_
        refine wp_calls rfl enter_norm (show _ = #[.agg #[.int .i8 a0, .int .i8 a1]] by simp [Act.eval, f45]) ?_
        refine (norm_any _ _ _).mono ?_
        rintro e w' ⟨rfl, hb⟩
        exact ⟨_, rfl, hK _ w' (fun h => by cases h) hb (hM _ _ hS hb) rfl⟩
      refine ⟨?_, ?_⟩
      · intro a w hsz hdf hS hO hF K hK
        obtain ⟨_, f44, rfl⟩ := (hF 44 (by decide)).1 63 _ rfl rfl
        obtain ⟨_, f46, rfl⟩ := (hF 46 (by decide)).1 65 _ rfl rfl
        obtain ⟨_, f40, rfl⟩ := (hF 40 (by decide)).1 59 _ rfl rfl
        clear hO hF hsz hdf
        refine if_wanted (j := 40) (b := true) rfl (yieldD_of (d := 59) rfl f40) ?_
        go_simp
        exact hK _ w (fun h => by cases h) (Below.refl _ _) hS rfl
      refine ⟨?_, ?_⟩
      · intro a w hsz hdf hS hO hF K hK
        obtain ⟨_, f40, rfl⟩ := (hF 40 (by decide)).1 59 _ rfl rfl
        obtain ⟨_, f47, rfl⟩ := (hF 47 (by decide)).1 66 _ rfl rfl
        clear hO hF hsz hdf
        refine if_ok (by rfl) ?_
        go_simp
        exact hK _ w (fun h => by cases h) (Below.refl _ _) hS rfl
      refine ⟨?_, ?_⟩
      · intro a w hsz hdf hS hO hF K hK
        obtain ⟨_, f48, rfl⟩ := (hF 48 (by decide)).1 67 _ rfl rfl
        clear hO hF hsz hdf
        refine if_ok (by rfl) ?_
        go_simp
        exact hK _ w (fun h => by cases h) (Below.refl _ _) hS rfl
      refine ⟨?_, ?_⟩
      · intro a w hsz hdf hS hO hF K hK
        obtain ⟨_, f49, rfl⟩ := (hF 49 (by decide)).1 68 _ rfl rfl
        have h7 := hO (7, .pointer (some ⟨b7, 0, none⟩)) (by simp)
        clear hO hF hsz hdf
        refine if_wanted (j := 49) (b := true) rfl (yieldD_of (d := 68) rfl f49) ?_
        refine wp_load_row 29 (.tmp 7) rfl b7 (ev h7) 29 _ (0, 0) _ (hS.2.1) Tryd.underlying29 rfl (by kernel_rfl) ?_
        exact hK _ w (fun h => by cases h) (Below.refl _ _) hS rfl
      refine ⟨?_, ?_⟩
      · intro a w hsz hdf hS hO hF K hK
        obtain ⟨_, f50, rfl⟩ := (hF 50 (by decide)).1 69 _ rfl rfl
        obtain ⟨_, f49, rfl⟩ := (hF 49 (by decide)).1 68 _ rfl rfl
        clear hO hF hsz hdf
        refine if_wanted (j := 49) (b := true) rfl (yieldD_of (d := 68) rfl f49) ?_
        go_simp
        exact hK _ _ (fun h => by cases h) (below_new (Below.refl _ _) _) (hM _ _ hS (below_new (Below.refl _ _) _)) ⟨_, rfl, Rd1 _ _ _ _ rfl⟩
      refine ⟨?_, ?_⟩
      · intro a w hsz hdf hS hO hF K hK
        obtain ⟨_, f51, g51, rfl, hr51⟩ := (hF 51 (by decide)).1 70 _ rfl rfl
        obtain ⟨_, f49, rfl⟩ := (hF 49 (by decide)).1 68 _ rfl rfl
        clear hO hF hsz hdf
        refine if_wanted (j := 49) (b := true) rfl (yieldD_of (d := 68) rfl f49) ?_
        refine wp_calls rfl enter_comb (show _ = #[.slice (some ⟨g51, 0, none⟩) 1 1] by simp [Act.eval, f51]) ?_
        refine (Combine_any _ _ _ _ _ (by decide) hr51).mono ?_
        rintro e w' ⟨rfl, hb⟩
        exact ⟨_, rfl, hK _ w' (fun h => by cases h) hb (hM _ _ hS hb) (by change _ = _; simp only [r6])⟩
      refine ⟨?_, ?_⟩
      · intro a w hsz hdf hS hO hF K hK
        obtain ⟨_, f49, rfl⟩ := (hF 49 (by decide)).1 68 _ rfl rfl
        have h7 := hO (7, .pointer (some ⟨b7, 0, none⟩)) (by simp)
        clear hO hF hsz hdf
        refine if_wanted (j := 49) (b := true) rfl (yieldD_of (d := 68) rfl f49) ?_
        refine wp_load_row 29 (.tmp 7) rfl b7 (ev h7) 29 _ (0, 0) _ (hS.2.1) Tryd.underlying29 rfl (by kernel_rfl) ?_
        exact hK _ w (fun h => by cases h) (Below.refl _ _) hS rfl
      refine ⟨?_, ?_⟩
      · intro a w hsz hdf hS hO hF K hK
        obtain ⟨_, f53, rfl⟩ := (hF 53 (by decide)).1 72 _ rfl rfl
        obtain ⟨_, f49, rfl⟩ := (hF 49 (by decide)).1 68 _ rfl rfl
        clear hO hF hsz hdf
        refine if_wanted (j := 49) (b := true) rfl (yieldD_of (d := 68) rfl f49) ?_
        refine wp_calls rfl enter_norm (show _ = #[.agg #[.int .i8 a0, .int .i8 a1]] by simp [Act.eval, f53]) ?_
        refine (norm_any _ _ _).mono ?_
        rintro e w' ⟨rfl, hb⟩
        exact ⟨_, rfl, hK _ w' (fun h => by cases h) hb (hM _ _ hS hb) rfl⟩
      refine ⟨?_, ?_⟩
      · intro a w hsz hdf hS hO hF K hK
        obtain ⟨_, f52, rfl⟩ := (hF 52 (by decide)).1 71 _ rfl rfl
        obtain ⟨_, f54, rfl⟩ := (hF 54 (by decide)).1 73 _ rfl rfl
        obtain ⟨_, f49, rfl⟩ := (hF 49 (by decide)).1 68 _ rfl rfl
        clear hO hF hsz hdf
        refine if_wanted (j := 49) (b := true) rfl (yieldD_of (d := 68) rfl f49) ?_
        go_simp
        exact hK _ w (fun h => by cases h) (Below.refl _ _) hS rfl
      refine ⟨?_, ?_⟩
      · intro a w hsz hdf hS hO hF K hK
        obtain ⟨_, f49, rfl⟩ := (hF 49 (by decide)).1 68 _ rfl rfl
        obtain ⟨_, f55, rfl⟩ := (hF 55 (by decide)).1 74 _ rfl rfl
        clear hO hF hsz hdf
        refine if_ok (by rfl) ?_
        go_simp
        exact hK _ w (fun h => by cases h) (Below.refl _ _) hS rfl
      refine ⟨?_, ?_⟩
      · intro a w hsz hdf hS hO hF K hK
        obtain ⟨_, f56, rfl⟩ := (hF 56 (by decide)).1 75 _ rfl rfl
        clear hO hF hsz hdf
        refine if_ok (by rfl) ?_
        go_simp
        exact hK _ w (fun h => by cases h) (Below.refl _ _) hS rfl
      refine ⟨?_, ?_⟩
      · intro a w hsz hdf hS hO hF K hK
        obtain ⟨_, f57, rfl⟩ := (hF 57 (by decide)).1 76 _ rfl rfl
        clear hO hF hsz hdf
        refine if_wanted (j := 57) (b := true) rfl (yieldD_of (d := 76) rfl f57) ?_
        refine wp_calls rfl enter_awake (show _ = #[] by simp) ?_
        refine (awake_any (T := hS.1) _).mono ?_
        rintro e w' ⟨rfl, hb⟩
        exact ⟨_, rfl, hK _ w' (fun h => by cases h) hb (hM _ _ hS hb) rfl⟩
      refine ⟨?_, ?_⟩
      · intro a w hsz hdf hS hO hF K hK
        obtain ⟨_, f57, rfl⟩ := (hF 57 (by decide)).1 76 _ rfl rfl
        obtain ⟨_, f58, rfl⟩ := (hF 58 (by decide)).1 77 _ rfl rfl
        clear hO hF hsz hdf
        refine if_ok (by rfl) ?_
        go_simp
        exact hK _ w (fun h => by cases h) (Below.refl _ _) hS rfl
      refine ⟨?_, ?_⟩
      · intro a w hsz hdf hS hO hF K hK
        obtain ⟨_, f59, rfl⟩ := (hF 59 (by decide)).1 78 _ rfl rfl
        clear hO hF hsz hdf
        refine if_ok (by rfl) ?_
        go_simp
        exact hK _ w (fun h => by cases h) (Below.refl _ _) hS rfl
      trivial
    case fin =>
      rintro a w' hsz hdf hS hO hF
      obtain ⟨v6, f60, hv6⟩ := (hF 60 (by decide)).1 6 _ rfl rfl
      obtain rfl : v6 = .bool true := hv6
      clear hF hO hsz
      go_wp2
      refine bodyPost_ret (results_tmp rfl _ _ _) (hdf.trans rfl) ?_
      exact ⟨by rw [Array.getD_eq_getD_getElem?, f60]; rfl, hS.2.2.2.2.2⟩
end Go.Proofs.YtjfhhlbgiepkpaaDoor
