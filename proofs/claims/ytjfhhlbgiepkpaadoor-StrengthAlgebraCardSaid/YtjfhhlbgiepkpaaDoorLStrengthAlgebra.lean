/-
  The given statement of 'netlab/netlablaw02.StrengthAlgebra': the call returns true for every input, and the arguments read afterwards as before. Condition: the listed package-level variables read as the program's text lays them (the card ties them to that text).
-/
import Derived.Test.YtjfhhlbgiepkpaaDoorRows
import Derived.Test.YtjfhhlbgiepkpaaDoorCards
import Derived.Test.YtjfhhlbgiepkpaaDoorTie
import Derived.Test.YtjfhhlbgiepkpaaDoorStrQ
import Derived.Test.YtjfhhlbgiepkpaaDoorStrT
import Derived.SevenTiedAt
namespace Go.Proofs.YtjfhhlbgiepkpaaDoor.strengthAlgebra
open Go Go.ChangeShapes Go.WideShapes Go.ChangeAt Go.RowKit

theorem own : ownKnob Tryd.prog.godebug = none := by kernel_rfl
theorem door_met (os : Os) (args : Array Value) : laidMetH Tryd.prog Rows.strengthAlgebraRow.laid ((World.doorLaid Tryd.prog 400 os).forCall (fun _ _ => 0) ⟨#[], args, []⟩).memory :=
  laidMetH_of_parts3 (fuel := 8) (laidMet_of_run' 8 (by kernel_rfl) (by kernel_rfl)) (by kernel_rfl) (by kernel_rfl)
set_option maxRecDepth 100000 in
theorem lifted (os : Os) (started : os.Started) (H : Type) (enc : TypeId × Value → H) :
    ReturnsInHanded {} Tryd.checked os 8 .any (fun w args => (Rows.strengthAlgebraSpec.pre enc Tryd.prog Tryd.f8 [] false w args ∧ laidMetH Tryd.prog Rows.strengthAlgebraRow.laid w) ∧ sizedMet enc Tryd.prog Tryd.f8 (OpenSpec.ofChange Rows.strengthAlgebraSpec) false w args)
      (Rows.strengthAlgebraSpec.post enc Tryd.prog Tryd.f8 false true false false) := by
  refine returnsInHanded_of_change_and (C := Tryd.checked) (X := fun w _ => laidMetH Tryd.prog Rows.strengthAlgebraRow.laid w) (fun _ _ _ hh h => h.of_heap hh) own started (by kernel_rfl) Tryd.func8
    (ChangeSpec.witness_shaped (enc := enc) (C := Tryd.checked) (os := os) (X := fun w _ => laidMetH Tryd.prog Rows.strengthAlgebraRow.laid w) false (World.doorLaid Tryd.prog 400 os) #[.agg #[.int .i8 0, .int .i8 0], .agg #[.int .i8 0, .int .i8 0], .agg #[.int .i8 0, .int .i8 0]] 8 rfl (World.shaped_of_RefB (by kernel_rfl) (by kernel_rfl)) (by kernel_rfl) (by kernel_rfl) (by kernel_rfl) (door_met os _)) ?_
  intro W base args ds gs before hval0 hW hm1 hm2 hL hm3
  have hval : ∀ (j : Nat) t v, Tryd.f8.params[j]? = some t → args[j]? = some v → Value.okWide Tryd.prog W .any base t v := hval0
  have hW' := hW
  have hlt : ∀ x ∈ before, x.block < W.heap.size := fun x hx => hW.lt x hx
  obtain ⟨p, q, hA0, hV, rfl, _, _⟩ := hW
  have hA : DataW.TrodAll enc Tryd.prog W 0 (fun _ => true) true Tryd.f8.params.toList args.toList ds p := hA0
  obtain ⟨rfl, rfl⟩ := trodVars_none hV
  simp only [List.append_nil] at hW' hlt
  have hK := fun (W' : World) (hb : Below W.heap.size W W') => trodAll_stays (enc := enc) (P := Tryd.prog) (by kernel_rfl) hb Tryd.f8.params.toList args.toList ds p (by kernel_rfl) hlt hA
  rw [Tryd.params8] at hA hval
  obtain ⟨v0, vs0, d0, ds0, p0, q0, hargs, rfl, hp, h0, r0⟩ := trodAll_cons hA
  obtain ⟨v1, vs1, d1, ds1, p1, q1, rfl, rfl, rfl, h1, r1⟩ := trodAll_cons r0
  obtain ⟨v2, vs2, d2, ds2, p2, q2, rfl, rfl, rfl, h2, r2⟩ := trodAll_cons r1
  obtain ⟨rfl, rfl, rfl⟩ := trodAll_nil r2
  obtain rfl : args = #[v0, v1, v2] := by cases args; simp_all
  obtain ⟨a0, b0, rfl, w0, x0⟩ := open_two Tryd.underlying34 (by kernel_rfl) (by kernel_rfl) Tryd.underlying26 Tryd.underlying26 (hval 0 34 v0 rfl rfl) h0
  obtain ⟨a1, b1, rfl, w1, x1⟩ := open_two Tryd.underlying34 (by kernel_rfl) (by kernel_rfl) Tryd.underlying26 Tryd.underlying26 (hval 1 34 v1 rfl rfl) h1
  obtain ⟨a2, b2, rfl, w2, x2⟩ := open_two Tryd.underlying34 (by kernel_rfl) (by kernel_rfl) Tryd.underlying26 Tryd.underlying26 (hval 2 34 v2 rfl rfl) h2
  clear hA0 hval0
  haveI := tb_of (by kernel_rfl) (by kernel_rfl) hL
  refine (walk_StrengthAlgebra a0 b0 a1 b1 a2 b2 W).mono fun e W' ⟨he, hb⟩ => ?_
  subst he
  exact ⟨_, rfl, _, _, _, [], p, [], hW', (trodAll_cons_mk (shut_bool Tryd.underlying4 _) trodAll_mk0), hK W' hb, rfl, hb.frame _, fun h => by cases h⟩

theorem proved : Rows.StrengthAlgebraSaid :=
  OpenClaim.holds_of_wide 8 Tryd.f8 rfl rfl rfl rfl rfl rfl rfl ⟨rfl, rfl, rfl, rfl, rfl⟩ rfl rfl rfl rfl rfl (by kernel_rfl) Tryd.func8 (by kernel_rfl)
    (of_decide_eq_true (by kernel_rfl)) (by unfold Func.isWrapper; first | (rw [if_pos (by decide +kernel)]; kernel_rfl) | (rw [if_neg (by decide +kernel)]; exact ⟨rfl, rfl⟩))
    (fun os started H enc _ => lifted os started H enc)

theorem card : Rows.StrengthAlgebraCardSaid :=
  Claim7.holds_tied_plain_at .later [] [.data, .data] true (true, "b70bf82ef4aaac1cb74892c766b4b2587c53ece6a7e20503eff2cbff1e695daf") false
    proved (fun _ h => by cases h) (by kernel_rfl) (fun _ h => by cases h) strengthAlgebra_row_tie rfl ⟨rfl, rfl⟩ (by kernel_rfl) rfl
    (fun f fn hf hfn => by
      obtain rfl : f = 8 := Option.some.inj ((show Tryd.prog.funcNamed "netlab/netlablaw02.StrengthAlgebra" = some 8 by kernel_rfl).symm.trans hf) |>.symm
      obtain rfl : fn = Tryd.f8 := (Option.some.inj (Tryd.func8.symm.trans hfn)).symm
      exact ⟨by kernel_rfl, fun j t ht => by
        rw [Tryd.params8] at ht
        have hm : t ∈ [34, 34, 34] := by have := Array.mem_of_getElem? ht; simpa using this
        have hall : ([34, 34, 34].all fun u => !Tryd.prog.wantsStandIn u) = true := by kernel_rfl
        exact (show Tryd.prog.wantsStandIn t = false by simpa using List.all_eq_true.1 hall t hm)⟩)
    (by kernel_rfl)
end Go.Proofs.YtjfhhlbgiepkpaaDoor.strengthAlgebra
