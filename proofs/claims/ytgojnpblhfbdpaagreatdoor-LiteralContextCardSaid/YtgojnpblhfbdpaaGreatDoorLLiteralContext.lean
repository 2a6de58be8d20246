/-
  The given statement of 'netlab/netlablaw05.LiteralContext': the call returns true for every input, and the arguments read afterwards as before. Condition: the listed package-level variables read as the program's text lays them (the card ties them to that text).
-/
import Derived.Test.YtgojnpblhfbdpaaGreatDoorRows
import Derived.Test.YtgojnpblhfbdpaaGreatDoorCards
import Derived.Test.YtgojnpblhfbdpaaGreatDoorTie
import Derived.Test.YtgojnpblhfbdpaaGreatDoorPb
import Derived.Test.YtgojnpblhfbdpaaGreatDoorR5
import Derived.Test.YtgojnpblhfbdpaaGreatDoorWl
import Derived.Lay
import Derived.MakeChecks
import Derived.SevenTiedAt
namespace Go.Proofs.YtgojnpblhfbdpaaGreatDoor.literalContext
open Go Go.ChangeShapes Go.WideShapes Go.ChangeAt Go.RowKit

theorem own : ownKnob Tryz.prog.godebug = none := by kernel_rfl
set_option maxRecDepth 100000 in
theorem lifted (os : Os) (started : os.Started) (H : Type) (enc : TypeId × Value → H) :
    ReturnsInHanded {} Tryz.checked os 9 .any (fun w args => (Rows.literalContextSpec.pre enc Tryz.prog Tryz.f9 [] false w args ∧ laidMetH Tryz.prog Rows.literalContextRow.laid w) ∧ sizedMet enc Tryz.prog Tryz.f9 (OpenSpec.ofChange Rows.literalContextSpec) false w args)
      (Rows.literalContextSpec.post enc Tryz.prog Tryz.f9 false true false false) := by
  refine returns_shaped (C := Tryz.checked) (X := fun w _ => laidMetH Tryz.prog Rows.literalContextRow.laid w) (fun _ _ _ hh h => h.of_heap hh) own started (by kernel_rfl) Tryz.func9
    (ChangeSpec.witness_shaped (enc := enc) (C := Tryz.checked) (os := os) (X := fun w _ => laidMetH Tryz.prog Rows.literalContextRow.laid w) false (World.laidAll Tryz.prog os Rows.literalContextRow.laid) #[.agg #[.slice none 0 0, .bool false], .string ⟨#[]⟩, .int .u8 0, .string ⟨#[]⟩] 8 (World.laidAll_os _ _ _) (World.shaped_of_ZipB (by kernel_rfl) (by kernel_rfl)) (by kernel_rfl) (by kernel_rfl) (by kernel_rfl) (by rw [MakeChecks.laidMetH_plain _ _ _ (by kernel_rfl)]; exact laidMet_laidAll _ (by kernel_rfl) (by kernel_rfl))) ?_
  intro W base args ds gs before hsh hval0 hW hm1 hm2 hL hm3
  have hval : ∀ (j : Nat) t v, Tryz.f9.params[j]? = some t → args[j]? = some v → Value.okWide Tryz.prog W .any base t v := hval0
  have hW' := hW
  have hlt : ∀ x ∈ before, x.block < W.heap.size := fun x hx => hW.lt x hx
  obtain ⟨p, q, hA0, hV, rfl, _, _⟩ := hW
  have hA : DataW.TrodAll enc Tryz.prog W 0 (fun _ => true) true Tryz.f9.params.toList args.toList ds p := hA0
  obtain ⟨rfl, rfl⟩ := trodVars_none hV
  simp only [List.append_nil] at hW' hlt
  have hK := fun (W' : World) (hb : Below W.heap.size W W') => trodAll_stays (enc := enc) (P := Tryz.prog) (by kernel_rfl) hb Tryz.f9.params.toList args.toList ds p (by kernel_rfl) hlt hA
  rw [Tryz.params9] at hA hval
  obtain ⟨v0, vs0, d0, ds0, p0, q0, hargs, rfl, hp, h0, r0⟩ := trodAll_cons hA
  obtain ⟨v1, vs1, d1, ds1, p1, q1, rfl, rfl, rfl, h1, r1⟩ := trodAll_cons r0
  obtain ⟨v2, vs2, d2, ds2, p2, q2, rfl, rfl, rfl, h2, r2⟩ := trodAll_cons r1
  obtain ⟨v3, vs3, d3, ds3, p3, q3, rfl, rfl, rfl, h3, r3⟩ := trodAll_cons r2
  obtain ⟨rfl, rfl, rfl⟩ := trodAll_nil r3
  obtain rfl : args = #[v0, v1, v2, v3] := by cases args; simp_all
  obtain ⟨A0, n0, c0, s0, l0, rfl, hcc0, hm0, hr0⟩ := open_vec Tryz.underlying26 (by kernel_rfl) (by kernel_rfl) Tryz.underlying24 Tryz.underlying58 (by kernel_rfl) Tryz.underlying4 (hval 0 26 v0 rfl rfl) h0
  obtain ⟨a1, rfl, e1, _, w1⟩ := Go.ChangeMaps.open_string Tryz.underlying9 (hval 1 9 v1 rfl rfl) h1
  obtain ⟨b1, rfl⟩ : ∃ l, a1 = str l := ⟨byt a1, (str_byt a1).symm⟩
  have y1 := wt_str (j := 1) hm2 rfl rfl e1
  obtain ⟨a2, rfl, _, _, w2⟩ := open_int Tryz.underlying5 (hval 2 5 v2 rfl rfl) h2
  obtain ⟨a3, rfl, e3, _, w3⟩ := Go.ChangeMaps.open_string Tryz.underlying9 (hval 3 9 v3 rfl rfl) h3
  obtain ⟨b3, rfl⟩ : ∃ l, a3 = str l := ⟨byt a3, (str_byt a3).symm⟩
  have y3 := wt_str (j := 3) hm2 rfl rfl e3
  clear hA0 hval0
  refine (walk_LiteralContext A0 n0 c0 s0 l0 b1 a2 b3 W hr0 hcc0 y1 (u8_bd w2) y3 (env_of (by kernel_rfl) (by kernel_rfl) (by kernel_rfl) hL hsh)).mono fun e W' ⟨he, hb⟩ => ?_
  subst he
  exact ⟨_, rfl, _, _, _, [], p, [], hW', (trodAll_cons_mk (shut_bool Tryz.underlying4 _) trodAll_mk0), hK W' hb, rfl, hb.frame _, fun h => by cases h⟩

theorem proved : Rows.LiteralContextSaid :=
  OpenClaim.holds_of_wide 9 Tryz.f9 rfl rfl rfl rfl rfl rfl rfl ⟨rfl, rfl, rfl, rfl, rfl⟩ rfl rfl rfl rfl rfl (by kernel_rfl) Tryz.func9 (by kernel_rfl)
    (of_decide_eq_true (by kernel_rfl)) (by unfold Func.isWrapper; first | (rw [if_pos (by decide +kernel)]; kernel_rfl) | (rw [if_neg (by decide +kernel)]; exact ⟨rfl, rfl⟩))
    (fun os started H enc _ => lifted os started H enc)

theorem card : Rows.LiteralContextCardSaid :=
  Claim7.holds_tied_plain_at .later [] [.data, .data, .data, .data, .data, .sentinel, .sentinel, .pinned, .pinned] true (true, "db9aa0b334ebc23ee8f04da9892cbe1aba93e0385f15bb253a2679a29a117d12") true
    proved (fun _ h => by cases h) (by kernel_rfl) (fun _ h => by cases h) literalContext_row_tie rfl ⟨rfl, rfl⟩ (by kernel_rfl) rfl
    (fun f fn hf hfn => by
      obtain rfl : f = 9 := Option.some.inj ((show Tryz.prog.funcNamed "netlab/netlablaw05.LiteralContext" = some 9 by kernel_rfl).symm.trans hf) |>.symm
      obtain rfl : fn = Tryz.f9 := (Option.some.inj (Tryz.func9.symm.trans hfn)).symm
      exact ⟨by kernel_rfl, fun j t ht => by
        rw [Tryz.params9] at ht
        have hm : t ∈ [26, 9, 5, 9] := by have := Array.mem_of_getElem? ht; simpa using this
        have hall : ([26, 9, 5, 9].all fun u => !Tryz.prog.wantsStandIn u) = true := by kernel_rfl
        exact (show Tryz.prog.wantsStandIn t = false by simpa using List.all_eq_true.1 hall t hm)⟩)
    (by kernel_rfl)
#print axioms card
end Go.Proofs.YtgojnpblhfbdpaaGreatDoor.literalContext
