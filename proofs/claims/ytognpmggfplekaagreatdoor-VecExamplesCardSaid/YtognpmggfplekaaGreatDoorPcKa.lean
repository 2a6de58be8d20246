/-
  The walk of VecExamples: it returns true. Conditions: the tables of package bit read as the program lays them.
-/
import Derived.Test.YtognpmggfplekaaGreatDoorPcKb
set_option maxRecDepth 100000
namespace Go.Proofs.YtognpmggfplekaaGreatDoor
open Go Go.RowKit

set_option maxHeartbeats 16000000 in
theorem walk_VecExamples  (w : World)  (TT : Tabs w) : Calls Tryz.prog 7 #[] w fun e w' => e = .returned (.bool true) ∧ Below w.heap.size w w' := by
  have BB := Below.refl w.heap.size w
  go_enter Tryz.func7, Tryz.ntmps7
  go_wp2_with fail
  go_at_call 13
  refine (awake_any _ TT).mono ?_
  rintro e wk ⟨rfl, hb⟩
  replace TT := TT.step hb
  replace BB := below_step BB hb
  clear hb
  obtain ⟨u1, rfl⟩ : ∃ u : World, u = wk := ⟨_, rfl⟩
  go_wp2_with fail
  go_at_call 53
  refine (rFill_k 1 129 false _ (by decide) (by decide)).mono ?_
  rintro e wk ⟨A1, n1, c1, rfl, hc1, hn1, hv, hb⟩
  replace TT := TT.step hb
  replace BB := below_step BB hb
  have r1 := hv.rd
  clear hb hv
  obtain ⟨u2, rfl⟩ : ∃ u : World, u = wk := ⟨_, rfl⟩
  go_wp2_with fail
  skip
  have O1 := (Own.at1 (u2.alloc (.cells #[.int .u8 0, .int .u8 4] 48)) 24 #[.slice A1 n1 c1, .bool false] (g := u2.heap.size + 1) (by simp)).alloc (.cells #[.slice (some ⟨u2.heap.size, 0, none⟩) 2 2, .bool true] 24)
  have O2 := Own.at1 ((u2.alloc (.cells #[.int .u8 0, .int .u8 4] 48)).alloc (.cells #[.slice A1 n1 c1, .bool false] 24)) 24 #[.slice (some ⟨u2.heap.size, 0, none⟩) 2 2, .bool true] (g := u2.heap.size + 1 + 1) (by simp)
  have r2 := ((Rb.of_own (l := [0, 4]) (n := 2) (Own.new u2 48 #[.int .u8 0, .int .u8 4]) (fun x hx => by simp at hx; omega) rfl).alloc (.cells #[.slice A1 n1 c1, .bool false] 24)).alloc (.cells #[.slice (some ⟨u2.heap.size, 0, none⟩) 2 2, .bool true] 24)
  replace r1 := r1.alloc (.cells #[.int .u8 0, .int .u8 4] 48)
  replace TT := TT.alloc (.cells #[.int .u8 0, .int .u8 4] 48)
  replace BB := below_new BB (.cells #[.int .u8 0, .int .u8 4] 48)
  replace r1 := r1.alloc (.cells #[.slice A1 n1 c1, .bool false] 24)
  replace TT := TT.alloc (.cells #[.slice A1 n1 c1, .bool false] 24)
  replace BB := below_new BB (.cells #[.slice A1 n1 c1, .bool false] 24)
  replace r1 := r1.alloc (.cells #[.slice (some ⟨u2.heap.size, 0, none⟩) 2 2, .bool true] 24)
  replace TT := TT.alloc (.cells #[.slice (some ⟨u2.heap.size, 0, none⟩) 2 2, .bool true] 24)
  replace BB := below_new BB (.cells #[.slice (some ⟨u2.heap.size, 0, none⟩) 2 2, .bool true] 24)
  generalize u2.heap.size + 1 + 1 = g2 at *
  generalize u2.heap.size + 1 = g1 at *
  generalize (some ⟨u2.heap.size, 0, none⟩ : Option Addr) = A2 at *
  generalize ((u2.alloc (.cells #[.int .u8 0, .int .u8 4] 48)).alloc (.cells #[.slice A1 n1 c1, .bool false] 24)).alloc (.cells #[.slice A2 2 2, .bool true] 24) = u3 at *
  have qO10 := O1.cell 0
  have qO11 := O1.cell 1
  have qO20 := O2.cell 0
  have qO21 := O2.cell 1
  go_at_call 37
  clear qO10 qO11 qO20 qO21
  refine (ern (fromInt_v_w 1 0 false _ (by decide)) (z := 12) (by decide +kernel) (by decide +kernel)).mono ?_
  rintro e wk ⟨A3, n3, c3, rfl, hc3, hn3, hv, hb⟩
  replace O1 := O1.step hb
  replace O2 := O2.step hb
  replace r1 := r1.step hb
  replace r2 := r2.step hb
  replace TT := TT.step hb
  replace BB := below_step BB hb
  replace O1 := O1.alloc (.cells #[.slice A3 n3 c3, .bool false] 24)
  replace O2 := O2.alloc (.cells #[.slice A3 n3 c3, .bool false] 24)
  replace r1 := r1.alloc (.cells #[.slice A3 n3 c3, .bool false] 24)
  replace r2 := r2.alloc (.cells #[.slice A3 n3 c3, .bool false] 24)
  replace TT := TT.alloc (.cells #[.slice A3 n3 c3, .bool false] 24)
  replace BB := below_new BB (.cells #[.slice A3 n3 c3, .bool false] 24)
  clear hb hv
  have qO10 := O1.cell 0
  have qO11 := O1.cell 1
  have qO20 := O2.cell 0
  have qO21 := O2.cell 1
  go_wp2_with fail
  go_at_call 39
  clear qO10 qO11 qO20 qO21
  generalize wk.heap.size = g3 at *
  generalize wk.alloc (.cells #[.slice A3 n3 c3, .bool false] 24) = u3 at *
  refine (ern (unknown_v_w 129 false _) (z := 12) (by decide +kernel) (by decide +kernel)).mono ?_
  rintro e wk ⟨A5, n5, c5, rfl, hc5, hn5, hv, hb⟩
  replace O1 := O1.step hb
  replace O2 := O2.step hb
  replace r1 := r1.step hb
  replace r2 := r2.step hb
  replace TT := TT.step hb
  replace BB := below_step BB hb
  replace O1 := O1.alloc (.cells #[.slice A5 n5 c5, .bool false] 24)
  replace O2 := O2.alloc (.cells #[.slice A5 n5 c5, .bool false] 24)
  replace r1 := r1.alloc (.cells #[.slice A5 n5 c5, .bool false] 24)
  replace r2 := r2.alloc (.cells #[.slice A5 n5 c5, .bool false] 24)
  replace TT := TT.alloc (.cells #[.slice A5 n5 c5, .bool false] 24)
  replace BB := below_new BB (.cells #[.slice A5 n5 c5, .bool false] 24)
  clear hb hv
  have qO10 := O1.cell 0
  have qO11 := O1.cell 1
  have qO20 := O2.cell 0
  have qO21 := O2.cell 1
  go_wp2_with fail
  go_at_call 54
  clear qO10 qO11 qO20 qO21
  generalize wk.heap.size = g5 at *
  generalize wk.alloc (.cells #[.slice A5 n5 c5, .bool false] 24) = u4 at *
  refine (of_w ⟨#[49]⟩ _ (by decide)).mono ?_
  rintro e wk ⟨Aa, na, ca, rfl, hca, hna, hv, hb⟩
  replace O1 := O1.step hb
  replace O2 := O2.step hb
  replace r1 := r1.step hb
  replace r2 := r2.step hb
  replace TT := TT.step hb
  replace BB := below_step BB hb
  have ra := hv.rd
  clear hb hv
  obtain ⟨u5, rfl⟩ : ∃ u : World, u = wk := ⟨_, rfl⟩
  have qO10 := O1.cell 0
  have qO11 := O1.cell 1
  have qO20 := O2.cell 0
  have qO21 := O2.cell 1
  go_wp2_with fail
  go_at_call 41
  clear qO10 qO11 qO20 qO21
  refine (ern (resize_v_w _ _ _ _ _ 0 _ ra) (z := 12) (by decide +kernel) (by decide +kernel)).mono ?_
  rintro e wk ⟨A7, n7, c7, rfl, hc7, hn7, hv, hb⟩
  replace O1 := O1.step hb
  replace O2 := O2.step hb
  replace r1 := r1.step hb
  replace r2 := r2.step hb
  replace ra := ra.step hb
  replace TT := TT.step hb
  replace BB := below_step BB hb
  replace O1 := O1.alloc (.cells #[.slice A7 n7 c7, .bool false] 24)
  replace O2 := O2.alloc (.cells #[.slice A7 n7 c7, .bool false] 24)
  replace r1 := r1.alloc (.cells #[.slice A7 n7 c7, .bool false] 24)
  replace r2 := r2.alloc (.cells #[.slice A7 n7 c7, .bool false] 24)
  replace ra := ra.alloc (.cells #[.slice A7 n7 c7, .bool false] 24)
  replace TT := TT.alloc (.cells #[.slice A7 n7 c7, .bool false] 24)
  replace BB := below_new BB (.cells #[.slice A7 n7 c7, .bool false] 24)
  clear hb hv
  have qO10 := O1.cell 0
  have qO11 := O1.cell 1
  have qO20 := O2.cell 0
  have qO21 := O2.cell 1
  clear ra
  go_wp2_with fail
  go_at_call 43
  clear qO10 qO11 qO20 qO21
  generalize wk.heap.size = g7 at *
  generalize wk.alloc (.cells #[.slice A7 n7 c7, .bool false] 24) = u6 at *
  refine (ern (concat_v_w none 0 0 (fun _ => cv none 0 0 false) (fun _ => ⟨[], false⟩) _ (fun h => absurd h (by decide)) (fun _ => ⟨Rb.nil _, rfl⟩) (by decide)) (z := 4) (by decide +kernel) (by decide +kernel)).mono ?_
  rintro e wk ⟨A9, n9, c9, rfl, hc9, hn9, hv, hb⟩
  replace O1 := O1.step hb
  replace O2 := O2.step hb
  replace r1 := r1.step hb
  replace r2 := r2.step hb
  replace TT := TT.step hb
  replace BB := below_step BB hb
  replace O1 := O1.alloc (.cells #[.slice A9 n9 c9, .bool false] 24)
  replace O2 := O2.alloc (.cells #[.slice A9 n9 c9, .bool false] 24)
  replace r1 := r1.alloc (.cells #[.slice A9 n9 c9, .bool false] 24)
  replace r2 := r2.alloc (.cells #[.slice A9 n9 c9, .bool false] 24)
  replace TT := TT.alloc (.cells #[.slice A9 n9 c9, .bool false] 24)
  replace BB := below_new BB (.cells #[.slice A9 n9 c9, .bool false] 24)
  clear hb hv
  have qO10 := O1.cell 0
  have qO11 := O1.cell 1
  have qO20 := O2.cell 0
  have qO21 := O2.cell 1
  go_wp2_with fail
  go_at_call 53
  clear qO10 qO11 qO20 qO21
  generalize wk.heap.size = g9 at *
  generalize wk.alloc (.cells #[.slice A9 n9 c9, .bool false] 24) = u7 at *
  refine (rFill_k 1 128 false _ (by decide) (by decide)).mono ?_
  rintro e wk ⟨Ab, nb, cb, rfl, hcb, hnb, hv, hb⟩
  replace O1 := O1.step hb
  replace O2 := O2.step hb
  replace r1 := r1.step hb
  replace r2 := r2.step hb
  replace TT := TT.step hb
  replace BB := below_step BB hb
  have rb := hv.rd
  clear hb hv
  obtain ⟨u8, rfl⟩ : ∃ u : World, u = wk := ⟨_, rfl⟩
  have qO10 := O1.cell 0
  have qO11 := O1.cell 1
  have qO20 := O2.cell 0
  have qO21 := O2.cell 1
  go_wp2_with fail
  go_at_call 54
  clear qO10 qO11 qO20 qO21
  refine (of_w ⟨#[49]⟩ _ (by decide)).mono ?_
  rintro e wk ⟨Ac, nc, cc, rfl, hcc, hnc, hv, hb⟩
  replace O1 := O1.step hb
  replace O2 := O2.step hb
  replace r1 := r1.step hb
  replace r2 := r2.step hb
  replace rb := rb.step hb
  replace TT := TT.step hb
  replace BB := below_step BB hb
  have rc := hv.rd
  clear hb hv
  obtain ⟨u9, rfl⟩ : ∃ u : World, u = wk := ⟨_, rfl⟩
  have qO10 := O1.cell 0
  have qO11 := O1.cell 1
  have qO20 := O2.cell 0
  have qO21 := O2.cell 1
  go_wp2_with fail
  go_at_call 43
  clear qO10 qO11 qO20 qO21
  refine (ern (conc2 Ab Ac nb cb nc cc false false _ _ _ rb rc) (z := 12) (by decide +kernel) (by decide +kernel)).mono ?_
  rintro e wk ⟨A11, n11, c11, rfl, hc11, hn11, hv, hb⟩
  replace O1 := O1.alloc (.cells #[.slice Ab nb cb, .bool false, .slice Ac nc cc, .bool false] 24)
  replace O2 := O2.alloc (.cells #[.slice Ab nb cb, .bool false, .slice Ac nc cc, .bool false] 24)
  replace r1 := r1.alloc (.cells #[.slice Ab nb cb, .bool false, .slice Ac nc cc, .bool false] 24)
  replace r2 := r2.alloc (.cells #[.slice Ab nb cb, .bool false, .slice Ac nc cc, .bool false] 24)
  replace rb := rb.alloc (.cells #[.slice Ab nb cb, .bool false, .slice Ac nc cc, .bool false] 24)
  replace rc := rc.alloc (.cells #[.slice Ab nb cb, .bool false, .slice Ac nc cc, .bool false] 24)
  replace TT := TT.alloc (.cells #[.slice Ab nb cb, .bool false, .slice Ac nc cc, .bool false] 24)
  replace BB := below_new BB (.cells #[.slice Ab nb cb, .bool false, .slice Ac nc cc, .bool false] 24)
  replace O1 := O1.step hb
  replace O2 := O2.step hb
  replace r1 := r1.step hb
  replace r2 := r2.step hb
  replace rb := rb.step hb
  replace rc := rc.step hb
  replace TT := TT.step hb
  replace BB := below_step BB hb
  replace O1 := O1.alloc (.cells #[.slice A11 n11 c11, .bool false] 24)
  replace O2 := O2.alloc (.cells #[.slice A11 n11 c11, .bool false] 24)
  replace r1 := r1.alloc (.cells #[.slice A11 n11 c11, .bool false] 24)
  replace r2 := r2.alloc (.cells #[.slice A11 n11 c11, .bool false] 24)
  replace rb := rb.alloc (.cells #[.slice A11 n11 c11, .bool false] 24)
  replace rc := rc.alloc (.cells #[.slice A11 n11 c11, .bool false] 24)
  replace TT := TT.alloc (.cells #[.slice A11 n11 c11, .bool false] 24)
  replace BB := below_new BB (.cells #[.slice A11 n11 c11, .bool false] 24)
  clear hb hv
  have qO10 := O1.cell 0
  have qO11 := O1.cell 1
  have qO20 := O2.cell 0
  have qO21 := O2.cell 1
  clear rb
  clear rc
  go_wp2_with fail
  go_at_call 54
  clear qO10 qO11 qO20 qO21
  generalize wk.heap.size = g11 at *
  generalize wk.alloc (.cells #[.slice A11 n11 c11, .bool false] 24) = u10 at *
  refine (of_w ⟨#[49, 48]⟩ _ (by decide)).mono ?_
  rintro e wk ⟨Aa, na, ca, rfl, hca, hna, hv, hb⟩
  replace O1 := O1.step hb
  replace O2 := O2.step hb
  replace r1 := r1.step hb
  replace r2 := r2.step hb
  replace TT := TT.step hb
  replace BB := below_step BB hb
  have ra := hv.rd
  clear hb hv
  obtain ⟨u11, rfl⟩ : ∃ u : World, u = wk := ⟨_, rfl⟩
  have qO10 := O1.cell 0
  have qO11 := O1.cell 1
  have qO20 := O2.cell 0
  have qO21 := O2.cell 1
  go_wp2_with fail
  go_at_call 45
  clear qO10 qO11 qO20 qO21
  refine (ern (repeat_v_w _ _ _ _ _ 0 _ ra) (z := 1) (by decide +kernel) (by decide +kernel)).mono ?_
  rintro e wk ⟨A13, n13, c13, rfl, hc13, hn13, hv, hb⟩
  replace O1 := O1.step hb
  replace O2 := O2.step hb
  replace r1 := r1.step hb
  replace r2 := r2.step hb
  replace ra := ra.step hb
  replace TT := TT.step hb
  replace BB := below_step BB hb
  replace O1 := O1.alloc (.cells #[.slice A13 n13 c13, .bool false] 24)
  replace O2 := O2.alloc (.cells #[.slice A13 n13 c13, .bool false] 24)
  replace r1 := r1.alloc (.cells #[.slice A13 n13 c13, .bool false] 24)
  replace r2 := r2.alloc (.cells #[.slice A13 n13 c13, .bool false] 24)
  replace ra := ra.alloc (.cells #[.slice A13 n13 c13, .bool false] 24)
  replace TT := TT.alloc (.cells #[.slice A13 n13 c13, .bool false] 24)
  replace BB := below_new BB (.cells #[.slice A13 n13 c13, .bool false] 24)
  clear hb hv
  have qO10 := O1.cell 0
  have qO11 := O1.cell 1
  have qO20 := O2.cell 0
  have qO21 := O2.cell 1
  clear ra
  go_wp2_with fail
  go_at_call 54
  clear qO10 qO11 qO20 qO21
  generalize wk.heap.size = g13 at *
  generalize wk.alloc (.cells #[.slice A13 n13 c13, .bool false] 24) = u12 at *
  refine (of_w ⟨#[49, 48]⟩ _ (by decide)).mono ?_
  rintro e wk ⟨Aa, na, ca, rfl, hca, hna, hv, hb⟩
  replace O1 := O1.step hb
  replace O2 := O2.step hb
  replace r1 := r1.step hb
  replace r2 := r2.step hb
  replace TT := TT.step hb
  replace BB := below_step BB hb
  have ra := hv.rd
  clear hb hv
  obtain ⟨u13, rfl⟩ : ∃ u : World, u = wk := ⟨_, rfl⟩
  have qO10 := O1.cell 0
  have qO11 := O1.cell 1
  have qO20 := O2.cell 0
  have qO21 := O2.cell 1
  go_wp2_with fail
  go_at_call 45
  clear qO10 qO11 qO20 qO21
  refine (ern (repeat_v_w _ _ _ _ _ 65 _ ra) (z := 12) (by decide +kernel) (by decide +kernel)).mono ?_
  rintro e wk ⟨A15, n15, c15, rfl, hc15, hn15, hv, hb⟩
  replace O1 := O1.step hb
  replace O2 := O2.step hb
  replace r1 := r1.step hb
  replace r2 := r2.step hb
  replace ra := ra.step hb
  replace TT := TT.step hb
  replace BB := below_step BB hb
  replace O1 := O1.alloc (.cells #[.slice A15 n15 c15, .bool false] 24)
  replace O2 := O2.alloc (.cells #[.slice A15 n15 c15, .bool false] 24)
  replace r1 := r1.alloc (.cells #[.slice A15 n15 c15, .bool false] 24)
  replace r2 := r2.alloc (.cells #[.slice A15 n15 c15, .bool false] 24)
  replace ra := ra.alloc (.cells #[.slice A15 n15 c15, .bool false] 24)
  replace TT := TT.alloc (.cells #[.slice A15 n15 c15, .bool false] 24)
  replace BB := below_new BB (.cells #[.slice A15 n15 c15, .bool false] 24)
  clear hb hv
  have qO10 := O1.cell 0
  have qO11 := O1.cell 1
  have qO20 := O2.cell 0
  have qO21 := O2.cell 1
  clear ra
  go_wp2_with fail
  go_at_call 54
  clear qO10 qO11 qO20 qO21
  generalize wk.heap.size = g15 at *
  generalize wk.alloc (.cells #[.slice A15 n15 c15, .bool false] 24) = u14 at *
  refine (of_w ⟨#[49, 48]⟩ _ (by decide)).mono ?_
  rintro e wk ⟨Aa, na, ca, rfl, hca, hna, hv, hb⟩
  replace O1 := O1.step hb
  replace O2 := O2.step hb
  replace r1 := r1.step hb
  replace r2 := r2.step hb
  replace TT := TT.step hb
  replace BB := below_step BB hb
  have ra := hv.rd
  clear hb hv
  obtain ⟨u15, rfl⟩ : ∃ u : World, u = wk := ⟨_, rfl⟩
  have qO10 := O1.cell 0
  have qO11 := O1.cell 1
  have qO20 := O2.cell 0
  have qO21 := O2.cell 1
  go_wp2_with fail
  go_at_call 47
  clear qO10 qO11 qO20 qO21
  refine (ern (slice_v_w _ _ _ _ _ 0 1 _ ra (by unfold I64; omega) (by unfold I64; omega)) (z := 1) (by decide +kernel) (by decide +kernel)).mono ?_
  rintro e wk ⟨A17, n17, c17, rfl, hc17, hn17, hv, hb⟩
  replace O1 := O1.step hb
  replace O2 := O2.step hb
  replace r1 := r1.step hb
  replace r2 := r2.step hb
  replace ra := ra.step hb
  replace TT := TT.step hb
  replace BB := below_step BB hb
  replace O1 := O1.alloc (.cells #[.slice A17 n17 c17, .bool false] 24)
  replace O2 := O2.alloc (.cells #[.slice A17 n17 c17, .bool false] 24)
  replace r1 := r1.alloc (.cells #[.slice A17 n17 c17, .bool false] 24)
  replace r2 := r2.alloc (.cells #[.slice A17 n17 c17, .bool false] 24)
  replace ra := ra.alloc (.cells #[.slice A17 n17 c17, .bool false] 24)
  replace TT := TT.alloc (.cells #[.slice A17 n17 c17, .bool false] 24)
  replace BB := below_new BB (.cells #[.slice A17 n17 c17, .bool false] 24)
  clear hb hv
  have qO10 := O1.cell 0
  have qO11 := O1.cell 1
  have qO20 := O2.cell 0
  have qO21 := O2.cell 1
  clear ra
  go_wp2_with fail
  go_at_call 54
  clear qO10 qO11 qO20 qO21
  generalize wk.heap.size = g17 at *
  generalize wk.alloc (.cells #[.slice A17 n17 c17, .bool false] 24) = u16 at *
  refine (of_w ⟨#[49, 48]⟩ _ (by decide)).mono ?_
  rintro e wk ⟨Aa, na, ca, rfl, hca, hna, hv, hb⟩
  replace O1 := O1.step hb
  replace O2 := O2.step hb
  replace r1 := r1.step hb
  replace r2 := r2.step hb
  replace TT := TT.step hb
  replace BB := below_step BB hb
  have ra := hv.rd
  clear hb hv
  obtain ⟨u17, rfl⟩ : ∃ u : World, u = wk := ⟨_, rfl⟩
  have qO10 := O1.cell 0
  have qO11 := O1.cell 1
  have qO20 := O2.cell 0
  have qO21 := O2.cell 1
  go_wp2_with fail
  go_at_call 47
  clear qO10 qO11 qO20 qO21
  refine (ern (slice_v_w _ _ _ _ _ 4611686018427387904 (-4611686018427387904) _ ra (by unfold I64; omega) (by unfold I64; omega)) (z := 12) (by decide +kernel) (by decide +kernel)).mono ?_
  rintro e wk ⟨A19, n19, c19, rfl, hc19, hn19, hv, hb⟩
  replace O1 := O1.step hb
  replace O2 := O2.step hb
  replace r1 := r1.step hb
  replace r2 := r2.step hb
  replace ra := ra.step hb
  replace TT := TT.step hb
  replace BB := below_step BB hb
  replace O1 := O1.alloc (.cells #[.slice A19 n19 c19, .bool false] 24)
  replace O2 := O2.alloc (.cells #[.slice A19 n19 c19, .bool false] 24)
  replace r1 := r1.alloc (.cells #[.slice A19 n19 c19, .bool false] 24)
  replace r2 := r2.alloc (.cells #[.slice A19 n19 c19, .bool false] 24)
  replace ra := ra.alloc (.cells #[.slice A19 n19 c19, .bool false] 24)
  replace TT := TT.alloc (.cells #[.slice A19 n19 c19, .bool false] 24)
  replace BB := below_new BB (.cells #[.slice A19 n19 c19, .bool false] 24)
  clear hb hv
  have qO10 := O1.cell 0
  have qO11 := O1.cell 1
  have qO20 := O2.cell 0
  have qO21 := O2.cell 1
  clear ra
  go_wp2_with fail
  go_at_call 54
  clear qO10 qO11 qO20 qO21
  generalize wk.heap.size = g19 at *
  generalize wk.alloc (.cells #[.slice A19 n19 c19, .bool false] 24) = u18 at *
  refine (of_w ⟨#[49, 48]⟩ _ (by decide)).mono ?_
  rintro e wk ⟨Aa, na, ca, rfl, hca, hna, hv, hb⟩
  replace O1 := O1.step hb
  replace O2 := O2.step hb
  replace r1 := r1.step hb
  replace r2 := r2.step hb
  replace TT := TT.step hb
  replace BB := below_step BB hb
  have ra := hv.rd
  clear hb hv
  obtain ⟨u19, rfl⟩ : ∃ u : World, u = wk := ⟨_, rfl⟩
  have qO10 := O1.cell 0
  have qO11 := O1.cell 1
  have qO20 := O2.cell 0
  have qO21 := O2.cell 1
  go_wp2_with fail
  go_at_call 54
  clear qO10 qO11 qO20 qO21
  refine (of_w ⟨#[49]⟩ _ (by decide)).mono ?_
  rintro e wk ⟨Ab, nb, cb, rfl, hcb, hnb, hv, hb⟩
  replace O1 := O1.step hb
  replace O2 := O2.step hb
  replace r1 := r1.step hb
  replace r2 := r2.step hb
  replace ra := ra.step hb
  replace TT := TT.step hb
  replace BB := below_step BB hb
  have rb := hv.rd
  clear hb hv
  obtain ⟨u20, rfl⟩ : ∃ u : World, u = wk := ⟨_, rfl⟩
  have qO10 := O1.cell 0
  have qO11 := O1.cell 1
  have qO20 := O2.cell 0
  have qO21 := O2.cell 1
  go_wp2_with fail
  go_at_call 49
  clear qO10 qO11 qO20 qO21
  refine (ern (put_v_w _ _ _ _ _ _ _ _ _ _ 128 0 _ ra rb (by unfold I64; omega) (by unfold I64; omega)) (z := 12) (by decide +kernel) (by decide +kernel)).mono ?_
  rintro e wk ⟨A21, n21, c21, rfl, hc21, hn21, hv, hb⟩
  replace O1 := O1.step hb
  replace O2 := O2.step hb
  replace r1 := r1.step hb
  replace r2 := r2.step hb
  replace ra := ra.step hb
  replace rb := rb.step hb
  replace TT := TT.step hb
  replace BB := below_step BB hb
  replace O1 := O1.alloc (.cells #[.slice A21 n21 c21, .bool false] 24)
  replace O2 := O2.alloc (.cells #[.slice A21 n21 c21, .bool false] 24)
  replace r1 := r1.alloc (.cells #[.slice A21 n21 c21, .bool false] 24)
  replace r2 := r2.alloc (.cells #[.slice A21 n21 c21, .bool false] 24)
  replace ra := ra.alloc (.cells #[.slice A21 n21 c21, .bool false] 24)
  replace rb := rb.alloc (.cells #[.slice A21 n21 c21, .bool false] 24)
  replace TT := TT.alloc (.cells #[.slice A21 n21 c21, .bool false] 24)
  replace BB := below_new BB (.cells #[.slice A21 n21 c21, .bool false] 24)
  clear hb hv
  have qO10 := O1.cell 0
  have qO11 := O1.cell 1
  have qO20 := O2.cell 0
  have qO21 := O2.cell 1
  clear ra
  clear rb
  go_wp2_with fail
  go_at_call 28
  clear qO10 qO11 qO20 qO21
  generalize wk.heap.size = g21 at *
  generalize wk.alloc (.cells #[.slice A21 n21 c21, .bool false] 24) = u21 at *
  refine (chkn (check_any none 0 0 false [] _ (Rb.nil _)) (z := 4) (by decide +kernel)).mono ?_
  rintro e wk ⟨rfl, hb⟩
  replace O1 := O1.step hb
  replace O2 := O2.step hb
  replace r1 := r1.step hb
  replace r2 := r2.step hb
  replace TT := TT.step hb
  replace BB := below_step BB hb
  clear hb
  obtain ⟨u22, rfl⟩ : ∃ u : World, u = wk := ⟨_, rfl⟩
  have qO10 := O1.cell 0
  have qO11 := O1.cell 1
  have qO20 := O2.cell 0
  have qO21 := O2.cell 1
  go_wp2_with fail
  go_at_call 28
  clear qO10 qO11 qO20 qO21
  refine (chkn (check_any _ _ _ _ _ _ r1) (z := 5) (by decide +kernel)).mono ?_
  rintro e wk ⟨rfl, hb⟩
  replace O1 := O1.step hb
  replace O2 := O2.step hb
  replace r1 := r1.step hb
  replace r2 := r2.step hb
  replace TT := TT.step hb
  replace BB := below_step BB hb
  clear hb
  obtain ⟨u23, rfl⟩ : ∃ u : World, u = wk := ⟨_, rfl⟩
  have qO10 := O1.cell 0
  have qO11 := O1.cell 1
  have qO20 := O2.cell 0
  have qO21 := O2.cell 1
  go_wp2_with fail
  go_at_call 28
  clear qO10 qO11 qO20 qO21
  refine (chkn (check_any _ _ _ _ _ _ r2) (z := 1) (by decide +kernel)).mono ?_
  rintro e wk ⟨rfl, hb⟩
  replace O1 := O1.step hb
  replace O2 := O2.step hb
  replace r1 := r1.step hb
  replace r2 := r2.step hb
  replace TT := TT.step hb
  replace BB := below_step BB hb
  clear hb
  obtain ⟨u24, rfl⟩ : ∃ u : World, u = wk := ⟨_, rfl⟩
  have qO10 := O1.cell 0
  have qO11 := O1.cell 1
  have qO20 := O2.cell 0
  have qO21 := O2.cell 1
  go_wp2_with fail
  clear qO10 qO11 qO20 qO21
  replace BB := Lib.hid BB
  refine region_y (by kernel_rfl) (fun u => owns g1 #[.slice A1 n1 c1, .bool false] u ∧ (owns g2 #[.slice A2 2 2, .bool true] u ∧ (rds A1 n1 (allV 1 (129 : Int).toNat false).l u ∧ (rds A2 2 [0, 4] u ∧ (tbs u ∧ blw w u))))) [] (ex16 A1 A2 n1 c1) ((some 147) :: (some 148) :: (some 149) :: (some 150) :: (some 151) :: (some 152) :: (some 153) :: (some 154) :: (some 155) :: (some 156) :: (some 157) :: (some 158) :: (some 159) :: (some 160) :: (some 161) :: (some 162) :: (some 163) :: (some 164) :: (some 165) :: (some 166) :: (some 167) :: (some 168) :: (some 169) :: (some 170) :: (some 171) :: (some 172) :: (some 173) :: (some 174) :: (some 175) :: (some 176) :: (some 177) :: (some 178) :: (some 179) :: (some 180) :: (some 181) :: (some 182) :: (some 183) :: (some 184) :: (some 185) :: (some 186) :: (some 187) :: (some 188) :: (some 189) :: (some 190) :: (some 191) :: (some 192) :: (some 193) :: (some 194) :: (some 195) :: (some 196) :: (some 197) :: (some 198) :: (some 199) :: (some 200) :: (some 201) :: (some 202) :: (some 203) :: (some 204) :: (some 205) :: (some 206) :: (some 207) :: (some 208) :: (some 209) :: (some 210) :: (some 211) :: (some 212) :: (some 213) :: (some 214) :: (some 215) :: (some 216) :: (some 217) :: (some 218) :: (some 219) :: (some 220) :: (some 221) :: (some 222) :: (some 223) :: (some 224) :: (some 225) :: (some 226) :: (some 227) :: (some 228) :: (some 229) :: (some 230) :: (some 231) :: (some 232) :: (some 233) :: (some 234) :: (some 235) :: (some 236) :: (some 237) :: (some 238) :: (some 239) :: (some 240) :: (some 241) :: (some 242) :: (some 243) :: (some 244) :: (some 245) :: (some 246) :: (some 247) :: (some 248) :: (some 249) :: (some 250) :: (some 251) :: (some 252) :: (some 253) :: (some 254) :: (some 255) :: (some 256) :: (some 257) :: (some 258) :: (some 259) :: (some 260) :: (some 261) :: (some 262) :: (some 263) :: (some 264) :: (some 265) :: (some 266) :: (some 267) :: (some 268) :: (some 269) :: (some 270) :: (some 271) :: (some 272) :: (some 273) :: (some 274) :: (some 275) :: (some 276) :: (some 277) :: (some 278) :: (some 279) :: (some 280) :: (some 281) :: (some 282) :: (some 283) :: (some 284) :: (some 285) :: (some 286) :: (some 287) :: (some 288) :: (some 289) :: (some 290) :: (some 291) :: (some 292) :: (some 293) :: (some 294) :: (some 295) :: (some 296) :: (some 297) :: (some 298) :: (some 299) :: (some 300) :: (some 301) :: (some 302) :: (some 303) :: (some 304) :: (some 305) :: (some 306) :: (some 307) :: (some 308) :: (some 309) :: (some 310) :: (some 311) :: (some 312) :: (some 313) :: (some 314) :: (some 315) :: (some 316) :: (some 317) :: (some 318) :: (some 319) :: (some 320) :: (some 321) :: (some 322) :: (some 323) :: (some 324) :: (some 325) :: (some 326) :: (some 327) :: (some 328) :: (some 329) :: (some 330) :: (some 331) :: (some 332) :: (some 333) :: (some 334) :: (some 335) :: (some 336) :: (some 337) :: (some 338) :: (some 339) :: (some 340) :: (some 341) :: (some 342) :: (some 343) :: (some 344) :: (some 345) :: (some 346) :: (some 347) :: (some 348) :: (some 349) :: (some 350) :: (some 351) :: (some 352) :: (some 353) :: (some 354) :: (some 355) :: (some 356) :: (some 357) :: (some 358) :: (some 359) :: (some 360) :: (some 361) :: (some 362) :: (some 363) :: (some 364) :: (some 365) :: (some 366) :: (some 367) :: (some 368) :: (some 369) :: (some 370) :: (some 371) :: (some 372) :: (some 373) :: (some 374) :: (some 375) :: (some 376) :: (some 377) :: (some 378) :: (some 379) :: (some 380) :: (some 381) :: (some 382) :: (some 383) :: (some 384) :: (some 385) :: (some 386) :: []) ([] :: [0] :: [1] :: [1, 2] :: [] :: [2] :: [4, 5, 5] :: [6] :: [6, 7] :: [] :: [7] :: [9, 10, 10] :: [11] :: [11, 12] :: [12] :: [14] :: [14, 15, 15] :: [16] :: [16, 17] :: [17] :: [19] :: [19, 20, 20] :: [21] :: [21, 22] :: [22] :: [24] :: [24, 25, 25] :: [26] :: [26, 27] :: [27] :: [29] :: [29, 30, 30] :: [31] :: [31, 32] :: [32] :: [34] :: [34, 35, 35] :: [36] :: [36, 37] :: [37] :: [39] :: [39, 40, 40] :: [41] :: [41, 42] :: [42] :: [44] :: [44, 45, 45] :: [46] :: [46, 47] :: [47] :: [49] :: [49, 50, 50] :: [51] :: [51, 52] :: [52] :: [54] :: [54, 55, 55] :: [56] :: [56, 57] :: [57] :: [59] :: [59, 60, 60] :: [61] :: [61, 62] :: [62] :: [64] :: [64, 65, 65] :: [66] :: [66, 67] :: [67] :: [69] :: [69, 70, 70] :: [71] :: [71, 72] :: [72] :: [74] :: [74, 75, 75] :: [76] :: [76, 77] :: [77] :: [79] :: [79, 80, 80] :: [81] :: [81, 82] :: [82] :: [84] :: [84, 85, 85] :: [86] :: [86, 87] :: [87] :: [89] :: [89, 90, 90] :: [91] :: [91, 92] :: [92] :: [94] :: [94, 95, 95] :: [96] :: [96, 97] :: [97] :: [99] :: [99, 100, 100] :: [101] :: [101, 102] :: [102] :: [104] :: [104, 105, 105] :: [106] :: [106, 107] :: [107] :: [109] :: [109, 110, 110] :: [111] :: [111, 112] :: [112] :: [114] :: [114, 115, 115] :: [116] :: [116, 117] :: [117] :: [119] :: [119, 120, 120] :: [121] :: [121, 122] :: [122] :: [124, 124] :: [125] :: [125, 126] :: [126] :: [128, 128] :: [129] :: [129, 130] :: [130] :: [132, 132] :: [133] :: [133, 134] :: [134] :: [136, 136] :: [137] :: [137, 138] :: [138] :: [140, 140] :: [141] :: [141, 142] :: [142] :: [144, 144] :: [145] :: [145, 146] :: [146] :: [148, 148] :: [149] :: [149, 150] :: [150] :: [152] :: [152, 153, 153] :: [154] :: [154, 155] :: [155] :: [157] :: [157, 158, 158] :: [159] :: [159, 160] :: [160] :: [162, 162] :: [163] :: [163, 164] :: [164] :: [166, 166] :: [167] :: [167, 168] :: [168] :: [170] :: [170, 171, 171] :: [172] :: [172, 173] :: [173] :: [175] :: [175, 176, 176] :: [177] :: [177, 178] :: [178] :: [180] :: [180, 181, 181] :: [182] :: [182, 183] :: [183] :: [185] :: [185, 186, 186] :: [187] :: [187, 188] :: [188] :: [190] :: [190, 191, 191] :: [192] :: [192, 193] :: [193] :: [195] :: [195, 196, 196] :: [197] :: [197, 198] :: [198] :: [200] :: [200, 201, 201] :: [202] :: [202, 203] :: [203] :: [205] :: [205, 206, 206] :: [207] :: [207, 208] :: [208] :: [210] :: [210, 211, 211] :: [212] :: [212, 213] :: [213] :: [215] :: [216] :: [215, 216, 217, 217] :: [218] :: [218, 219] :: [219] :: [221] :: [222] :: [221, 222, 223, 223] :: [224] :: [224, 225] :: [225] :: [227] :: [228] :: [227, 228, 229, 229] :: [230] :: [230, 231] :: [] :: [233, 231] :: [234] :: [234, 235] :: [3, 8, 13, 18, 23, 28, 33, 38, 43, 48, 53, 58, 63, 68, 73, 78, 83, 88, 93, 98, 103, 108, 113, 118, 123, 127, 131, 135, 139, 143, 147, 151, 156, 161, 165, 169, 174, 179, 184, 189, 194, 199, 204, 209, 214, 220, 226, 232, 236] :: [237] :: [] :: []) (by kernel_rfl) (by kernel_rfl) rfl (by kernel_rfl) (by kernel_rfl) (by kernel_rfl) ⟨O1.drew, O2.drew, r1.drew, r2.drew, TT.drew, below_drew BB.out⟩ (fun _ h => by cases h) ?_ ?_
  · refine ⟨?_, ?_, ?_, ?_, ?_, ?_, ?_, ?_, ?_, ?_, ?_, ?_, ?_, ?_, ?_, ?_, ?_, ?_, ?_, ?_, ?_, ?_, ?_, ?_, ?_, ?_, ?_, ?_, ?_, ?_, ?_, ?_, ?_, ?_, ?_, ?_, ?_, ?_, ?_, ?_, ?_, ?_, ?_, ?_, ?_, ?_, ?_, ?_, ?_, ?_, ?_, ?_, ?_, ?_, ?_, ?_, ?_, ?_, ?_, ?_, ?_, ?_, ?_, ?_, ?_, ?_, ?_, ?_, ?_, ?_, ?_, ?_, ?_, ?_, ?_, ?_, ?_, ?_, ?_, ?_, ?_, ?_, ?_, ?_, ?_, ?_, ?_, ?_, ?_, ?_, ?_, ?_, ?_, ?_, ?_, ?_, ?_, ?_, ?_, ?_, ?_, ?_, ?_, ?_, ?_, ?_, ?_, ?_, ?_, ?_, ?_, ?_, ?_, ?_, ?_, ?_, ?_, ?_, ?_, ?_, ?_, ?_, ?_, ?_, ?_, ?_, ?_, ?_, ?_, ?_, ?_, ?_, ?_, ?_, ?_, ?_, ?_, ?_, ?_, ?_, ?_, ?_, ?_, ?_, ?_, ?_, ?_, ?_, ?_, ?_, ?_, ?_, ?_, ?_, ?_, ?_, ?_, ?_, ?_, ?_, ?_, ?_, ?_, ?_, ?_, ?_, ?_, ?_, ?_, ?_, ?_, ?_, ?_, ?_, ?_, ?_, ?_, ?_, ?_, ?_, ?_, ?_, ?_, ?_, ?_, ?_, ?_, ?_, ?_, ?_, ?_, ?_, ?_, ?_, ?_, ?_, ?_, ?_, ?_, ?_, ?_, ?_, ?_, ?_, ?_, ?_, ?_, ?_, ?_, ?_, ?_, ?_, ?_, ?_, ?_, ?_, ?_, ?_, ?_, ?_, ?_, ?_, ?_, ?_, ?_, ?_, ?_, ?_, ?_, ?_, ?_, ?_, ?_, ?_, ?_, ?_, ?_, ?_, ?_, ?_, trivial⟩
    · as_aux_lemma =>
      intro a w' hS hO hF' hP K hK
      have ha := hO 2 (by rfl)
      refine if_ok (by rfl) ?_
      refine wp_load_row 24 (.tmp 2) rfl g2 (ev ha) _ _ (0, 0) _ hS.2.1 Tryz.underlying24 rfl (by kernel_rfl) ?_
      exact hK _ w' nofun (keep_same hS) rfl
    · as_aux_lemma =>
      intro a w' hS hO hF' hP K hK
      obtain ⟨_, f0, rfl⟩ := (hF' 0 rfl).1 147 _ rfl rfl
      refine if_ok (by rfl) ?_
      refine wp_calls rfl (enters_of Tryz.func55 (by kernel_rfl) rfl) (args := #[(.agg #[.slice A2 2 2, .bool true])]) (by simp [Act.eval, f0]) ?_
      obtain ⟨O1, O2, r1, r2, TT, BB⟩ := id hS
      apply Calls.mono
      (with_reducible apply not_v_w); (repeat (first | assumption | (with_reducible (apply Nb.rd; assumption)) | (with_reducible (apply Rb.at_later; assumption)) | (with_reducible (apply Tabs.at_later; assumption)) | (with_reducible apply Rb.alloc) | (with_reducible apply Tabs.alloc) | (with_reducible apply Rb.drew) | (with_reducible apply Tabs.drew) | (show I64 _; unfold I64; omega) | omega))
      rintro e w2 ⟨A, n, c, rfl, hc, hn, hv, hb⟩
      exact ⟨_, rfl, hK _ w2 nofun (keep_below hb hS) ⟨A, n, c, rfl, hc, hn, hv.rd⟩⟩
    · as_aux_lemma =>
      intro a w' hS hO hF' hP K hK
      refine if_ok (by rfl) ?_
      refine wp_calls rfl (enters_of Tryz.func54 (by kernel_rfl) rfl) (args := #[(.string ⟨#[120]⟩)]) (by simp [Act.eval]) ?_
      obtain ⟨O1, O2, r1, r2, TT, BB⟩ := id hS
      apply Calls.mono
      (with_reducible apply of_w); decide
      rintro e w2 ⟨A, n, c, rfl, hc, hn, hv, hb⟩
      exact ⟨_, rfl, hK _ w2 nofun (keep_below hb hS) ⟨A, n, c, rfl, hc, hn, hv.rd⟩⟩
    · as_aux_lemma =>
      intro a w' hS hO hF' hP K hK
      obtain ⟨_, f0, Ay0, ny0, cy0, rfl, hc0, hn0, hr0⟩ := (hF' 1 rfl).1 148 _ rfl rfl
      obtain ⟨_, f1, Ay1, ny1, cy1, rfl, hc1, hn1, hr1⟩ := (hF' 2 rfl).1 149 _ rfl rfl
      refine if_ok (by rfl) ?_
      refine wp_bldR _ _ rfl (ev f0) (ev f1) ?_
      exact hK _ w' nofun (keep_same hS) ⟨Ay0, ny0, cy0, Ay1, ny1, cy1, rfl, ⟨hc0, hn0, hr0⟩, hc1, hn1, hr1⟩
    · as_aux_lemma =>
      intro a w' hS hO hF' hP K hK
      have ha := hO 1 (by rfl)
      refine if_ok (by rfl) ?_
      refine wp_load_row 24 (.tmp 1) rfl g1 (ev ha) _ _ (0, 0) _ hS.1 Tryz.underlying24 rfl (by kernel_rfl) ?_
      exact hK _ w' nofun (keep_same hS) rfl
    · as_aux_lemma =>
      intro a w' hS hO hF' hP K hK
      refine if_ok (by rfl) ?_
      refine wp_calls rfl (enters_of Tryz.func54 (by kernel_rfl) rfl) (args := #[(.string ⟨#[48, 49]⟩)]) (by simp [Act.eval]) ?_
      obtain ⟨O1, O2, r1, r2, TT, BB⟩ := id hS
      apply Calls.mono
      (with_reducible apply of_w); decide
      rintro e w2 ⟨A, n, c, rfl, hc, hn, hv, hb⟩
      exact ⟨_, rfl, hK _ w2 nofun (keep_below hb hS) ⟨A, n, c, rfl, hc, hn, hv.rd⟩⟩
    · as_aux_lemma =>
      intro a w' hS hO hF' hP K hK
      obtain ⟨_, f0, rfl⟩ := (hF' 4 rfl).1 151 _ rfl rfl
      obtain ⟨_, f1, Ay1, ny1, cy1, rfl, hc1, hn1, hr1⟩ := (hF' 5 rfl).1 152 _ rfl rfl
      refine if_ok (by rfl) ?_
      refine wp_calls rfl (enters_of Tryz.func56 (by kernel_rfl) rfl) (args := #[(.agg #[.slice A1 n1 c1, .bool false]), (.agg #[.slice Ay1 ny1 cy1, .bool (⟨ofL ⟨#[48, 49]⟩, false⟩ : V).s])]) (by simp [Act.eval, f0, f1]) ?_
      obtain ⟨O1, O2, r1, r2, TT, BB⟩ := id hS
      apply Calls.mono
      (with_reducible apply vAdd_any_w); (repeat (first | assumption | (with_reducible (apply Nb.rd; assumption)) | (with_reducible (apply Rb.at_later; assumption)) | (with_reducible (apply Tabs.at_later; assumption)) | (with_reducible apply Rb.alloc) | (with_reducible apply Tabs.alloc) | (with_reducible apply Rb.drew) | (with_reducible apply Tabs.drew) | (show I64 _; unfold I64; omega) | omega))
      rintro e w2 ⟨A, n, c, rfl, hc, hn, hv, hb⟩
      exact ⟨_, rfl, hK _ w2 nofun (keep_below hb hS) ⟨A, n, c, rfl, hc, hn, hv.rd⟩⟩
    · as_aux_lemma =>
      intro a w' hS hO hF' hP K hK
      refine if_ok (by rfl) ?_
      refine wp_calls rfl (enters_of Tryz.func54 (by kernel_rfl) rfl) (args := #[(.string ⟨#[120, 120]⟩)]) (by simp [Act.eval]) ?_
      obtain ⟨O1, O2, r1, r2, TT, BB⟩ := id hS
      apply Calls.mono
      (with_reducible apply of_w); decide
      rintro e w2 ⟨A, n, c, rfl, hc, hn, hv, hb⟩
      exact ⟨_, rfl, hK _ w2 nofun (keep_below hb hS) ⟨A, n, c, rfl, hc, hn, hv.rd⟩⟩
    · as_aux_lemma =>
      intro a w' hS hO hF' hP K hK
      obtain ⟨_, f0, Ay0, ny0, cy0, rfl, hc0, hn0, hr0⟩ := (hF' 6 rfl).1 153 _ rfl rfl
      obtain ⟨_, f1, Ay1, ny1, cy1, rfl, hc1, hn1, hr1⟩ := (hF' 7 rfl).1 154 _ rfl rfl
      refine if_ok (by rfl) ?_
      refine wp_bldR _ _ rfl (ev f0) (ev f1) ?_
      exact hK _ w' nofun (keep_same hS) ⟨Ay0, ny0, cy0, Ay1, ny1, cy1, rfl, ⟨hc0, hn0, hr0⟩, hc1, hn1, hr1⟩
    · as_aux_lemma =>
      intro a w' hS hO hF' hP K hK
      refine if_ok (by rfl) ?_
      refine wp_bldN rfl ?_
      exact hK _ w' nofun (keep_same hS) ⟨none, 0, 0, rfl, Nat.le_refl _, by decide, Rb.nil _⟩
    · as_aux_lemma =>
      intro a w' hS hO hF' hP K hK
      refine if_ok (by rfl) ?_
      refine wp_calls rfl (enters_of Tryz.func54 (by kernel_rfl) rfl) (args := #[(.string ⟨#[49]⟩)]) (by simp [Act.eval]) ?_
      obtain ⟨O1, O2, r1, r2, TT, BB⟩ := id hS
      apply Calls.mono
      (with_reducible apply of_w); decide
      rintro e w2 ⟨A, n, c, rfl, hc, hn, hv, hb⟩
      exact ⟨_, rfl, hK _ w2 nofun (keep_below hb hS) ⟨A, n, c, rfl, hc, hn, hv.rd⟩⟩
    · as_aux_lemma =>
      intro a w' hS hO hF' hP K hK
      obtain ⟨_, f0, Ay0, ny0, cy0, rfl, hc0, hn0, hr0⟩ := (hF' 9 rfl).1 156 _ rfl rfl
      obtain ⟨_, f1, Ay1, ny1, cy1, rfl, hc1, hn1, hr1⟩ := (hF' 10 rfl).1 157 _ rfl rfl
      refine if_ok (by rfl) ?_
      refine wp_calls rfl (enters_of Tryz.func57 (by kernel_rfl) rfl) (args := #[(.agg #[.slice Ay0 ny0 cy0, .bool (⟨[], false⟩ : V).s]), (.agg #[.slice Ay1 ny1 cy1, .bool (⟨ofL ⟨#[49]⟩, false⟩ : V).s])]) (by simp [Act.eval, f0, f1]) ?_
      obtain ⟨O1, O2, r1, r2, TT, BB⟩ := id hS
      apply Calls.mono
      (with_reducible apply vOr_any_w); (repeat (first | assumption | (with_reducible (apply Nb.rd; assumption)) | (with_reducible (apply Rb.at_later; assumption)) | (with_reducible (apply Tabs.at_later; assumption)) | (with_reducible apply Rb.alloc) | (with_reducible apply Tabs.alloc) | (with_reducible apply Rb.drew) | (with_reducible apply Tabs.drew) | (show I64 _; unfold I64; omega) | omega))
      rintro e w2 ⟨A, n, c, rfl, hc, hn, hv, hb⟩
      exact ⟨_, rfl, hK _ w2 nofun (keep_below hb hS) ⟨A, n, c, rfl, hc, hn, hv.rd⟩⟩
    · as_aux_lemma =>
      intro a w' hS hO hF' hP K hK
      refine if_ok (by rfl) ?_
      refine wp_calls rfl (enters_of Tryz.func54 (by kernel_rfl) rfl) (args := #[(.string ⟨#[49]⟩)]) (by simp [Act.eval]) ?_
      obtain ⟨O1, O2, r1, r2, TT, BB⟩ := id hS
      apply Calls.mono
      (with_reducible apply of_w); decide
      rintro e w2 ⟨A, n, c, rfl, hc, hn, hv, hb⟩
      exact ⟨_, rfl, hK _ w2 nofun (keep_below hb hS) ⟨A, n, c, rfl, hc, hn, hv.rd⟩⟩
    · as_aux_lemma =>
      intro a w' hS hO hF' hP K hK
      obtain ⟨_, f0, Ay0, ny0, cy0, rfl, hc0, hn0, hr0⟩ := (hF' 11 rfl).1 158 _ rfl rfl
      obtain ⟨_, f1, Ay1, ny1, cy1, rfl, hc1, hn1, hr1⟩ := (hF' 12 rfl).1 159 _ rfl rfl
      refine if_ok (by rfl) ?_
      refine wp_bldR _ _ rfl (ev f0) (ev f1) ?_
      exact hK _ w' nofun (keep_same hS) ⟨Ay0, ny0, cy0, Ay1, ny1, cy1, rfl, ⟨hc0, hn0, hr0⟩, hc1, hn1, hr1⟩
    · as_aux_lemma =>
      intro a w' hS hO hF' hP K hK
      refine if_ok (by rfl) ?_
      refine wp_calls rfl (enters_of Tryz.func59 (by kernel_rfl) rfl) (args := #[(.string ⟨#[49, 48, 48, 49]⟩)]) (by simp [Act.eval]) ?_
      obtain ⟨O1, O2, r1, r2, TT, BB⟩ := id hS
      apply Calls.mono
      (with_reducible apply sof_w); decide
      rintro e w2 ⟨A, n, c, rfl, hc, hn, hv, hb⟩
      exact ⟨_, rfl, hK _ w2 nofun (keep_below hb hS) ⟨A, n, c, rfl, hc, hn, hv.rd⟩⟩
    · as_aux_lemma =>
      intro a w' hS hO hF' hP K hK
      refine if_ok (by rfl) ?_
      refine wp_calls rfl (enters_of Tryz.func59 (by kernel_rfl) rfl) (args := #[(.string ⟨#[48, 48, 49, 48]⟩)]) (by simp [Act.eval]) ?_
      obtain ⟨O1, O2, r1, r2, TT, BB⟩ := id hS
      apply Calls.mono
      (with_reducible apply sof_w); decide
      rintro e w2 ⟨A, n, c, rfl, hc, hn, hv, hb⟩
      exact ⟨_, rfl, hK _ w2 nofun (keep_below hb hS) ⟨A, n, c, rfl, hc, hn, hv.rd⟩⟩
    · as_aux_lemma =>
      intro a w' hS hO hF' hP K hK
      obtain ⟨_, f0, Ay0, ny0, cy0, rfl, hc0, hn0, hr0⟩ := (hF' 14 rfl).1 161 _ rfl rfl
      obtain ⟨_, f1, Ay1, ny1, cy1, rfl, hc1, hn1, hr1⟩ := (hF' 15 rfl).1 162 _ rfl rfl
      refine if_ok (by rfl) ?_
      refine wp_calls rfl (enters_of Tryz.func58 (by kernel_rfl) rfl) (args := #[(.agg #[.slice Ay0 ny0 cy0, .bool (⟨ofL ⟨#[49, 48, 48, 49]⟩, true⟩ : V).s]), (.agg #[.slice Ay1 ny1 cy1, .bool (⟨ofL ⟨#[48, 48, 49, 48]⟩, true⟩ : V).s])]) (by simp [Act.eval, f0, f1]) ?_
      obtain ⟨O1, O2, r1, r2, TT, BB⟩ := id hS
      apply Calls.mono
      (with_reducible apply vDiv_any_w); (repeat (first | assumption | (with_reducible (apply Nb.rd; assumption)) | (with_reducible (apply Rb.at_later; assumption)) | (with_reducible (apply Tabs.at_later; assumption)) | (with_reducible apply Rb.alloc) | (with_reducible apply Tabs.alloc) | (with_reducible apply Rb.drew) | (with_reducible apply Tabs.drew) | (show I64 _; unfold I64; omega) | omega))
      rintro e w2 ⟨A, n, c, rfl, hc, hn, hv, hb⟩
      exact ⟨_, rfl, hK _ w2 nofun (keep_below hb hS) ⟨A, n, c, rfl, hc, hn, hv.rd⟩⟩
    · as_aux_lemma =>
      intro a w' hS hO hF' hP K hK
      refine if_ok (by rfl) ?_
      refine wp_calls rfl (enters_of Tryz.func59 (by kernel_rfl) rfl) (args := #[(.string ⟨#[49, 49, 48, 49]⟩)]) (by simp [Act.eval]) ?_
      obtain ⟨O1, O2, r1, r2, TT, BB⟩ := id hS
      apply Calls.mono
      (with_reducible apply sof_w); decide
      rintro e w2 ⟨A, n, c, rfl, hc, hn, hv, hb⟩
      exact ⟨_, rfl, hK _ w2 nofun (keep_below hb hS) ⟨A, n, c, rfl, hc, hn, hv.rd⟩⟩
    · as_aux_lemma =>
      intro a w' hS hO hF' hP K hK
      obtain ⟨_, f0, Ay0, ny0, cy0, rfl, hc0, hn0, hr0⟩ := (hF' 16 rfl).1 163 _ rfl rfl
      obtain ⟨_, f1, Ay1, ny1, cy1, rfl, hc1, hn1, hr1⟩ := (hF' 17 rfl).1 164 _ rfl rfl
      refine if_ok (by rfl) ?_
      refine wp_bldR _ _ rfl (ev f0) (ev f1) ?_
      exact hK _ w' nofun (keep_same hS) ⟨Ay0, ny0, cy0, Ay1, ny1, cy1, rfl, ⟨hc0, hn0, hr0⟩, hc1, hn1, hr1⟩
    · as_aux_lemma =>
      intro a w' hS hO hF' hP K hK
      refine if_ok (by rfl) ?_
      refine wp_calls rfl (enters_of Tryz.func59 (by kernel_rfl) rfl) (args := #[(.string ⟨#[49, 48, 48, 49]⟩)]) (by simp [Act.eval]) ?_
      obtain ⟨O1, O2, r1, r2, TT, BB⟩ := id hS
      apply Calls.mono
      (with_reducible apply sof_w); decide
      rintro e w2 ⟨A, n, c, rfl, hc, hn, hv, hb⟩
      exact ⟨_, rfl, hK _ w2 nofun (keep_below hb hS) ⟨A, n, c, rfl, hc, hn, hv.rd⟩⟩
    · as_aux_lemma =>
      intro a w' hS hO hF' hP K hK
      refine if_ok (by rfl) ?_
      refine wp_calls rfl (enters_of Tryz.func59 (by kernel_rfl) rfl) (args := #[(.string ⟨#[48, 48, 49, 48]⟩)]) (by simp [Act.eval]) ?_
      obtain ⟨O1, O2, r1, r2, TT, BB⟩ := id hS
      apply Calls.mono
      (with_reducible apply sof_w); decide
      rintro e w2 ⟨A, n, c, rfl, hc, hn, hv, hb⟩
      exact ⟨_, rfl, hK _ w2 nofun (keep_below hb hS) ⟨A, n, c, rfl, hc, hn, hv.rd⟩⟩
    · as_aux_lemma =>
      intro a w' hS hO hF' hP K hK
      obtain ⟨_, f0, Ay0, ny0, cy0, rfl, hc0, hn0, hr0⟩ := (hF' 19 rfl).1 166 _ rfl rfl
      obtain ⟨_, f1, Ay1, ny1, cy1, rfl, hc1, hn1, hr1⟩ := (hF' 20 rfl).1 167 _ rfl rfl
      refine if_ok (by rfl) ?_
      refine wp_calls rfl (enters_of Tryz.func60 (by kernel_rfl) rfl) (args := #[(.agg #[.slice Ay0 ny0 cy0, .bool (⟨ofL ⟨#[49, 48, 48, 49]⟩, true⟩ : V).s]), (.agg #[.slice Ay1 ny1 cy1, .bool (⟨ofL ⟨#[48, 48, 49, 48]⟩, true⟩ : V).s])]) (by simp [Act.eval, f0, f1]) ?_
      obtain ⟨O1, O2, r1, r2, TT, BB⟩ := id hS
      apply Calls.mono
      (with_reducible apply vMod_any_w); (repeat (first | assumption | (with_reducible (apply Nb.rd; assumption)) | (with_reducible (apply Rb.at_later; assumption)) | (with_reducible (apply Tabs.at_later; assumption)) | (with_reducible apply Rb.alloc) | (with_reducible apply Tabs.alloc) | (with_reducible apply Rb.drew) | (with_reducible apply Tabs.drew) | (show I64 _; unfold I64; omega) | omega))
      rintro e w2 ⟨A, n, c, rfl, hc, hn, hv, hb⟩
      exact ⟨_, rfl, hK _ w2 nofun (keep_below hb hS) ⟨A, n, c, rfl, hc, hn, hv.rd⟩⟩
    · as_aux_lemma =>
      intro a w' hS hO hF' hP K hK
      refine if_ok (by rfl) ?_
      refine wp_calls rfl (enters_of Tryz.func59 (by kernel_rfl) rfl) (args := #[(.string ⟨#[49, 49, 49, 49]⟩)]) (by simp [Act.eval]) ?_
      obtain ⟨O1, O2, r1, r2, TT, BB⟩ := id hS
      apply Calls.mono
      (with_reducible apply sof_w); decide
      rintro e w2 ⟨A, n, c, rfl, hc, hn, hv, hb⟩
      exact ⟨_, rfl, hK _ w2 nofun (keep_below hb hS) ⟨A, n, c, rfl, hc, hn, hv.rd⟩⟩
    · as_aux_lemma =>
      intro a w' hS hO hF' hP K hK
      obtain ⟨_, f0, Ay0, ny0, cy0, rfl, hc0, hn0, hr0⟩ := (hF' 21 rfl).1 168 _ rfl rfl
      obtain ⟨_, f1, Ay1, ny1, cy1, rfl, hc1, hn1, hr1⟩ := (hF' 22 rfl).1 169 _ rfl rfl
      refine if_ok (by rfl) ?_
      refine wp_bldR _ _ rfl (ev f0) (ev f1) ?_
      exact hK _ w' nofun (keep_same hS) ⟨Ay0, ny0, cy0, Ay1, ny1, cy1, rfl, ⟨hc0, hn0, hr0⟩, hc1, hn1, hr1⟩
    · as_aux_lemma =>
      intro a w' hS hO hF' hP K hK
      refine if_ok (by rfl) ?_
      refine wp_calls rfl (enters_of Tryz.func54 (by kernel_rfl) rfl) (args := #[(.string ⟨#[49, 48, 48, 49]⟩)]) (by simp [Act.eval]) ?_
      obtain ⟨O1, O2, r1, r2, TT, BB⟩ := id hS
      apply Calls.mono
      (with_reducible apply of_w); decide
      rintro e w2 ⟨A, n, c, rfl, hc, hn, hv, hb⟩
      exact ⟨_, rfl, hK _ w2 nofun (keep_below hb hS) ⟨A, n, c, rfl, hc, hn, hv.rd⟩⟩
    · as_aux_lemma =>
      intro a w' hS hO hF' hP K hK
      refine if_ok (by rfl) ?_
      refine wp_calls rfl (enters_of Tryz.func59 (by kernel_rfl) rfl) (args := #[(.string ⟨#[48, 48, 49, 48]⟩)]) (by simp [Act.eval]) ?_
      obtain ⟨O1, O2, r1, r2, TT, BB⟩ := id hS
      apply Calls.mono
      (with_reducible apply sof_w); decide
      rintro e w2 ⟨A, n, c, rfl, hc, hn, hv, hb⟩
      exact ⟨_, rfl, hK _ w2 nofun (keep_below hb hS) ⟨A, n, c, rfl, hc, hn, hv.rd⟩⟩
    · as_aux_lemma =>
      intro a w' hS hO hF' hP K hK
      obtain ⟨_, f0, Ay0, ny0, cy0, rfl, hc0, hn0, hr0⟩ := (hF' 24 rfl).1 171 _ rfl rfl
      obtain ⟨_, f1, Ay1, ny1, cy1, rfl, hc1, hn1, hr1⟩ := (hF' 25 rfl).1 172 _ rfl rfl
      refine if_ok (by rfl) ?_
      refine wp_calls rfl (enters_of Tryz.func58 (by kernel_rfl) rfl) (args := #[(.agg #[.slice Ay0 ny0 cy0, .bool (⟨ofL ⟨#[49, 48, 48, 49]⟩, false⟩ : V).s]), (.agg #[.slice Ay1 ny1 cy1, .bool (⟨ofL ⟨#[48, 48, 49, 48]⟩, true⟩ : V).s])]) (by simp [Act.eval, f0, f1]) ?_
      obtain ⟨O1, O2, r1, r2, TT, BB⟩ := id hS
      apply Calls.mono
      (with_reducible apply vDiv_any_w); (repeat (first | assumption | (with_reducible (apply Nb.rd; assumption)) | (with_reducible (apply Rb.at_later; assumption)) | (with_reducible (apply Tabs.at_later; assumption)) | (with_reducible apply Rb.alloc) | (with_reducible apply Tabs.alloc) | (with_reducible apply Rb.drew) | (with_reducible apply Tabs.drew) | (show I64 _; unfold I64; omega) | omega))
      rintro e w2 ⟨A, n, c, rfl, hc, hn, hv, hb⟩
      exact ⟨_, rfl, hK _ w2 nofun (keep_below hb hS) ⟨A, n, c, rfl, hc, hn, hv.rd⟩⟩
    · as_aux_lemma =>
      intro a w' hS hO hF' hP K hK
      refine if_ok (by rfl) ?_
      refine wp_calls rfl (enters_of Tryz.func54 (by kernel_rfl) rfl) (args := #[(.string ⟨#[48, 49, 48, 48]⟩)]) (by simp [Act.eval]) ?_
      obtain ⟨O1, O2, r1, r2, TT, BB⟩ := id hS
      apply Calls.mono
      (with_reducible apply of_w); decide
      rintro e w2 ⟨A, n, c, rfl, hc, hn, hv, hb⟩
      exact ⟨_, rfl, hK _ w2 nofun (keep_below hb hS) ⟨A, n, c, rfl, hc, hn, hv.rd⟩⟩
    · as_aux_lemma =>
      intro a w' hS hO hF' hP K hK
      obtain ⟨_, f0, Ay0, ny0, cy0, rfl, hc0, hn0, hr0⟩ := (hF' 26 rfl).1 173 _ rfl rfl
      obtain ⟨_, f1, Ay1, ny1, cy1, rfl, hc1, hn1, hr1⟩ := (hF' 27 rfl).1 174 _ rfl rfl
      refine if_ok (by rfl) ?_
      refine wp_bldR _ _ rfl (ev f0) (ev f1) ?_
      exact hK _ w' nofun (keep_same hS) ⟨Ay0, ny0, cy0, Ay1, ny1, cy1, rfl, ⟨hc0, hn0, hr0⟩, hc1, hn1, hr1⟩
    · as_aux_lemma =>
      intro a w' hS hO hF' hP K hK
      refine if_ok (by rfl) ?_
      refine wp_calls rfl (enters_of Tryz.func54 (by kernel_rfl) rfl) (args := #[(.string ⟨#[49]⟩)]) (by simp [Act.eval]) ?_
      obtain ⟨O1, O2, r1, r2, TT, BB⟩ := id hS
      apply Calls.mono
      (with_reducible apply of_w); decide
      rintro e w2 ⟨A, n, c, rfl, hc, hn, hv, hb⟩
      exact ⟨_, rfl, hK _ w2 nofun (keep_below hb hS) ⟨A, n, c, rfl, hc, hn, hv.rd⟩⟩
    · as_aux_lemma =>
      intro a w' hS hO hF' hP K hK
      refine if_ok (by rfl) ?_
      refine wp_calls rfl (enters_of Tryz.func54 (by kernel_rfl) rfl) (args := #[(.string ⟨#[48]⟩)]) (by simp [Act.eval]) ?_
      obtain ⟨O1, O2, r1, r2, TT, BB⟩ := id hS
      apply Calls.mono
      (with_reducible apply of_w); decide
      rintro e w2 ⟨A, n, c, rfl, hc, hn, hv, hb⟩
      exact ⟨_, rfl, hK _ w2 nofun (keep_below hb hS) ⟨A, n, c, rfl, hc, hn, hv.rd⟩⟩
    · as_aux_lemma =>
      intro a w' hS hO hF' hP K hK
      obtain ⟨_, f0, Ay0, ny0, cy0, rfl, hc0, hn0, hr0⟩ := (hF' 29 rfl).1 176 _ rfl rfl
      obtain ⟨_, f1, Ay1, ny1, cy1, rfl, hc1, hn1, hr1⟩ := (hF' 30 rfl).1 177 _ rfl rfl
      refine if_ok (by rfl) ?_
      refine wp_calls rfl (enters_of Tryz.func58 (by kernel_rfl) rfl) (args := #[(.agg #[.slice Ay0 ny0 cy0, .bool (⟨ofL ⟨#[49]⟩, false⟩ : V).s]), (.agg #[.slice Ay1 ny1 cy1, .bool (⟨ofL ⟨#[48]⟩, false⟩ : V).s])]) (by simp [Act.eval, f0, f1]) ?_
      obtain ⟨O1, O2, r1, r2, TT, BB⟩ := id hS
      apply Calls.mono
      (with_reducible apply vDiv_any_w); (repeat (first | assumption | (with_reducible (apply Nb.rd; assumption)) | (with_reducible (apply Rb.at_later; assumption)) | (with_reducible (apply Tabs.at_later; assumption)) | (with_reducible apply Rb.alloc) | (with_reducible apply Tabs.alloc) | (with_reducible apply Rb.drew) | (with_reducible apply Tabs.drew) | (show I64 _; unfold I64; omega) | omega))
      rintro e w2 ⟨A, n, c, rfl, hc, hn, hv, hb⟩
      exact ⟨_, rfl, hK _ w2 nofun (keep_below hb hS) ⟨A, n, c, rfl, hc, hn, hv.rd⟩⟩
    · as_aux_lemma =>
      intro a w' hS hO hF' hP K hK
      refine if_ok (by rfl) ?_
      refine wp_calls rfl (enters_of Tryz.func54 (by kernel_rfl) rfl) (args := #[(.string ⟨#[120]⟩)]) (by simp [Act.eval]) ?_
      obtain ⟨O1, O2, r1, r2, TT, BB⟩ := id hS
      apply Calls.mono
      (with_reducible apply of_w); decide
      rintro e w2 ⟨A, n, c, rfl, hc, hn, hv, hb⟩
      exact ⟨_, rfl, hK _ w2 nofun (keep_below hb hS) ⟨A, n, c, rfl, hc, hn, hv.rd⟩⟩
    · as_aux_lemma =>
      intro a w' hS hO hF' hP K hK
      obtain ⟨_, f0, Ay0, ny0, cy0, rfl, hc0, hn0, hr0⟩ := (hF' 31 rfl).1 178 _ rfl rfl
      obtain ⟨_, f1, Ay1, ny1, cy1, rfl, hc1, hn1, hr1⟩ := (hF' 32 rfl).1 179 _ rfl rfl
      refine if_ok (by rfl) ?_
      refine wp_bldR _ _ rfl (ev f0) (ev f1) ?_
      exact hK _ w' nofun (keep_same hS) ⟨Ay0, ny0, cy0, Ay1, ny1, cy1, rfl, ⟨hc0, hn0, hr0⟩, hc1, hn1, hr1⟩
    · as_aux_lemma =>
      intro a w' hS hO hF' hP K hK
      refine if_ok (by rfl) ?_
      refine wp_calls rfl (enters_of Tryz.func59 (by kernel_rfl) rfl) (args := #[(.string ⟨#[48, 49]⟩)]) (by simp [Act.eval]) ?_
      obtain ⟨O1, O2, r1, r2, TT, BB⟩ := id hS
      apply Calls.mono
      (with_reducible apply sof_w); decide
      rintro e w2 ⟨A, n, c, rfl, hc, hn, hv, hb⟩
      exact ⟨_, rfl, hK _ w2 nofun (keep_below hb hS) ⟨A, n, c, rfl, hc, hn, hv.rd⟩⟩
    · as_aux_lemma =>
      intro a w' hS hO hF' hP K hK
      refine if_ok (by rfl) ?_
      refine wp_calls rfl (enters_of Tryz.func59 (by kernel_rfl) rfl) (args := #[(.string ⟨#[48, 48, 48]⟩)]) (by simp [Act.eval]) ?_
      obtain ⟨O1, O2, r1, r2, TT, BB⟩ := id hS
      apply Calls.mono
      (with_reducible apply sof_w); decide
      rintro e w2 ⟨A, n, c, rfl, hc, hn, hv, hb⟩
      exact ⟨_, rfl, hK _ w2 nofun (keep_below hb hS) ⟨A, n, c, rfl, hc, hn, hv.rd⟩⟩
    · as_aux_lemma =>
      intro a w' hS hO hF' hP K hK
      obtain ⟨_, f0, Ay0, ny0, cy0, rfl, hc0, hn0, hr0⟩ := (hF' 34 rfl).1 181 _ rfl rfl
      obtain ⟨_, f1, Ay1, ny1, cy1, rfl, hc1, hn1, hr1⟩ := (hF' 35 rfl).1 182 _ rfl rfl
      refine if_ok (by rfl) ?_
      refine wp_calls rfl (enters_of Tryz.func60 (by kernel_rfl) rfl) (args := #[(.agg #[.slice Ay0 ny0 cy0, .bool (⟨ofL ⟨#[48, 49]⟩, true⟩ : V).s]), (.agg #[.slice Ay1 ny1 cy1, .bool (⟨ofL ⟨#[48, 48, 48]⟩, true⟩ : V).s])]) (by simp [Act.eval, f0, f1]) ?_
      obtain ⟨O1, O2, r1, r2, TT, BB⟩ := id hS
      apply Calls.mono
      (with_reducible apply vMod_any_w); (repeat (first | assumption | (with_reducible (apply Nb.rd; assumption)) | (with_reducible (apply Rb.at_later; assumption)) | (with_reducible (apply Tabs.at_later; assumption)) | (with_reducible apply Rb.alloc) | (with_reducible apply Tabs.alloc) | (with_reducible apply Rb.drew) | (with_reducible apply Tabs.drew) | (show I64 _; unfold I64; omega) | omega))
      rintro e w2 ⟨A, n, c, rfl, hc, hn, hv, hb⟩
      exact ⟨_, rfl, hK _ w2 nofun (keep_below hb hS) ⟨A, n, c, rfl, hc, hn, hv.rd⟩⟩
    · as_aux_lemma =>
      intro a w' hS hO hF' hP K hK
      refine if_ok (by rfl) ?_
      refine wp_calls rfl (enters_of Tryz.func59 (by kernel_rfl) rfl) (args := #[(.string ⟨#[120, 120, 120]⟩)]) (by simp [Act.eval]) ?_
      obtain ⟨O1, O2, r1, r2, TT, BB⟩ := id hS
      apply Calls.mono
      (with_reducible apply sof_w); decide
      rintro e w2 ⟨A, n, c, rfl, hc, hn, hv, hb⟩
      exact ⟨_, rfl, hK _ w2 nofun (keep_below hb hS) ⟨A, n, c, rfl, hc, hn, hv.rd⟩⟩
    · as_aux_lemma =>
      intro a w' hS hO hF' hP K hK
      obtain ⟨_, f0, Ay0, ny0, cy0, rfl, hc0, hn0, hr0⟩ := (hF' 36 rfl).1 183 _ rfl rfl
      obtain ⟨_, f1, Ay1, ny1, cy1, rfl, hc1, hn1, hr1⟩ := (hF' 37 rfl).1 184 _ rfl rfl
      refine if_ok (by rfl) ?_
      refine wp_bldR _ _ rfl (ev f0) (ev f1) ?_
      exact hK _ w' nofun (keep_same hS) ⟨Ay0, ny0, cy0, Ay1, ny1, cy1, rfl, ⟨hc0, hn0, hr0⟩, hc1, hn1, hr1⟩
    · as_aux_lemma =>
      intro a w' hS hO hF' hP K hK
      refine if_ok (by rfl) ?_
      refine wp_calls rfl (enters_of Tryz.func54 (by kernel_rfl) rfl) (args := #[(.string ⟨#[49, 120]⟩)]) (by simp [Act.eval]) ?_
      obtain ⟨O1, O2, r1, r2, TT, BB⟩ := id hS
      apply Calls.mono
      (with_reducible apply of_w); decide
      rintro e w2 ⟨A, n, c, rfl, hc, hn, hv, hb⟩
      exact ⟨_, rfl, hK _ w2 nofun (keep_below hb hS) ⟨A, n, c, rfl, hc, hn, hv.rd⟩⟩
    · as_aux_lemma =>
      intro a w' hS hO hF' hP K hK
      refine if_ok (by rfl) ?_
      refine wp_calls rfl (enters_of Tryz.func54 (by kernel_rfl) rfl) (args := #[(.string ⟨#[48, 49]⟩)]) (by simp [Act.eval]) ?_
      obtain ⟨O1, O2, r1, r2, TT, BB⟩ := id hS
      apply Calls.mono
      (with_reducible apply of_w); decide
      rintro e w2 ⟨A, n, c, rfl, hc, hn, hv, hb⟩
      exact ⟨_, rfl, hK _ w2 nofun (keep_below hb hS) ⟨A, n, c, rfl, hc, hn, hv.rd⟩⟩
    · as_aux_lemma =>
      intro a w' hS hO hF' hP K hK
      obtain ⟨_, f0, Ay0, ny0, cy0, rfl, hc0, hn0, hr0⟩ := (hF' 39 rfl).1 186 _ rfl rfl
      obtain ⟨_, f1, Ay1, ny1, cy1, rfl, hc1, hn1, hr1⟩ := (hF' 40 rfl).1 187 _ rfl rfl
      refine if_ok (by rfl) ?_
      refine wp_calls rfl (enters_of Tryz.func58 (by kernel_rfl) rfl) (args := #[(.agg #[.slice Ay0 ny0 cy0, .bool (⟨ofL ⟨#[49, 120]⟩, false⟩ : V).s]), (.agg #[.slice Ay1 ny1 cy1, .bool (⟨ofL ⟨#[48, 49]⟩, false⟩ : V).s])]) (by simp [Act.eval, f0, f1]) ?_
      obtain ⟨O1, O2, r1, r2, TT, BB⟩ := id hS
      apply Calls.mono
      (with_reducible apply vDiv_any_w); (repeat (first | assumption | (with_reducible (apply Nb.rd; assumption)) | (with_reducible (apply Rb.at_later; assumption)) | (with_reducible (apply Tabs.at_later; assumption)) | (with_reducible apply Rb.alloc) | (with_reducible apply Tabs.alloc) | (with_reducible apply Rb.drew) | (with_reducible apply Tabs.drew) | (show I64 _; unfold I64; omega) | omega))
      rintro e w2 ⟨A, n, c, rfl, hc, hn, hv, hb⟩
      exact ⟨_, rfl, hK _ w2 nofun (keep_below hb hS) ⟨A, n, c, rfl, hc, hn, hv.rd⟩⟩
    · as_aux_lemma =>
      intro a w' hS hO hF' hP K hK
      refine if_ok (by rfl) ?_
      refine wp_calls rfl (enters_of Tryz.func54 (by kernel_rfl) rfl) (args := #[(.string ⟨#[120, 120]⟩)]) (by simp [Act.eval]) ?_
      obtain ⟨O1, O2, r1, r2, TT, BB⟩ := id hS
      apply Calls.mono
      (with_reducible apply of_w); decide
      rintro e w2 ⟨A, n, c, rfl, hc, hn, hv, hb⟩
      exact ⟨_, rfl, hK _ w2 nofun (keep_below hb hS) ⟨A, n, c, rfl, hc, hn, hv.rd⟩⟩
    · as_aux_lemma =>
      intro a w' hS hO hF' hP K hK
      obtain ⟨_, f0, Ay0, ny0, cy0, rfl, hc0, hn0, hr0⟩ := (hF' 41 rfl).1 188 _ rfl rfl
      obtain ⟨_, f1, Ay1, ny1, cy1, rfl, hc1, hn1, hr1⟩ := (hF' 42 rfl).1 189 _ rfl rfl
      refine if_ok (by rfl) ?_
      refine wp_bldR _ _ rfl (ev f0) (ev f1) ?_
      exact hK _ w' nofun (keep_same hS) ⟨Ay0, ny0, cy0, Ay1, ny1, cy1, rfl, ⟨hc0, hn0, hr0⟩, hc1, hn1, hr1⟩
    · as_aux_lemma =>
      intro a w' hS hO hF' hP K hK
      refine if_ok (by rfl) ?_
      refine wp_calls rfl (enters_of Tryz.func54 (by kernel_rfl) rfl) (args := #[(.string ⟨#[48, 48, 49, 49]⟩)]) (by simp [Act.eval]) ?_
      obtain ⟨O1, O2, r1, r2, TT, BB⟩ := id hS
      apply Calls.mono
      (with_reducible apply of_w); decide
      rintro e w2 ⟨A, n, c, rfl, hc, hn, hv, hb⟩
      exact ⟨_, rfl, hK _ w2 nofun (keep_below hb hS) ⟨A, n, c, rfl, hc, hn, hv.rd⟩⟩
    · as_aux_lemma =>
      intro a w' hS hO hF' hP K hK
      refine if_ok (by rfl) ?_
      refine wp_calls rfl (enters_of Tryz.func54 (by kernel_rfl) rfl) (args := #[(.string ⟨#[49, 48, 49]⟩)]) (by simp [Act.eval]) ?_
      obtain ⟨O1, O2, r1, r2, TT, BB⟩ := id hS
      apply Calls.mono
      (with_reducible apply of_w); decide
      rintro e w2 ⟨A, n, c, rfl, hc, hn, hv, hb⟩
      exact ⟨_, rfl, hK _ w2 nofun (keep_below hb hS) ⟨A, n, c, rfl, hc, hn, hv.rd⟩⟩
    · as_aux_lemma =>
      intro a w' hS hO hF' hP K hK
      obtain ⟨_, f0, Ay0, ny0, cy0, rfl, hc0, hn0, hr0⟩ := (hF' 44 rfl).1 191 _ rfl rfl
      obtain ⟨_, f1, Ay1, ny1, cy1, rfl, hc1, hn1, hr1⟩ := (hF' 45 rfl).1 192 _ rfl rfl
      refine if_ok (by rfl) ?_
      refine wp_calls rfl (enters_of Tryz.func61 (by kernel_rfl) rfl) (args := #[(.agg #[.slice Ay0 ny0 cy0, .bool (⟨ofL ⟨#[48, 48, 49, 49]⟩, false⟩ : V).s]), (.agg #[.slice Ay1 ny1 cy1, .bool (⟨ofL ⟨#[49, 48, 49]⟩, false⟩ : V).s])]) (by simp [Act.eval, f0, f1]) ?_
      obtain ⟨O1, O2, r1, r2, TT, BB⟩ := id hS
      apply Calls.mono
      (with_reducible apply pow_v_w); (repeat (first | assumption | (with_reducible (apply Nb.rd; assumption)) | (with_reducible (apply Rb.at_later; assumption)) | (with_reducible (apply Tabs.at_later; assumption)) | (with_reducible apply Rb.alloc) | (with_reducible apply Tabs.alloc) | (with_reducible apply Rb.drew) | (with_reducible apply Tabs.drew) | (show I64 _; unfold I64; omega) | omega))
      rintro e w2 ⟨A, n, c, rfl, hc, hn, hv, hb⟩
      exact ⟨_, rfl, hK _ w2 nofun (keep_below hb hS) ⟨A, n, c, rfl, hc, hn, hv.rd⟩⟩
    · as_aux_lemma =>
      intro a w' hS hO hF' hP K hK
      refine if_ok (by rfl) ?_
      refine wp_calls rfl (enters_of Tryz.func54 (by kernel_rfl) rfl) (args := #[(.string ⟨#[48, 48, 49, 49]⟩)]) (by simp [Act.eval]) ?_
      obtain ⟨O1, O2, r1, r2, TT, BB⟩ := id hS
      apply Calls.mono
      (with_reducible apply of_w); decide
      rintro e w2 ⟨A, n, c, rfl, hc, hn, hv, hb⟩
      exact ⟨_, rfl, hK _ w2 nofun (keep_below hb hS) ⟨A, n, c, rfl, hc, hn, hv.rd⟩⟩
    · as_aux_lemma =>
      intro a w' hS hO hF' hP K hK
      obtain ⟨_, f0, Ay0, ny0, cy0, rfl, hc0, hn0, hr0⟩ := (hF' 46 rfl).1 193 _ rfl rfl
      obtain ⟨_, f1, Ay1, ny1, cy1, rfl, hc1, hn1, hr1⟩ := (hF' 47 rfl).1 194 _ rfl rfl
      refine if_ok (by rfl) ?_
      refine wp_bldR _ _ rfl (ev f0) (ev f1) ?_
      exact hK _ w' nofun (keep_same hS) ⟨Ay0, ny0, cy0, Ay1, ny1, cy1, rfl, ⟨hc0, hn0, hr0⟩, hc1, hn1, hr1⟩
    · as_aux_lemma =>
      intro a w' hS hO hF' hP K hK
      refine if_ok (by rfl) ?_
      refine wp_calls rfl (enters_of Tryz.func59 (by kernel_rfl) rfl) (args := #[(.string ⟨#[49, 49, 49, 49]⟩)]) (by simp [Act.eval]) ?_
      obtain ⟨O1, O2, r1, r2, TT, BB⟩ := id hS
      apply Calls.mono
      (with_reducible apply sof_w); decide
      rintro e w2 ⟨A, n, c, rfl, hc, hn, hv, hb⟩
      exact ⟨_, rfl, hK _ w2 nofun (keep_below hb hS) ⟨A, n, c, rfl, hc, hn, hv.rd⟩⟩
    · as_aux_lemma =>
      intro a w' hS hO hF' hP K hK
      refine if_ok (by rfl) ?_
      refine wp_calls rfl (enters_of Tryz.func59 (by kernel_rfl) rfl) (args := #[(.string ⟨#[49, 49]⟩)]) (by simp [Act.eval]) ?_
      obtain ⟨O1, O2, r1, r2, TT, BB⟩ := id hS
      apply Calls.mono
      (with_reducible apply sof_w); decide
      rintro e w2 ⟨A, n, c, rfl, hc, hn, hv, hb⟩
      exact ⟨_, rfl, hK _ w2 nofun (keep_below hb hS) ⟨A, n, c, rfl, hc, hn, hv.rd⟩⟩
    · as_aux_lemma =>
      intro a w' hS hO hF' hP K hK
      obtain ⟨_, f0, Ay0, ny0, cy0, rfl, hc0, hn0, hr0⟩ := (hF' 49 rfl).1 196 _ rfl rfl
      obtain ⟨_, f1, Ay1, ny1, cy1, rfl, hc1, hn1, hr1⟩ := (hF' 50 rfl).1 197 _ rfl rfl
      refine if_ok (by rfl) ?_
      refine wp_calls rfl (enters_of Tryz.func61 (by kernel_rfl) rfl) (args := #[(.agg #[.slice Ay0 ny0 cy0, .bool (⟨ofL ⟨#[49, 49, 49, 49]⟩, true⟩ : V).s]), (.agg #[.slice Ay1 ny1 cy1, .bool (⟨ofL ⟨#[49, 49]⟩, true⟩ : V).s])]) (by simp [Act.eval, f0, f1]) ?_
      obtain ⟨O1, O2, r1, r2, TT, BB⟩ := id hS
      apply Calls.mono
      (with_reducible apply pow_v_w); (repeat (first | assumption | (with_reducible (apply Nb.rd; assumption)) | (with_reducible (apply Rb.at_later; assumption)) | (with_reducible (apply Tabs.at_later; assumption)) | (with_reducible apply Rb.alloc) | (with_reducible apply Tabs.alloc) | (with_reducible apply Rb.drew) | (with_reducible apply Tabs.drew) | (show I64 _; unfold I64; omega) | omega))
      rintro e w2 ⟨A, n, c, rfl, hc, hn, hv, hb⟩
      exact ⟨_, rfl, hK _ w2 nofun (keep_below hb hS) ⟨A, n, c, rfl, hc, hn, hv.rd⟩⟩
    · as_aux_lemma =>
      intro a w' hS hO hF' hP K hK
      refine if_ok (by rfl) ?_
      refine wp_calls rfl (enters_of Tryz.func59 (by kernel_rfl) rfl) (args := #[(.string ⟨#[49, 49, 49, 49]⟩)]) (by simp [Act.eval]) ?_
      obtain ⟨O1, O2, r1, r2, TT, BB⟩ := id hS
      apply Calls.mono
      (with_reducible apply sof_w); decide
      rintro e w2 ⟨A, n, c, rfl, hc, hn, hv, hb⟩
      exact ⟨_, rfl, hK _ w2 nofun (keep_below hb hS) ⟨A, n, c, rfl, hc, hn, hv.rd⟩⟩
    · as_aux_lemma =>
      intro a w' hS hO hF' hP K hK
      obtain ⟨_, f0, Ay0, ny0, cy0, rfl, hc0, hn0, hr0⟩ := (hF' 51 rfl).1 198 _ rfl rfl
      obtain ⟨_, f1, Ay1, ny1, cy1, rfl, hc1, hn1, hr1⟩ := (hF' 52 rfl).1 199 _ rfl rfl
      refine if_ok (by rfl) ?_
      refine wp_bldR _ _ rfl (ev f0) (ev f1) ?_
      exact hK _ w' nofun (keep_same hS) ⟨Ay0, ny0, cy0, Ay1, ny1, cy1, rfl, ⟨hc0, hn0, hr0⟩, hc1, hn1, hr1⟩
    · as_aux_lemma =>
      intro a w' hS hO hF' hP K hK
      refine if_ok (by rfl) ?_
      refine wp_calls rfl (enters_of Tryz.func59 (by kernel_rfl) rfl) (args := #[(.string ⟨#[49, 49, 49, 49]⟩)]) (by simp [Act.eval]) ?_
      obtain ⟨O1, O2, r1, r2, TT, BB⟩ := id hS
      apply Calls.mono
      (with_reducible apply sof_w); decide
      rintro e w2 ⟨A, n, c, rfl, hc, hn, hv, hb⟩
      exact ⟨_, rfl, hK _ w2 nofun (keep_below hb hS) ⟨A, n, c, rfl, hc, hn, hv.rd⟩⟩
    · as_aux_lemma =>
      intro a w' hS hO hF' hP K hK
      refine if_ok (by rfl) ?_
      refine wp_calls rfl (enters_of Tryz.func59 (by kernel_rfl) rfl) (args := #[(.string ⟨#[49, 48]⟩)]) (by simp [Act.eval]) ?_
      obtain ⟨O1, O2, r1, r2, TT, BB⟩ := id hS
      apply Calls.mono
      (with_reducible apply sof_w); decide
      rintro e w2 ⟨A, n, c, rfl, hc, hn, hv, hb⟩
      exact ⟨_, rfl, hK _ w2 nofun (keep_below hb hS) ⟨A, n, c, rfl, hc, hn, hv.rd⟩⟩
    · as_aux_lemma =>
      intro a w' hS hO hF' hP K hK
      obtain ⟨_, f0, Ay0, ny0, cy0, rfl, hc0, hn0, hr0⟩ := (hF' 54 rfl).1 201 _ rfl rfl
      obtain ⟨_, f1, Ay1, ny1, cy1, rfl, hc1, hn1, hr1⟩ := (hF' 55 rfl).1 202 _ rfl rfl
      refine if_ok (by rfl) ?_
      refine wp_calls rfl (enters_of Tryz.func61 (by kernel_rfl) rfl) (args := #[(.agg #[.slice Ay0 ny0 cy0, .bool (⟨ofL ⟨#[49, 49, 49, 49]⟩, true⟩ : V).s]), (.agg #[.slice Ay1 ny1 cy1, .bool (⟨ofL ⟨#[49, 48]⟩, true⟩ : V).s])]) (by simp [Act.eval, f0, f1]) ?_
      obtain ⟨O1, O2, r1, r2, TT, BB⟩ := id hS
      apply Calls.mono
      (with_reducible apply pow_v_w); (repeat (first | assumption | (with_reducible (apply Nb.rd; assumption)) | (with_reducible (apply Rb.at_later; assumption)) | (with_reducible (apply Tabs.at_later; assumption)) | (with_reducible apply Rb.alloc) | (with_reducible apply Tabs.alloc) | (with_reducible apply Rb.drew) | (with_reducible apply Tabs.drew) | (show I64 _; unfold I64; omega) | omega))
      rintro e w2 ⟨A, n, c, rfl, hc, hn, hv, hb⟩
      exact ⟨_, rfl, hK _ w2 nofun (keep_below hb hS) ⟨A, n, c, rfl, hc, hn, hv.rd⟩⟩
    · as_aux_lemma =>
      intro a w' hS hO hF' hP K hK
      refine if_ok (by rfl) ?_
      refine wp_calls rfl (enters_of Tryz.func59 (by kernel_rfl) rfl) (args := #[(.string ⟨#[48, 48, 48, 49]⟩)]) (by simp [Act.eval]) ?_
      obtain ⟨O1, O2, r1, r2, TT, BB⟩ := id hS
      apply Calls.mono
      (with_reducible apply sof_w); decide
      rintro e w2 ⟨A, n, c, rfl, hc, hn, hv, hb⟩
      exact ⟨_, rfl, hK _ w2 nofun (keep_below hb hS) ⟨A, n, c, rfl, hc, hn, hv.rd⟩⟩
    · as_aux_lemma =>
      intro a w' hS hO hF' hP K hK
      obtain ⟨_, f0, Ay0, ny0, cy0, rfl, hc0, hn0, hr0⟩ := (hF' 56 rfl).1 203 _ rfl rfl
      obtain ⟨_, f1, Ay1, ny1, cy1, rfl, hc1, hn1, hr1⟩ := (hF' 57 rfl).1 204 _ rfl rfl
      refine if_ok (by rfl) ?_
      refine wp_bldR _ _ rfl (ev f0) (ev f1) ?_
      exact hK _ w' nofun (keep_same hS) ⟨Ay0, ny0, cy0, Ay1, ny1, cy1, rfl, ⟨hc0, hn0, hr0⟩, hc1, hn1, hr1⟩
    · as_aux_lemma =>
      intro a w' hS hO hF' hP K hK
      refine if_ok (by rfl) ?_
      refine wp_calls rfl (enters_of Tryz.func59 (by kernel_rfl) rfl) (args := #[(.string ⟨#[48, 48, 48, 49]⟩)]) (by simp [Act.eval]) ?_
      obtain ⟨O1, O2, r1, r2, TT, BB⟩ := id hS
      apply Calls.mono
      (with_reducible apply sof_w); decide
      rintro e w2 ⟨A, n, c, rfl, hc, hn, hv, hb⟩
      exact ⟨_, rfl, hK _ w2 nofun (keep_below hb hS) ⟨A, n, c, rfl, hc, hn, hv.rd⟩⟩
    · as_aux_lemma =>
      intro a w' hS hO hF' hP K hK
      refine if_ok (by rfl) ?_
      refine wp_calls rfl (enters_of Tryz.func59 (by kernel_rfl) rfl) (args := #[(.string ⟨#[49]⟩)]) (by simp [Act.eval]) ?_
      obtain ⟨O1, O2, r1, r2, TT, BB⟩ := id hS
      apply Calls.mono
      (with_reducible apply sof_w); decide
      rintro e w2 ⟨A, n, c, rfl, hc, hn, hv, hb⟩
      exact ⟨_, rfl, hK _ w2 nofun (keep_below hb hS) ⟨A, n, c, rfl, hc, hn, hv.rd⟩⟩
    · as_aux_lemma =>
      intro a w' hS hO hF' hP K hK
      obtain ⟨_, f0, Ay0, ny0, cy0, rfl, hc0, hn0, hr0⟩ := (hF' 59 rfl).1 206 _ rfl rfl
      obtain ⟨_, f1, Ay1, ny1, cy1, rfl, hc1, hn1, hr1⟩ := (hF' 60 rfl).1 207 _ rfl rfl
      refine if_ok (by rfl) ?_
      refine wp_calls rfl (enters_of Tryz.func61 (by kernel_rfl) rfl) (args := #[(.agg #[.slice Ay0 ny0 cy0, .bool (⟨ofL ⟨#[48, 48, 48, 49]⟩, true⟩ : V).s]), (.agg #[.slice Ay1 ny1 cy1, .bool (⟨ofL ⟨#[49]⟩, true⟩ : V).s])]) (by simp [Act.eval, f0, f1]) ?_
      obtain ⟨O1, O2, r1, r2, TT, BB⟩ := id hS
      apply Calls.mono
      (with_reducible apply pow_v_w); (repeat (first | assumption | (with_reducible (apply Nb.rd; assumption)) | (with_reducible (apply Rb.at_later; assumption)) | (with_reducible (apply Tabs.at_later; assumption)) | (with_reducible apply Rb.alloc) | (with_reducible apply Tabs.alloc) | (with_reducible apply Rb.drew) | (with_reducible apply Tabs.drew) | (show I64 _; unfold I64; omega) | omega))
      rintro e w2 ⟨A, n, c, rfl, hc, hn, hv, hb⟩
      exact ⟨_, rfl, hK _ w2 nofun (keep_below hb hS) ⟨A, n, c, rfl, hc, hn, hv.rd⟩⟩
    · as_aux_lemma =>
      intro a w' hS hO hF' hP K hK
      refine if_ok (by rfl) ?_
      refine wp_calls rfl (enters_of Tryz.func59 (by kernel_rfl) rfl) (args := #[(.string ⟨#[48, 48, 48, 49]⟩)]) (by simp [Act.eval]) ?_
      obtain ⟨O1, O2, r1, r2, TT, BB⟩ := id hS
      apply Calls.mono
      (with_reducible apply sof_w); decide
      rintro e w2 ⟨A, n, c, rfl, hc, hn, hv, hb⟩
      exact ⟨_, rfl, hK _ w2 nofun (keep_below hb hS) ⟨A, n, c, rfl, hc, hn, hv.rd⟩⟩
    · as_aux_lemma =>
      intro a w' hS hO hF' hP K hK
      obtain ⟨_, f0, Ay0, ny0, cy0, rfl, hc0, hn0, hr0⟩ := (hF' 61 rfl).1 208 _ rfl rfl
      obtain ⟨_, f1, Ay1, ny1, cy1, rfl, hc1, hn1, hr1⟩ := (hF' 62 rfl).1 209 _ rfl rfl
      refine if_ok (by rfl) ?_
      refine wp_bldR _ _ rfl (ev f0) (ev f1) ?_
      exact hK _ w' nofun (keep_same hS) ⟨Ay0, ny0, cy0, Ay1, ny1, cy1, rfl, ⟨hc0, hn0, hr0⟩, hc1, hn1, hr1⟩
    · as_aux_lemma =>
      intro a w' hS hO hF' hP K hK
      refine if_ok (by rfl) ?_
      refine wp_calls rfl (enters_of Tryz.func54 (by kernel_rfl) rfl) (args := #[(.string ⟨#[49, 49, 49, 49]⟩)]) (by simp [Act.eval]) ?_
      obtain ⟨O1, O2, r1, r2, TT, BB⟩ := id hS
      apply Calls.mono
      (with_reducible apply of_w); decide
      rintro e w2 ⟨A, n, c, rfl, hc, hn, hv, hb⟩
      exact ⟨_, rfl, hK _ w2 nofun (keep_below hb hS) ⟨A, n, c, rfl, hc, hn, hv.rd⟩⟩
    · as_aux_lemma =>
      intro a w' hS hO hF' hP K hK
      refine if_ok (by rfl) ?_
      refine wp_calls rfl (enters_of Tryz.func59 (by kernel_rfl) rfl) (args := #[(.string ⟨#[49]⟩)]) (by simp [Act.eval]) ?_
      obtain ⟨O1, O2, r1, r2, TT, BB⟩ := id hS
      apply Calls.mono
      (with_reducible apply sof_w); decide
      rintro e w2 ⟨A, n, c, rfl, hc, hn, hv, hb⟩
      exact ⟨_, rfl, hK _ w2 nofun (keep_below hb hS) ⟨A, n, c, rfl, hc, hn, hv.rd⟩⟩
    · as_aux_lemma =>
      intro a w' hS hO hF' hP K hK
      obtain ⟨_, f0, Ay0, ny0, cy0, rfl, hc0, hn0, hr0⟩ := (hF' 64 rfl).1 211 _ rfl rfl
      obtain ⟨_, f1, Ay1, ny1, cy1, rfl, hc1, hn1, hr1⟩ := (hF' 65 rfl).1 212 _ rfl rfl
      refine if_ok (by rfl) ?_
      refine wp_calls rfl (enters_of Tryz.func61 (by kernel_rfl) rfl) (args := #[(.agg #[.slice Ay0 ny0 cy0, .bool (⟨ofL ⟨#[49, 49, 49, 49]⟩, false⟩ : V).s]), (.agg #[.slice Ay1 ny1 cy1, .bool (⟨ofL ⟨#[49]⟩, true⟩ : V).s])]) (by simp [Act.eval, f0, f1]) ?_
      obtain ⟨O1, O2, r1, r2, TT, BB⟩ := id hS
      apply Calls.mono
      (with_reducible apply pow_v_w); (repeat (first | assumption | (with_reducible (apply Nb.rd; assumption)) | (with_reducible (apply Rb.at_later; assumption)) | (with_reducible (apply Tabs.at_later; assumption)) | (with_reducible apply Rb.alloc) | (with_reducible apply Tabs.alloc) | (with_reducible apply Rb.drew) | (with_reducible apply Tabs.drew) | (show I64 _; unfold I64; omega) | omega))
      rintro e w2 ⟨A, n, c, rfl, hc, hn, hv, hb⟩
      exact ⟨_, rfl, hK _ w2 nofun (keep_below hb hS) ⟨A, n, c, rfl, hc, hn, hv.rd⟩⟩
    · as_aux_lemma =>
      intro a w' hS hO hF' hP K hK
      refine if_ok (by rfl) ?_
      refine wp_calls rfl (enters_of Tryz.func54 (by kernel_rfl) rfl) (args := #[(.string ⟨#[48, 48, 48, 48]⟩)]) (by simp [Act.eval]) ?_
      obtain ⟨O1, O2, r1, r2, TT, BB⟩ := id hS
      apply Calls.mono
      (with_reducible apply of_w); decide
      rintro e w2 ⟨A, n, c, rfl, hc, hn, hv, hb⟩
      exact ⟨_, rfl, hK _ w2 nofun (keep_below hb hS) ⟨A, n, c, rfl, hc, hn, hv.rd⟩⟩
    · as_aux_lemma =>
      intro a w' hS hO hF' hP K hK
      obtain ⟨_, f0, Ay0, ny0, cy0, rfl, hc0, hn0, hr0⟩ := (hF' 66 rfl).1 213 _ rfl rfl
      obtain ⟨_, f1, Ay1, ny1, cy1, rfl, hc1, hn1, hr1⟩ := (hF' 67 rfl).1 214 _ rfl rfl
      refine if_ok (by rfl) ?_
      refine wp_bldR _ _ rfl (ev f0) (ev f1) ?_
      exact hK _ w' nofun (keep_same hS) ⟨Ay0, ny0, cy0, Ay1, ny1, cy1, rfl, ⟨hc0, hn0, hr0⟩, hc1, hn1, hr1⟩
    · as_aux_lemma =>
      intro a w' hS hO hF' hP K hK
      refine if_ok (by rfl) ?_
      refine wp_calls rfl (enters_of Tryz.func59 (by kernel_rfl) rfl) (args := #[(.string ⟨#[48, 48]⟩)]) (by simp [Act.eval]) ?_
      obtain ⟨O1, O2, r1, r2, TT, BB⟩ := id hS
      apply Calls.mono
      (with_reducible apply sof_w); decide
      rintro e w2 ⟨A, n, c, rfl, hc, hn, hv, hb⟩
      exact ⟨_, rfl, hK _ w2 nofun (keep_below hb hS) ⟨A, n, c, rfl, hc, hn, hv.rd⟩⟩
    · as_aux_lemma =>
      intro a w' hS hO hF' hP K hK
      refine if_ok (by rfl) ?_
      refine wp_calls rfl (enters_of Tryz.func59 (by kernel_rfl) rfl) (args := #[(.string ⟨#[49]⟩)]) (by simp [Act.eval]) ?_
      obtain ⟨O1, O2, r1, r2, TT, BB⟩ := id hS
      apply Calls.mono
      (with_reducible apply sof_w); decide
      rintro e w2 ⟨A, n, c, rfl, hc, hn, hv, hb⟩
      exact ⟨_, rfl, hK _ w2 nofun (keep_below hb hS) ⟨A, n, c, rfl, hc, hn, hv.rd⟩⟩
    · as_aux_lemma =>
      intro a w' hS hO hF' hP K hK
      obtain ⟨_, f0, Ay0, ny0, cy0, rfl, hc0, hn0, hr0⟩ := (hF' 69 rfl).1 216 _ rfl rfl
      obtain ⟨_, f1, Ay1, ny1, cy1, rfl, hc1, hn1, hr1⟩ := (hF' 70 rfl).1 217 _ rfl rfl
      refine if_ok (by rfl) ?_
      refine wp_calls rfl (enters_of Tryz.func61 (by kernel_rfl) rfl) (args := #[(.agg #[.slice Ay0 ny0 cy0, .bool (⟨ofL ⟨#[48, 48]⟩, true⟩ : V).s]), (.agg #[.slice Ay1 ny1 cy1, .bool (⟨ofL ⟨#[49]⟩, true⟩ : V).s])]) (by simp [Act.eval, f0, f1]) ?_
      obtain ⟨O1, O2, r1, r2, TT, BB⟩ := id hS
      apply Calls.mono
      (with_reducible apply pow_v_w); (repeat (first | assumption | (with_reducible (apply Nb.rd; assumption)) | (with_reducible (apply Rb.at_later; assumption)) | (with_reducible (apply Tabs.at_later; assumption)) | (with_reducible apply Rb.alloc) | (with_reducible apply Tabs.alloc) | (with_reducible apply Rb.drew) | (with_reducible apply Tabs.drew) | (show I64 _; unfold I64; omega) | omega))
      rintro e w2 ⟨A, n, c, rfl, hc, hn, hv, hb⟩
      exact ⟨_, rfl, hK _ w2 nofun (keep_below hb hS) ⟨A, n, c, rfl, hc, hn, hv.rd⟩⟩
    · as_aux_lemma =>
      intro a w' hS hO hF' hP K hK
      refine if_ok (by rfl) ?_
      refine wp_calls rfl (enters_of Tryz.func59 (by kernel_rfl) rfl) (args := #[(.string ⟨#[120, 120]⟩)]) (by simp [Act.eval]) ?_
      obtain ⟨O1, O2, r1, r2, TT, BB⟩ := id hS
      apply Calls.mono
      (with_reducible apply sof_w); decide
      rintro e w2 ⟨A, n, c, rfl, hc, hn, hv, hb⟩
      exact ⟨_, rfl, hK _ w2 nofun (keep_below hb hS) ⟨A, n, c, rfl, hc, hn, hv.rd⟩⟩
    · as_aux_lemma =>
      intro a w' hS hO hF' hP K hK
      obtain ⟨_, f0, Ay0, ny0, cy0, rfl, hc0, hn0, hr0⟩ := (hF' 71 rfl).1 218 _ rfl rfl
      obtain ⟨_, f1, Ay1, ny1, cy1, rfl, hc1, hn1, hr1⟩ := (hF' 72 rfl).1 219 _ rfl rfl
      refine if_ok (by rfl) ?_
      refine wp_bldR _ _ rfl (ev f0) (ev f1) ?_
      exact hK _ w' nofun (keep_same hS) ⟨Ay0, ny0, cy0, Ay1, ny1, cy1, rfl, ⟨hc0, hn0, hr0⟩, hc1, hn1, hr1⟩
    · as_aux_lemma =>
      intro a w' hS hO hF' hP K hK
      refine if_ok (by rfl) ?_
      refine wp_calls rfl (enters_of Tryz.func54 (by kernel_rfl) rfl) (args := #[(.string ⟨#[48, 48]⟩)]) (by simp [Act.eval]) ?_
      obtain ⟨O1, O2, r1, r2, TT, BB⟩ := id hS
      apply Calls.mono
      (with_reducible apply of_w); decide
      rintro e w2 ⟨A, n, c, rfl, hc, hn, hv, hb⟩
      exact ⟨_, rfl, hK _ w2 nofun (keep_below hb hS) ⟨A, n, c, rfl, hc, hn, hv.rd⟩⟩
    · as_aux_lemma =>
      intro a w' hS hO hF' hP K hK
      refine if_ok (by rfl) ?_
      refine wp_calls rfl (enters_of Tryz.func54 (by kernel_rfl) rfl) (args := #[(.string ⟨#[49]⟩)]) (by simp [Act.eval]) ?_
      obtain ⟨O1, O2, r1, r2, TT, BB⟩ := id hS
      apply Calls.mono
      (with_reducible apply of_w); decide
      rintro e w2 ⟨A, n, c, rfl, hc, hn, hv, hb⟩
      exact ⟨_, rfl, hK _ w2 nofun (keep_below hb hS) ⟨A, n, c, rfl, hc, hn, hv.rd⟩⟩
    · as_aux_lemma =>
      intro a w' hS hO hF' hP K hK
      obtain ⟨_, f0, Ay0, ny0, cy0, rfl, hc0, hn0, hr0⟩ := (hF' 74 rfl).1 221 _ rfl rfl
      obtain ⟨_, f1, Ay1, ny1, cy1, rfl, hc1, hn1, hr1⟩ := (hF' 75 rfl).1 222 _ rfl rfl
      refine if_ok (by rfl) ?_
      refine wp_calls rfl (enters_of Tryz.func61 (by kernel_rfl) rfl) (args := #[(.agg #[.slice Ay0 ny0 cy0, .bool (⟨ofL ⟨#[48, 48]⟩, false⟩ : V).s]), (.agg #[.slice Ay1 ny1 cy1, .bool (⟨ofL ⟨#[49]⟩, false⟩ : V).s])]) (by simp [Act.eval, f0, f1]) ?_
      obtain ⟨O1, O2, r1, r2, TT, BB⟩ := id hS
      apply Calls.mono
      (with_reducible apply pow_v_w); (repeat (first | assumption | (with_reducible (apply Nb.rd; assumption)) | (with_reducible (apply Rb.at_later; assumption)) | (with_reducible (apply Tabs.at_later; assumption)) | (with_reducible apply Rb.alloc) | (with_reducible apply Tabs.alloc) | (with_reducible apply Rb.drew) | (with_reducible apply Tabs.drew) | (show I64 _; unfold I64; omega) | omega))
      rintro e w2 ⟨A, n, c, rfl, hc, hn, hv, hb⟩
      exact ⟨_, rfl, hK _ w2 nofun (keep_below hb hS) ⟨A, n, c, rfl, hc, hn, hv.rd⟩⟩
    · as_aux_lemma =>
      intro a w' hS hO hF' hP K hK
      refine if_ok (by rfl) ?_
      refine wp_calls rfl (enters_of Tryz.func54 (by kernel_rfl) rfl) (args := #[(.string ⟨#[48, 48]⟩)]) (by simp [Act.eval]) ?_
      obtain ⟨O1, O2, r1, r2, TT, BB⟩ := id hS
      apply Calls.mono
      (with_reducible apply of_w); decide
      rintro e w2 ⟨A, n, c, rfl, hc, hn, hv, hb⟩
      exact ⟨_, rfl, hK _ w2 nofun (keep_below hb hS) ⟨A, n, c, rfl, hc, hn, hv.rd⟩⟩
    · as_aux_lemma =>
      intro a w' hS hO hF' hP K hK
      obtain ⟨_, f0, Ay0, ny0, cy0, rfl, hc0, hn0, hr0⟩ := (hF' 76 rfl).1 223 _ rfl rfl
      obtain ⟨_, f1, Ay1, ny1, cy1, rfl, hc1, hn1, hr1⟩ := (hF' 77 rfl).1 224 _ rfl rfl
      refine if_ok (by rfl) ?_
      refine wp_bldR _ _ rfl (ev f0) (ev f1) ?_
      exact hK _ w' nofun (keep_same hS) ⟨Ay0, ny0, cy0, Ay1, ny1, cy1, rfl, ⟨hc0, hn0, hr0⟩, hc1, hn1, hr1⟩
    · as_aux_lemma =>
      intro a w' hS hO hF' hP K hK
      refine if_ok (by rfl) ?_
      refine wp_calls rfl (enters_of Tryz.func54 (by kernel_rfl) rfl) (args := #[(.string ⟨#[49, 48]⟩)]) (by simp [Act.eval]) ?_
      obtain ⟨O1, O2, r1, r2, TT, BB⟩ := id hS
      apply Calls.mono
      (with_reducible apply of_w); decide
      rintro e w2 ⟨A, n, c, rfl, hc, hn, hv, hb⟩
      exact ⟨_, rfl, hK _ w2 nofun (keep_below hb hS) ⟨A, n, c, rfl, hc, hn, hv.rd⟩⟩
    · as_aux_lemma =>
      intro a w' hS hO hF' hP K hK
      refine if_ok (by rfl) ?_
      refine wp_calls rfl (enters_of Tryz.func54 (by kernel_rfl) rfl) (args := #[(.string ⟨#[120]⟩)]) (by simp [Act.eval]) ?_
      obtain ⟨O1, O2, r1, r2, TT, BB⟩ := id hS
      apply Calls.mono
      (with_reducible apply of_w); decide
      rintro e w2 ⟨A, n, c, rfl, hc, hn, hv, hb⟩
      exact ⟨_, rfl, hK _ w2 nofun (keep_below hb hS) ⟨A, n, c, rfl, hc, hn, hv.rd⟩⟩
    · as_aux_lemma =>
      intro a w' hS hO hF' hP K hK
      obtain ⟨_, f0, Ay0, ny0, cy0, rfl, hc0, hn0, hr0⟩ := (hF' 79 rfl).1 226 _ rfl rfl
      obtain ⟨_, f1, Ay1, ny1, cy1, rfl, hc1, hn1, hr1⟩ := (hF' 80 rfl).1 227 _ rfl rfl
      refine if_ok (by rfl) ?_
      refine wp_calls rfl (enters_of Tryz.func61 (by kernel_rfl) rfl) (args := #[(.agg #[.slice Ay0 ny0 cy0, .bool (⟨ofL ⟨#[49, 48]⟩, false⟩ : V).s]), (.agg #[.slice Ay1 ny1 cy1, .bool (⟨ofL ⟨#[120]⟩, false⟩ : V).s])]) (by simp [Act.eval, f0, f1]) ?_
      obtain ⟨O1, O2, r1, r2, TT, BB⟩ := id hS
      apply Calls.mono
      (with_reducible apply pow_v_w); (repeat (first | assumption | (with_reducible (apply Nb.rd; assumption)) | (with_reducible (apply Rb.at_later; assumption)) | (with_reducible (apply Tabs.at_later; assumption)) | (with_reducible apply Rb.alloc) | (with_reducible apply Tabs.alloc) | (with_reducible apply Rb.drew) | (with_reducible apply Tabs.drew) | (show I64 _; unfold I64; omega) | omega))
      rintro e w2 ⟨A, n, c, rfl, hc, hn, hv, hb⟩
      exact ⟨_, rfl, hK _ w2 nofun (keep_below hb hS) ⟨A, n, c, rfl, hc, hn, hv.rd⟩⟩
    · as_aux_lemma =>
      intro a w' hS hO hF' hP K hK
      refine if_ok (by rfl) ?_
      refine wp_calls rfl (enters_of Tryz.func54 (by kernel_rfl) rfl) (args := #[(.string ⟨#[120, 120]⟩)]) (by simp [Act.eval]) ?_
      obtain ⟨O1, O2, r1, r2, TT, BB⟩ := id hS
      apply Calls.mono
      (with_reducible apply of_w); decide
      rintro e w2 ⟨A, n, c, rfl, hc, hn, hv, hb⟩
      exact ⟨_, rfl, hK _ w2 nofun (keep_below hb hS) ⟨A, n, c, rfl, hc, hn, hv.rd⟩⟩
    · as_aux_lemma =>
      intro a w' hS hO hF' hP K hK
      obtain ⟨_, f0, Ay0, ny0, cy0, rfl, hc0, hn0, hr0⟩ := (hF' 81 rfl).1 228 _ rfl rfl
      obtain ⟨_, f1, Ay1, ny1, cy1, rfl, hc1, hn1, hr1⟩ := (hF' 82 rfl).1 229 _ rfl rfl
      refine if_ok (by rfl) ?_
      refine wp_bldR _ _ rfl (ev f0) (ev f1) ?_
      exact hK _ w' nofun (keep_same hS) ⟨Ay0, ny0, cy0, Ay1, ny1, cy1, rfl, ⟨hc0, hn0, hr0⟩, hc1, hn1, hr1⟩
    · as_aux_lemma =>
      intro a w' hS hO hF' hP K hK
      refine if_ok (by rfl) ?_
      refine wp_calls rfl (enters_of Tryz.func54 (by kernel_rfl) rfl) (args := #[(.string ⟨#[48, 48, 49, 49]⟩)]) (by simp [Act.eval]) ?_
      obtain ⟨O1, O2, r1, r2, TT, BB⟩ := id hS
      apply Calls.mono
      (with_reducible apply of_w); decide
      rintro e w2 ⟨A, n, c, rfl, hc, hn, hv, hb⟩
      exact ⟨_, rfl, hK _ w2 nofun (keep_below hb hS) ⟨A, n, c, rfl, hc, hn, hv.rd⟩⟩
    · as_aux_lemma =>
      intro a w' hS hO hF' hP K hK
      refine if_ok (by rfl) ?_
      refine wp_calls rfl (enters_of Tryz.func54 (by kernel_rfl) rfl) (args := #[(.string ⟨#[49, 48]⟩)]) (by simp [Act.eval]) ?_
      obtain ⟨O1, O2, r1, r2, TT, BB⟩ := id hS
      apply Calls.mono
      (with_reducible apply of_w); decide
      rintro e w2 ⟨A, n, c, rfl, hc, hn, hv, hb⟩
      exact ⟨_, rfl, hK _ w2 nofun (keep_below hb hS) ⟨A, n, c, rfl, hc, hn, hv.rd⟩⟩
    · as_aux_lemma =>
      intro a w' hS hO hF' hP K hK
      obtain ⟨_, f0, Ay0, ny0, cy0, rfl, hc0, hn0, hr0⟩ := (hF' 84 rfl).1 231 _ rfl rfl
      obtain ⟨_, f1, Ay1, ny1, cy1, rfl, hc1, hn1, hr1⟩ := (hF' 85 rfl).1 232 _ rfl rfl
      refine if_ok (by rfl) ?_
      refine wp_calls rfl (enters_of Tryz.func62 (by kernel_rfl) rfl) (args := #[(.agg #[.slice Ay0 ny0 cy0, .bool (⟨ofL ⟨#[48, 48, 49, 49]⟩, false⟩ : V).s]), (.agg #[.slice Ay1 ny1 cy1, .bool (⟨ofL ⟨#[49, 48]⟩, false⟩ : V).s])]) (by simp [Act.eval, f0, f1]) ?_
      obtain ⟨O1, O2, r1, r2, TT, BB⟩ := id hS
      apply Calls.mono
      (with_reducible apply vShl_any_w); (repeat (first | assumption | (with_reducible (apply Nb.rd; assumption)) | (with_reducible (apply Rb.at_later; assumption)) | (with_reducible (apply Tabs.at_later; assumption)) | (with_reducible apply Rb.alloc) | (with_reducible apply Tabs.alloc) | (with_reducible apply Rb.drew) | (with_reducible apply Tabs.drew) | (show I64 _; unfold I64; omega) | omega))
      rintro e w2 ⟨A, n, c, rfl, hc, hn, hv, hb⟩
      exact ⟨_, rfl, hK _ w2 nofun (keep_below hb hS) ⟨A, n, c, rfl, hc, hn, hv.rd⟩⟩
    · as_aux_lemma =>
      intro a w' hS hO hF' hP K hK
      refine if_ok (by rfl) ?_
      refine wp_calls rfl (enters_of Tryz.func54 (by kernel_rfl) rfl) (args := #[(.string ⟨#[49, 49, 48, 48]⟩)]) (by simp [Act.eval]) ?_
      obtain ⟨O1, O2, r1, r2, TT, BB⟩ := id hS
      apply Calls.mono
      (with_reducible apply of_w); decide
      rintro e w2 ⟨A, n, c, rfl, hc, hn, hv, hb⟩
      exact ⟨_, rfl, hK _ w2 nofun (keep_below hb hS) ⟨A, n, c, rfl, hc, hn, hv.rd⟩⟩
    · as_aux_lemma =>
      intro a w' hS hO hF' hP K hK
      obtain ⟨_, f0, Ay0, ny0, cy0, rfl, hc0, hn0, hr0⟩ := (hF' 86 rfl).1 233 _ rfl rfl
      obtain ⟨_, f1, Ay1, ny1, cy1, rfl, hc1, hn1, hr1⟩ := (hF' 87 rfl).1 234 _ rfl rfl
      refine if_ok (by rfl) ?_
      refine wp_bldR _ _ rfl (ev f0) (ev f1) ?_
      exact hK _ w' nofun (keep_same hS) ⟨Ay0, ny0, cy0, Ay1, ny1, cy1, rfl, ⟨hc0, hn0, hr0⟩, hc1, hn1, hr1⟩
    · as_aux_lemma =>
      intro a w' hS hO hF' hP K hK
      refine if_ok (by rfl) ?_
      refine wp_calls rfl (enters_of Tryz.func54 (by kernel_rfl) rfl) (args := #[(.string ⟨#[48, 122, 49, 49]⟩)]) (by simp [Act.eval]) ?_
      obtain ⟨O1, O2, r1, r2, TT, BB⟩ := id hS
      apply Calls.mono
      (with_reducible apply of_w); decide
      rintro e w2 ⟨A, n, c, rfl, hc, hn, hv, hb⟩
      exact ⟨_, rfl, hK _ w2 nofun (keep_below hb hS) ⟨A, n, c, rfl, hc, hn, hv.rd⟩⟩
    · as_aux_lemma =>
      intro a w' hS hO hF' hP K hK
      refine if_ok (by rfl) ?_
      refine wp_calls rfl (enters_of Tryz.func54 (by kernel_rfl) rfl) (args := #[(.string ⟨#[49]⟩)]) (by simp [Act.eval]) ?_
      obtain ⟨O1, O2, r1, r2, TT, BB⟩ := id hS
      apply Calls.mono
      (with_reducible apply of_w); decide
      rintro e w2 ⟨A, n, c, rfl, hc, hn, hv, hb⟩
      exact ⟨_, rfl, hK _ w2 nofun (keep_below hb hS) ⟨A, n, c, rfl, hc, hn, hv.rd⟩⟩
    · as_aux_lemma =>
      intro a w' hS hO hF' hP K hK
      obtain ⟨_, f0, Ay0, ny0, cy0, rfl, hc0, hn0, hr0⟩ := (hF' 89 rfl).1 236 _ rfl rfl
      obtain ⟨_, f1, Ay1, ny1, cy1, rfl, hc1, hn1, hr1⟩ := (hF' 90 rfl).1 237 _ rfl rfl
      refine if_ok (by rfl) ?_
      refine wp_calls rfl (enters_of Tryz.func62 (by kernel_rfl) rfl) (args := #[(.agg #[.slice Ay0 ny0 cy0, .bool (⟨ofL ⟨#[48, 122, 49, 49]⟩, false⟩ : V).s]), (.agg #[.slice Ay1 ny1 cy1, .bool (⟨ofL ⟨#[49]⟩, false⟩ : V).s])]) (by simp [Act.eval, f0, f1]) ?_
      obtain ⟨O1, O2, r1, r2, TT, BB⟩ := id hS
      apply Calls.mono
      (with_reducible apply vShl_any_w); (repeat (first | assumption | (with_reducible (apply Nb.rd; assumption)) | (with_reducible (apply Rb.at_later; assumption)) | (with_reducible (apply Tabs.at_later; assumption)) | (with_reducible apply Rb.alloc) | (with_reducible apply Tabs.alloc) | (with_reducible apply Rb.drew) | (with_reducible apply Tabs.drew) | (show I64 _; unfold I64; omega) | omega))
      rintro e w2 ⟨A, n, c, rfl, hc, hn, hv, hb⟩
      exact ⟨_, rfl, hK _ w2 nofun (keep_below hb hS) ⟨A, n, c, rfl, hc, hn, hv.rd⟩⟩
    · as_aux_lemma =>
      intro a w' hS hO hF' hP K hK
      refine if_ok (by rfl) ?_
      refine wp_calls rfl (enters_of Tryz.func54 (by kernel_rfl) rfl) (args := #[(.string ⟨#[122, 49, 49, 48]⟩)]) (by simp [Act.eval]) ?_
      obtain ⟨O1, O2, r1, r2, TT, BB⟩ := id hS
      apply Calls.mono
      (with_reducible apply of_w); decide
      rintro e w2 ⟨A, n, c, rfl, hc, hn, hv, hb⟩
      exact ⟨_, rfl, hK _ w2 nofun (keep_below hb hS) ⟨A, n, c, rfl, hc, hn, hv.rd⟩⟩
    · as_aux_lemma =>
      intro a w' hS hO hF' hP K hK
      obtain ⟨_, f0, Ay0, ny0, cy0, rfl, hc0, hn0, hr0⟩ := (hF' 91 rfl).1 238 _ rfl rfl
      obtain ⟨_, f1, Ay1, ny1, cy1, rfl, hc1, hn1, hr1⟩ := (hF' 92 rfl).1 239 _ rfl rfl
      refine if_ok (by rfl) ?_
      refine wp_bldR _ _ rfl (ev f0) (ev f1) ?_
      exact hK _ w' nofun (keep_same hS) ⟨Ay0, ny0, cy0, Ay1, ny1, cy1, rfl, ⟨hc0, hn0, hr0⟩, hc1, hn1, hr1⟩
    · as_aux_lemma =>
      intro a w' hS hO hF' hP K hK
      refine if_ok (by rfl) ?_
      refine wp_calls rfl (enters_of Tryz.func59 (by kernel_rfl) rfl) (args := #[(.string ⟨#[49, 48, 48, 48]⟩)]) (by simp [Act.eval]) ?_
      obtain ⟨O1, O2, r1, r2, TT, BB⟩ := id hS
      apply Calls.mono
      (with_reducible apply sof_w); decide
      rintro e w2 ⟨A, n, c, rfl, hc, hn, hv, hb⟩
      exact ⟨_, rfl, hK _ w2 nofun (keep_below hb hS) ⟨A, n, c, rfl, hc, hn, hv.rd⟩⟩
    · as_aux_lemma =>
      intro a w' hS hO hF' hP K hK
      refine if_ok (by rfl) ?_
      refine wp_calls rfl (enters_of Tryz.func54 (by kernel_rfl) rfl) (args := #[(.string ⟨#[49]⟩)]) (by simp [Act.eval]) ?_
      obtain ⟨O1, O2, r1, r2, TT, BB⟩ := id hS
      apply Calls.mono
      (with_reducible apply of_w); decide
      rintro e w2 ⟨A, n, c, rfl, hc, hn, hv, hb⟩
      exact ⟨_, rfl, hK _ w2 nofun (keep_below hb hS) ⟨A, n, c, rfl, hc, hn, hv.rd⟩⟩
    · as_aux_lemma =>
      intro a w' hS hO hF' hP K hK
      obtain ⟨_, f0, Ay0, ny0, cy0, rfl, hc0, hn0, hr0⟩ := (hF' 94 rfl).1 241 _ rfl rfl
      obtain ⟨_, f1, Ay1, ny1, cy1, rfl, hc1, hn1, hr1⟩ := (hF' 95 rfl).1 242 _ rfl rfl
      refine if_ok (by rfl) ?_
      refine wp_calls rfl (enters_of Tryz.func63 (by kernel_rfl) rfl) (args := #[(.agg #[.slice Ay0 ny0 cy0, .bool (⟨ofL ⟨#[49, 48, 48, 48]⟩, true⟩ : V).s]), (.agg #[.slice Ay1 ny1 cy1, .bool (⟨ofL ⟨#[49]⟩, false⟩ : V).s])]) (by simp [Act.eval, f0, f1]) ?_
      obtain ⟨O1, O2, r1, r2, TT, BB⟩ := id hS
      apply Calls.mono
      (with_reducible apply vShr_any_w); (repeat (first | assumption | (with_reducible (apply Nb.rd; assumption)) | (with_reducible (apply Rb.at_later; assumption)) | (with_reducible (apply Tabs.at_later; assumption)) | (with_reducible apply Rb.alloc) | (with_reducible apply Tabs.alloc) | (with_reducible apply Rb.drew) | (with_reducible apply Tabs.drew) | (show I64 _; unfold I64; omega) | omega))
      rintro e w2 ⟨A, n, c, rfl, hc, hn, hv, hb⟩
      exact ⟨_, rfl, hK _ w2 nofun (keep_below hb hS) ⟨A, n, c, rfl, hc, hn, hv.rd⟩⟩
    · as_aux_lemma =>
      intro a w' hS hO hF' hP K hK
      refine if_ok (by rfl) ?_
      refine wp_calls rfl (enters_of Tryz.func59 (by kernel_rfl) rfl) (args := #[(.string ⟨#[48, 49, 48, 48]⟩)]) (by simp [Act.eval]) ?_
      obtain ⟨O1, O2, r1, r2, TT, BB⟩ := id hS
      apply Calls.mono
      (with_reducible apply sof_w); decide
      rintro e w2 ⟨A, n, c, rfl, hc, hn, hv, hb⟩
      exact ⟨_, rfl, hK _ w2 nofun (keep_below hb hS) ⟨A, n, c, rfl, hc, hn, hv.rd⟩⟩
    · as_aux_lemma =>
      intro a w' hS hO hF' hP K hK
      obtain ⟨_, f0, Ay0, ny0, cy0, rfl, hc0, hn0, hr0⟩ := (hF' 96 rfl).1 243 _ rfl rfl
      obtain ⟨_, f1, Ay1, ny1, cy1, rfl, hc1, hn1, hr1⟩ := (hF' 97 rfl).1 244 _ rfl rfl
      refine if_ok (by rfl) ?_
      refine wp_bldR _ _ rfl (ev f0) (ev f1) ?_
      exact hK _ w' nofun (keep_same hS) ⟨Ay0, ny0, cy0, Ay1, ny1, cy1, rfl, ⟨hc0, hn0, hr0⟩, hc1, hn1, hr1⟩
    · as_aux_lemma =>
      intro a w' hS hO hF' hP K hK
      refine if_ok (by rfl) ?_
      refine wp_calls rfl (enters_of Tryz.func54 (by kernel_rfl) rfl) (args := #[(.string ⟨#[49, 48, 48, 48]⟩)]) (by simp [Act.eval]) ?_
      obtain ⟨O1, O2, r1, r2, TT, BB⟩ := id hS
      apply Calls.mono
      (with_reducible apply of_w); decide
      rintro e w2 ⟨A, n, c, rfl, hc, hn, hv, hb⟩
      exact ⟨_, rfl, hK _ w2 nofun (keep_below hb hS) ⟨A, n, c, rfl, hc, hn, hv.rd⟩⟩
    · as_aux_lemma =>
      intro a w' hS hO hF' hP K hK
      refine if_ok (by rfl) ?_
      refine wp_calls rfl (enters_of Tryz.func54 (by kernel_rfl) rfl) (args := #[(.string ⟨#[49]⟩)]) (by simp [Act.eval]) ?_
      obtain ⟨O1, O2, r1, r2, TT, BB⟩ := id hS
      apply Calls.mono
      (with_reducible apply of_w); decide
      rintro e w2 ⟨A, n, c, rfl, hc, hn, hv, hb⟩
      exact ⟨_, rfl, hK _ w2 nofun (keep_below hb hS) ⟨A, n, c, rfl, hc, hn, hv.rd⟩⟩
    · as_aux_lemma =>
      intro a w' hS hO hF' hP K hK
      obtain ⟨_, f0, Ay0, ny0, cy0, rfl, hc0, hn0, hr0⟩ := (hF' 99 rfl).1 246 _ rfl rfl
      obtain ⟨_, f1, Ay1, ny1, cy1, rfl, hc1, hn1, hr1⟩ := (hF' 100 rfl).1 247 _ rfl rfl
      refine if_ok (by rfl) ?_
      refine wp_calls rfl (enters_of Tryz.func64 (by kernel_rfl) rfl) (args := #[(.agg #[.slice Ay0 ny0 cy0, .bool (⟨ofL ⟨#[49, 48, 48, 48]⟩, false⟩ : V).s]), (.agg #[.slice Ay1 ny1 cy1, .bool (⟨ofL ⟨#[49]⟩, false⟩ : V).s])]) (by simp [Act.eval, f0, f1]) ?_
      obtain ⟨O1, O2, r1, r2, TT, BB⟩ := id hS
      apply Calls.mono
      (with_reducible apply vAShr_any_w); (repeat (first | assumption | (with_reducible (apply Nb.rd; assumption)) | (with_reducible (apply Rb.at_later; assumption)) | (with_reducible (apply Tabs.at_later; assumption)) | (with_reducible apply Rb.alloc) | (with_reducible apply Tabs.alloc) | (with_reducible apply Rb.drew) | (with_reducible apply Tabs.drew) | (show I64 _; unfold I64; omega) | omega))
      rintro e w2 ⟨A, n, c, rfl, hc, hn, hv, hb⟩
      exact ⟨_, rfl, hK _ w2 nofun (keep_below hb hS) ⟨A, n, c, rfl, hc, hn, hv.rd⟩⟩
    · as_aux_lemma =>
      intro a w' hS hO hF' hP K hK
      refine if_ok (by rfl) ?_
      refine wp_calls rfl (enters_of Tryz.func54 (by kernel_rfl) rfl) (args := #[(.string ⟨#[48, 49, 48, 48]⟩)]) (by simp [Act.eval]) ?_
      obtain ⟨O1, O2, r1, r2, TT, BB⟩ := id hS
      apply Calls.mono
      (with_reducible apply of_w); decide
      rintro e w2 ⟨A, n, c, rfl, hc, hn, hv, hb⟩
      exact ⟨_, rfl, hK _ w2 nofun (keep_below hb hS) ⟨A, n, c, rfl, hc, hn, hv.rd⟩⟩
    · as_aux_lemma =>
      intro a w' hS hO hF' hP K hK
      obtain ⟨_, f0, Ay0, ny0, cy0, rfl, hc0, hn0, hr0⟩ := (hF' 101 rfl).1 248 _ rfl rfl
      obtain ⟨_, f1, Ay1, ny1, cy1, rfl, hc1, hn1, hr1⟩ := (hF' 102 rfl).1 249 _ rfl rfl
      refine if_ok (by rfl) ?_
      refine wp_bldR _ _ rfl (ev f0) (ev f1) ?_
      exact hK _ w' nofun (keep_same hS) ⟨Ay0, ny0, cy0, Ay1, ny1, cy1, rfl, ⟨hc0, hn0, hr0⟩, hc1, hn1, hr1⟩
    · as_aux_lemma =>
      intro a w' hS hO hF' hP K hK
      refine if_ok (by rfl) ?_
      refine wp_calls rfl (enters_of Tryz.func59 (by kernel_rfl) rfl) (args := #[(.string ⟨#[120, 48, 48, 48]⟩)]) (by simp [Act.eval]) ?_
      obtain ⟨O1, O2, r1, r2, TT, BB⟩ := id hS
      apply Calls.mono
      (with_reducible apply sof_w); decide
      rintro e w2 ⟨A, n, c, rfl, hc, hn, hv, hb⟩
      exact ⟨_, rfl, hK _ w2 nofun (keep_below hb hS) ⟨A, n, c, rfl, hc, hn, hv.rd⟩⟩
    · as_aux_lemma =>
      intro a w' hS hO hF' hP K hK
      refine if_ok (by rfl) ?_
      refine wp_calls rfl (enters_of Tryz.func59 (by kernel_rfl) rfl) (args := #[(.string ⟨#[49, 49]⟩)]) (by simp [Act.eval]) ?_
      obtain ⟨O1, O2, r1, r2, TT, BB⟩ := id hS
      apply Calls.mono
      (with_reducible apply sof_w); decide
      rintro e w2 ⟨A, n, c, rfl, hc, hn, hv, hb⟩
      exact ⟨_, rfl, hK _ w2 nofun (keep_below hb hS) ⟨A, n, c, rfl, hc, hn, hv.rd⟩⟩
    · as_aux_lemma =>
      intro a w' hS hO hF' hP K hK
      obtain ⟨_, f0, Ay0, ny0, cy0, rfl, hc0, hn0, hr0⟩ := (hF' 104 rfl).1 251 _ rfl rfl
      obtain ⟨_, f1, Ay1, ny1, cy1, rfl, hc1, hn1, hr1⟩ := (hF' 105 rfl).1 252 _ rfl rfl
      refine if_ok (by rfl) ?_
      refine wp_calls rfl (enters_of Tryz.func64 (by kernel_rfl) rfl) (args := #[(.agg #[.slice Ay0 ny0 cy0, .bool (⟨ofL ⟨#[120, 48, 48, 48]⟩, true⟩ : V).s]), (.agg #[.slice Ay1 ny1 cy1, .bool (⟨ofL ⟨#[49, 49]⟩, true⟩ : V).s])]) (by simp [Act.eval, f0, f1]) ?_
      obtain ⟨O1, O2, r1, r2, TT, BB⟩ := id hS
      apply Calls.mono
      (with_reducible apply vAShr_any_w); (repeat (first | assumption | (with_reducible (apply Nb.rd; assumption)) | (with_reducible (apply Rb.at_later; assumption)) | (with_reducible (apply Tabs.at_later; assumption)) | (with_reducible apply Rb.alloc) | (with_reducible apply Tabs.alloc) | (with_reducible apply Rb.drew) | (with_reducible apply Tabs.drew) | (show I64 _; unfold I64; omega) | omega))
      rintro e w2 ⟨A, n, c, rfl, hc, hn, hv, hb⟩
      exact ⟨_, rfl, hK _ w2 nofun (keep_below hb hS) ⟨A, n, c, rfl, hc, hn, hv.rd⟩⟩
    · as_aux_lemma =>
      intro a w' hS hO hF' hP K hK
      refine if_ok (by rfl) ?_
      refine wp_calls rfl (enters_of Tryz.func59 (by kernel_rfl) rfl) (args := #[(.string ⟨#[120, 120, 120, 120]⟩)]) (by simp [Act.eval]) ?_
      obtain ⟨O1, O2, r1, r2, TT, BB⟩ := id hS
      apply Calls.mono
      (with_reducible apply sof_w); decide
      rintro e w2 ⟨A, n, c, rfl, hc, hn, hv, hb⟩
      exact ⟨_, rfl, hK _ w2 nofun (keep_below hb hS) ⟨A, n, c, rfl, hc, hn, hv.rd⟩⟩
    · as_aux_lemma =>
      intro a w' hS hO hF' hP K hK
      obtain ⟨_, f0, Ay0, ny0, cy0, rfl, hc0, hn0, hr0⟩ := (hF' 106 rfl).1 253 _ rfl rfl
      obtain ⟨_, f1, Ay1, ny1, cy1, rfl, hc1, hn1, hr1⟩ := (hF' 107 rfl).1 254 _ rfl rfl
      refine if_ok (by rfl) ?_
      refine wp_bldR _ _ rfl (ev f0) (ev f1) ?_
      exact hK _ w' nofun (keep_same hS) ⟨Ay0, ny0, cy0, Ay1, ny1, cy1, rfl, ⟨hc0, hn0, hr0⟩, hc1, hn1, hr1⟩
    · as_aux_lemma =>
      intro a w' hS hO hF' hP K hK
      refine if_ok (by rfl) ?_
      refine wp_calls rfl (enters_of Tryz.func54 (by kernel_rfl) rfl) (args := #[(.string ⟨#[49, 49]⟩)]) (by simp [Act.eval]) ?_
      obtain ⟨O1, O2, r1, r2, TT, BB⟩ := id hS
      apply Calls.mono
      (with_reducible apply of_w); decide
      rintro e w2 ⟨A, n, c, rfl, hc, hn, hv, hb⟩
      exact ⟨_, rfl, hK _ w2 nofun (keep_below hb hS) ⟨A, n, c, rfl, hc, hn, hv.rd⟩⟩
    · as_aux_lemma =>
      intro a w' hS hO hF' hP K hK
      refine if_ok (by rfl) ?_
      refine wp_calls rfl (enters_of Tryz.func53 (by kernel_rfl) rfl) (args := #[(.int .u8 (1)), (.int .i64 (128)), (.bool false)]) (by simp [Act.eval]) ?_
      obtain ⟨O1, O2, r1, r2, TT, BB⟩ := id hS
      apply Calls.mono
      exact rFill_k 1 128 false _ (by decide) (by decide)
      rintro e w2 ⟨A, n, c, rfl, hc, hn, hv, hb⟩
      exact ⟨_, rfl, hK _ w2 nofun (keep_below hb hS) ⟨A, n, c, rfl, hc, hn, hv.rd⟩⟩
    · as_aux_lemma =>
      intro a w' hS hO hF' hP K hK
      obtain ⟨_, f0, Ay0, ny0, cy0, rfl, hc0, hn0, hr0⟩ := (hF' 109 rfl).1 256 _ rfl rfl
      obtain ⟨_, f1, Ay1, ny1, cy1, rfl, hc1, hn1, hr1⟩ := (hF' 110 rfl).1 257 _ rfl rfl
      refine if_ok (by rfl) ?_
      refine wp_calls rfl (enters_of Tryz.func63 (by kernel_rfl) rfl) (args := #[(.agg #[.slice Ay0 ny0 cy0, .bool (⟨ofL ⟨#[49, 49]⟩, false⟩ : V).s]), (.agg #[.slice Ay1 ny1 cy1, .bool (⟨(allV 1 (128 : Int).toNat false).l, false⟩ : V).s])]) (by simp [Act.eval, f0, f1]) ?_
      obtain ⟨O1, O2, r1, r2, TT, BB⟩ := id hS
      apply Calls.mono
      (with_reducible apply vShr_any_w); (repeat (first | assumption | (with_reducible (apply Nb.rd; assumption)) | (with_reducible (apply Rb.at_later; assumption)) | (with_reducible (apply Tabs.at_later; assumption)) | (with_reducible apply Rb.alloc) | (with_reducible apply Tabs.alloc) | (with_reducible apply Rb.drew) | (with_reducible apply Tabs.drew) | (show I64 _; unfold I64; omega) | omega))
      rintro e w2 ⟨A, n, c, rfl, hc, hn, hv, hb⟩
      exact ⟨_, rfl, hK _ w2 nofun (keep_below hb hS) ⟨A, n, c, rfl, hc, hn, hv.rd⟩⟩
    · as_aux_lemma =>
      intro a w' hS hO hF' hP K hK
      refine if_ok (by rfl) ?_
      refine wp_calls rfl (enters_of Tryz.func54 (by kernel_rfl) rfl) (args := #[(.string ⟨#[48, 48]⟩)]) (by simp [Act.eval]) ?_
      obtain ⟨O1, O2, r1, r2, TT, BB⟩ := id hS
      apply Calls.mono
      (with_reducible apply of_w); decide
      rintro e w2 ⟨A, n, c, rfl, hc, hn, hv, hb⟩
      exact ⟨_, rfl, hK _ w2 nofun (keep_below hb hS) ⟨A, n, c, rfl, hc, hn, hv.rd⟩⟩
    · as_aux_lemma =>
      intro a w' hS hO hF' hP K hK
      obtain ⟨_, f0, Ay0, ny0, cy0, rfl, hc0, hn0, hr0⟩ := (hF' 111 rfl).1 258 _ rfl rfl
      obtain ⟨_, f1, Ay1, ny1, cy1, rfl, hc1, hn1, hr1⟩ := (hF' 112 rfl).1 259 _ rfl rfl
      refine if_ok (by rfl) ?_
      refine wp_bldR _ _ rfl (ev f0) (ev f1) ?_
      exact hK _ w' nofun (keep_same hS) ⟨Ay0, ny0, cy0, Ay1, ny1, cy1, rfl, ⟨hc0, hn0, hr0⟩, hc1, hn1, hr1⟩
    · as_aux_lemma =>
      intro a w' hS hO hF' hP K hK
      refine if_ok (by rfl) ?_
      refine wp_calls rfl (enters_of Tryz.func54 (by kernel_rfl) rfl) (args := #[(.string ⟨#[48, 49]⟩)]) (by simp [Act.eval]) ?_
      obtain ⟨O1, O2, r1, r2, TT, BB⟩ := id hS
      apply Calls.mono
      (with_reducible apply of_w); decide
      rintro e w2 ⟨A, n, c, rfl, hc, hn, hv, hb⟩
      exact ⟨_, rfl, hK _ w2 nofun (keep_below hb hS) ⟨A, n, c, rfl, hc, hn, hv.rd⟩⟩
    · as_aux_lemma =>
      intro a w' hS hO hF' hP K hK
      refine if_ok (by rfl) ?_
      refine wp_calls rfl (enters_of Tryz.func54 (by kernel_rfl) rfl) (args := #[(.string ⟨#[122]⟩)]) (by simp [Act.eval]) ?_
      obtain ⟨O1, O2, r1, r2, TT, BB⟩ := id hS
      apply Calls.mono
      (with_reducible apply of_w); decide
      rintro e w2 ⟨A, n, c, rfl, hc, hn, hv, hb⟩
      exact ⟨_, rfl, hK _ w2 nofun (keep_below hb hS) ⟨A, n, c, rfl, hc, hn, hv.rd⟩⟩
    · as_aux_lemma =>
      intro a w' hS hO hF' hP K hK
      obtain ⟨_, f0, Ay0, ny0, cy0, rfl, hc0, hn0, hr0⟩ := (hF' 114 rfl).1 261 _ rfl rfl
      obtain ⟨_, f1, Ay1, ny1, cy1, rfl, hc1, hn1, hr1⟩ := (hF' 115 rfl).1 262 _ rfl rfl
      refine if_ok (by rfl) ?_
      refine wp_calls rfl (enters_of Tryz.func62 (by kernel_rfl) rfl) (args := #[(.agg #[.slice Ay0 ny0 cy0, .bool (⟨ofL ⟨#[48, 49]⟩, false⟩ : V).s]), (.agg #[.slice Ay1 ny1 cy1, .bool (⟨ofL ⟨#[122]⟩, false⟩ : V).s])]) (by simp [Act.eval, f0, f1]) ?_
      obtain ⟨O1, O2, r1, r2, TT, BB⟩ := id hS
      apply Calls.mono
      (with_reducible apply vShl_any_w); (repeat (first | assumption | (with_reducible (apply Nb.rd; assumption)) | (with_reducible (apply Rb.at_later; assumption)) | (with_reducible (apply Tabs.at_later; assumption)) | (with_reducible apply Rb.alloc) | (with_reducible apply Tabs.alloc) | (with_reducible apply Rb.drew) | (with_reducible apply Tabs.drew) | (show I64 _; unfold I64; omega) | omega))
      rintro e w2 ⟨A, n, c, rfl, hc, hn, hv, hb⟩
      exact ⟨_, rfl, hK _ w2 nofun (keep_below hb hS) ⟨A, n, c, rfl, hc, hn, hv.rd⟩⟩
    · as_aux_lemma =>
      intro a w' hS hO hF' hP K hK
      refine if_ok (by rfl) ?_
      refine wp_calls rfl (enters_of Tryz.func54 (by kernel_rfl) rfl) (args := #[(.string ⟨#[120, 120]⟩)]) (by simp [Act.eval]) ?_
      obtain ⟨O1, O2, r1, r2, TT, BB⟩ := id hS
      apply Calls.mono
      (with_reducible apply of_w); decide
      rintro e w2 ⟨A, n, c, rfl, hc, hn, hv, hb⟩
      exact ⟨_, rfl, hK _ w2 nofun (keep_below hb hS) ⟨A, n, c, rfl, hc, hn, hv.rd⟩⟩
    · as_aux_lemma =>
      intro a w' hS hO hF' hP K hK
      obtain ⟨_, f0, Ay0, ny0, cy0, rfl, hc0, hn0, hr0⟩ := (hF' 116 rfl).1 263 _ rfl rfl
      obtain ⟨_, f1, Ay1, ny1, cy1, rfl, hc1, hn1, hr1⟩ := (hF' 117 rfl).1 264 _ rfl rfl
      refine if_ok (by rfl) ?_
      refine wp_bldR _ _ rfl (ev f0) (ev f1) ?_
      exact hK _ w' nofun (keep_same hS) ⟨Ay0, ny0, cy0, Ay1, ny1, cy1, rfl, ⟨hc0, hn0, hr0⟩, hc1, hn1, hr1⟩
    · as_aux_lemma =>
      intro a w' hS hO hF' hP K hK
      refine if_ok (by rfl) ?_
      refine wp_calls rfl (enters_of Tryz.func59 (by kernel_rfl) rfl) (args := #[(.string ⟨#[48, 49, 48, 49]⟩)]) (by simp [Act.eval]) ?_
      obtain ⟨O1, O2, r1, r2, TT, BB⟩ := id hS
      apply Calls.mono
      (with_reducible apply sof_w); decide
      rintro e w2 ⟨A, n, c, rfl, hc, hn, hv, hb⟩
      exact ⟨_, rfl, hK _ w2 nofun (keep_below hb hS) ⟨A, n, c, rfl, hc, hn, hv.rd⟩⟩
    · as_aux_lemma =>
      intro a w' hS hO hF' hP K hK
      refine if_ok (by rfl) ?_
      refine wp_calls rfl (enters_of Tryz.func54 (by kernel_rfl) rfl) (args := #[(.string ⟨#[49]⟩)]) (by simp [Act.eval]) ?_
      obtain ⟨O1, O2, r1, r2, TT, BB⟩ := id hS
      apply Calls.mono
      (with_reducible apply of_w); decide
      rintro e w2 ⟨A, n, c, rfl, hc, hn, hv, hb⟩
      exact ⟨_, rfl, hK _ w2 nofun (keep_below hb hS) ⟨A, n, c, rfl, hc, hn, hv.rd⟩⟩
    · as_aux_lemma =>
      intro a w' hS hO hF' hP K hK
      obtain ⟨_, f0, Ay0, ny0, cy0, rfl, hc0, hn0, hr0⟩ := (hF' 119 rfl).1 266 _ rfl rfl
      obtain ⟨_, f1, Ay1, ny1, cy1, rfl, hc1, hn1, hr1⟩ := (hF' 120 rfl).1 267 _ rfl rfl
      refine if_ok (by rfl) ?_
      refine wp_calls rfl (enters_of Tryz.func65 (by kernel_rfl) rfl) (args := #[(.agg #[.slice Ay0 ny0 cy0, .bool (⟨ofL ⟨#[48, 49, 48, 49]⟩, true⟩ : V).s]), (.agg #[.slice Ay1 ny1 cy1, .bool (⟨ofL ⟨#[49]⟩, false⟩ : V).s])]) (by simp [Act.eval, f0, f1]) ?_
      obtain ⟨O1, O2, r1, r2, TT, BB⟩ := id hS
      apply Calls.mono
      (with_reducible apply vAShl_any_w); (repeat (first | assumption | (with_reducible (apply Nb.rd; assumption)) | (with_reducible (apply Rb.at_later; assumption)) | (with_reducible (apply Tabs.at_later; assumption)) | (with_reducible apply Rb.alloc) | (with_reducible apply Tabs.alloc) | (with_reducible apply Rb.drew) | (with_reducible apply Tabs.drew) | (show I64 _; unfold I64; omega) | omega))
      rintro e w2 ⟨A, n, c, rfl, hc, hn, hv, hb⟩
      exact ⟨_, rfl, hK _ w2 nofun (keep_below hb hS) ⟨A, n, c, rfl, hc, hn, hv.rd⟩⟩
    · as_aux_lemma =>
      intro a w' hS hO hF' hP K hK
      refine if_ok (by rfl) ?_
      refine wp_calls rfl (enters_of Tryz.func59 (by kernel_rfl) rfl) (args := #[(.string ⟨#[49, 48, 49, 48]⟩)]) (by simp [Act.eval]) ?_
      obtain ⟨O1, O2, r1, r2, TT, BB⟩ := id hS
      apply Calls.mono
      (with_reducible apply sof_w); decide
      rintro e w2 ⟨A, n, c, rfl, hc, hn, hv, hb⟩
      exact ⟨_, rfl, hK _ w2 nofun (keep_below hb hS) ⟨A, n, c, rfl, hc, hn, hv.rd⟩⟩
    · as_aux_lemma =>
      intro a w' hS hO hF' hP K hK
      obtain ⟨_, f0, Ay0, ny0, cy0, rfl, hc0, hn0, hr0⟩ := (hF' 121 rfl).1 268 _ rfl rfl
      obtain ⟨_, f1, Ay1, ny1, cy1, rfl, hc1, hn1, hr1⟩ := (hF' 122 rfl).1 269 _ rfl rfl
      refine if_ok (by rfl) ?_
      refine wp_bldR _ _ rfl (ev f0) (ev f1) ?_
      exact hK _ w' nofun (keep_same hS) ⟨Ay0, ny0, cy0, Ay1, ny1, cy1, rfl, ⟨hc0, hn0, hr0⟩, hc1, hn1, hr1⟩
    · as_aux_lemma =>
      intro a w' hS hO hF' hP K hK
      refine if_ok (by rfl) ?_
      refine wp_calls rfl (enters_of Tryz.func54 (by kernel_rfl) rfl) (args := #[(.string ⟨#[49, 120, 48]⟩)]) (by simp [Act.eval]) ?_
      obtain ⟨O1, O2, r1, r2, TT, BB⟩ := id hS
      apply Calls.mono
      (with_reducible apply of_w); decide
      rintro e w2 ⟨A, n, c, rfl, hc, hn, hv, hb⟩
      exact ⟨_, rfl, hK _ w2 nofun (keep_below hb hS) ⟨A, n, c, rfl, hc, hn, hv.rd⟩⟩
    · as_aux_lemma =>
      intro a w' hS hO hF' hP K hK
      obtain ⟨_, f0, Ay0, ny0, cy0, rfl, hc0, hn0, hr0⟩ := (hF' 124 rfl).1 271 _ rfl rfl
      refine if_ok (by rfl) ?_
      refine wp_calls rfl (enters_of Tryz.func66 (by kernel_rfl) rfl) (args := #[(.agg #[.slice Ay0 ny0 cy0, .bool (⟨ofL ⟨#[49, 120, 48]⟩, false⟩ : V).s])]) (by simp [Act.eval, f0]) ?_
      obtain ⟨O1, O2, r1, r2, TT, BB⟩ := id hS
      apply Calls.mono
      (with_reducible apply RedAnd_any_w); (repeat (first | assumption | (with_reducible (apply Nb.rd; assumption)) | (with_reducible (apply Rb.at_later; assumption)) | (with_reducible (apply Tabs.at_later; assumption)) | (with_reducible apply Rb.alloc) | (with_reducible apply Tabs.alloc) | (with_reducible apply Rb.drew) | (with_reducible apply Tabs.drew) | (show I64 _; unfold I64; omega) | omega))
      rintro e w2 ⟨A, n, c, rfl, hc, hn, hv, hb⟩
      exact ⟨_, rfl, hK _ w2 nofun (keep_below hb hS) ⟨A, n, c, rfl, hc, hn, hv.rd⟩⟩
    · as_aux_lemma =>
      intro a w' hS hO hF' hP K hK
      refine if_ok (by rfl) ?_
      refine wp_calls rfl (enters_of Tryz.func54 (by kernel_rfl) rfl) (args := #[(.string ⟨#[48]⟩)]) (by simp [Act.eval]) ?_
      obtain ⟨O1, O2, r1, r2, TT, BB⟩ := id hS
      apply Calls.mono
      (with_reducible apply of_w); decide
      rintro e w2 ⟨A, n, c, rfl, hc, hn, hv, hb⟩
      exact ⟨_, rfl, hK _ w2 nofun (keep_below hb hS) ⟨A, n, c, rfl, hc, hn, hv.rd⟩⟩
    · as_aux_lemma =>
      intro a w' hS hO hF' hP K hK
      obtain ⟨_, f0, Ay0, ny0, cy0, rfl, hc0, hn0, hr0⟩ := (hF' 125 rfl).1 272 _ rfl rfl
      obtain ⟨_, f1, Ay1, ny1, cy1, rfl, hc1, hn1, hr1⟩ := (hF' 126 rfl).1 273 _ rfl rfl
      refine if_ok (by rfl) ?_
      refine wp_bldR _ _ rfl (ev f0) (ev f1) ?_
      exact hK _ w' nofun (keep_same hS) ⟨Ay0, ny0, cy0, Ay1, ny1, cy1, rfl, ⟨hc0, hn0, hr0⟩, hc1, hn1, hr1⟩
    · as_aux_lemma =>
      intro a w' hS hO hF' hP K hK
      refine if_ok (by rfl) ?_
      refine wp_calls rfl (enters_of Tryz.func54 (by kernel_rfl) rfl) (args := #[(.string ⟨#[48, 120]⟩)]) (by simp [Act.eval]) ?_
      obtain ⟨O1, O2, r1, r2, TT, BB⟩ := id hS
      apply Calls.mono
      (with_reducible apply of_w); decide
      rintro e w2 ⟨A, n, c, rfl, hc, hn, hv, hb⟩
      exact ⟨_, rfl, hK _ w2 nofun (keep_below hb hS) ⟨A, n, c, rfl, hc, hn, hv.rd⟩⟩
    · as_aux_lemma =>
      intro a w' hS hO hF' hP K hK
      obtain ⟨_, f0, Ay0, ny0, cy0, rfl, hc0, hn0, hr0⟩ := (hF' 128 rfl).1 275 _ rfl rfl
      refine if_ok (by rfl) ?_
      refine wp_calls rfl (enters_of Tryz.func67 (by kernel_rfl) rfl) (args := #[(.agg #[.slice Ay0 ny0 cy0, .bool (⟨ofL ⟨#[48, 120]⟩, false⟩ : V).s])]) (by simp [Act.eval, f0]) ?_
      obtain ⟨O1, O2, r1, r2, TT, BB⟩ := id hS
      apply Calls.mono
      (with_reducible apply RedOr_any_w); (repeat (first | assumption | (with_reducible (apply Nb.rd; assumption)) | (with_reducible (apply Rb.at_later; assumption)) | (with_reducible (apply Tabs.at_later; assumption)) | (with_reducible apply Rb.alloc) | (with_reducible apply Tabs.alloc) | (with_reducible apply Rb.drew) | (with_reducible apply Tabs.drew) | (show I64 _; unfold I64; omega) | omega))
      rintro e w2 ⟨A, n, c, rfl, hc, hn, hv, hb⟩
      exact ⟨_, rfl, hK _ w2 nofun (keep_below hb hS) ⟨A, n, c, rfl, hc, hn, hv.rd⟩⟩
    · as_aux_lemma =>
      intro a w' hS hO hF' hP K hK
      refine if_ok (by rfl) ?_
      refine wp_calls rfl (enters_of Tryz.func54 (by kernel_rfl) rfl) (args := #[(.string ⟨#[120]⟩)]) (by simp [Act.eval]) ?_
      obtain ⟨O1, O2, r1, r2, TT, BB⟩ := id hS
      apply Calls.mono
      (with_reducible apply of_w); decide
      rintro e w2 ⟨A, n, c, rfl, hc, hn, hv, hb⟩
      exact ⟨_, rfl, hK _ w2 nofun (keep_below hb hS) ⟨A, n, c, rfl, hc, hn, hv.rd⟩⟩
    · as_aux_lemma =>
      intro a w' hS hO hF' hP K hK
      obtain ⟨_, f0, Ay0, ny0, cy0, rfl, hc0, hn0, hr0⟩ := (hF' 129 rfl).1 276 _ rfl rfl
      obtain ⟨_, f1, Ay1, ny1, cy1, rfl, hc1, hn1, hr1⟩ := (hF' 130 rfl).1 277 _ rfl rfl
      refine if_ok (by rfl) ?_
      refine wp_bldR _ _ rfl (ev f0) (ev f1) ?_
      exact hK _ w' nofun (keep_same hS) ⟨Ay0, ny0, cy0, Ay1, ny1, cy1, rfl, ⟨hc0, hn0, hr0⟩, hc1, hn1, hr1⟩
    · as_aux_lemma =>
      intro a w' hS hO hF' hP K hK
      refine if_ok (by rfl) ?_
      refine wp_calls rfl (enters_of Tryz.func54 (by kernel_rfl) rfl) (args := #[(.string ⟨#[49, 49, 49]⟩)]) (by simp [Act.eval]) ?_
      obtain ⟨O1, O2, r1, r2, TT, BB⟩ := id hS
      apply Calls.mono
      (with_reducible apply of_w); decide
      rintro e w2 ⟨A, n, c, rfl, hc, hn, hv, hb⟩
      exact ⟨_, rfl, hK _ w2 nofun (keep_below hb hS) ⟨A, n, c, rfl, hc, hn, hv.rd⟩⟩
    · as_aux_lemma =>
      intro a w' hS hO hF' hP K hK
      obtain ⟨_, f0, Ay0, ny0, cy0, rfl, hc0, hn0, hr0⟩ := (hF' 132 rfl).1 279 _ rfl rfl
      refine if_ok (by rfl) ?_
      refine wp_calls rfl (enters_of Tryz.func68 (by kernel_rfl) rfl) (args := #[(.agg #[.slice Ay0 ny0 cy0, .bool (⟨ofL ⟨#[49, 49, 49]⟩, false⟩ : V).s])]) (by simp [Act.eval, f0]) ?_
      obtain ⟨O1, O2, r1, r2, TT, BB⟩ := id hS
      apply Calls.mono
      (with_reducible apply RedXor_any_w); (repeat (first | assumption | (with_reducible (apply Nb.rd; assumption)) | (with_reducible (apply Rb.at_later; assumption)) | (with_reducible (apply Tabs.at_later; assumption)) | (with_reducible apply Rb.alloc) | (with_reducible apply Tabs.alloc) | (with_reducible apply Rb.drew) | (with_reducible apply Tabs.drew) | (show I64 _; unfold I64; omega) | omega))
      rintro e w2 ⟨A, n, c, rfl, hc, hn, hv, hb⟩
      exact ⟨_, rfl, hK _ w2 nofun (keep_below hb hS) ⟨A, n, c, rfl, hc, hn, hv.rd⟩⟩
    · as_aux_lemma =>
      intro a w' hS hO hF' hP K hK
      refine if_ok (by rfl) ?_
      refine wp_calls rfl (enters_of Tryz.func54 (by kernel_rfl) rfl) (args := #[(.string ⟨#[49]⟩)]) (by simp [Act.eval]) ?_
      obtain ⟨O1, O2, r1, r2, TT, BB⟩ := id hS
      apply Calls.mono
      (with_reducible apply of_w); decide
      rintro e w2 ⟨A, n, c, rfl, hc, hn, hv, hb⟩
      exact ⟨_, rfl, hK _ w2 nofun (keep_below hb hS) ⟨A, n, c, rfl, hc, hn, hv.rd⟩⟩
    · as_aux_lemma =>
      intro a w' hS hO hF' hP K hK
      obtain ⟨_, f0, Ay0, ny0, cy0, rfl, hc0, hn0, hr0⟩ := (hF' 133 rfl).1 280 _ rfl rfl
      obtain ⟨_, f1, Ay1, ny1, cy1, rfl, hc1, hn1, hr1⟩ := (hF' 134 rfl).1 281 _ rfl rfl
      refine if_ok (by rfl) ?_
      refine wp_bldR _ _ rfl (ev f0) (ev f1) ?_
      exact hK _ w' nofun (keep_same hS) ⟨Ay0, ny0, cy0, Ay1, ny1, cy1, rfl, ⟨hc0, hn0, hr0⟩, hc1, hn1, hr1⟩
    · as_aux_lemma =>
      intro a w' hS hO hF' hP K hK
      refine if_ok (by rfl) ?_
      refine wp_calls rfl (enters_of Tryz.func54 (by kernel_rfl) rfl) (args := #[(.string ⟨#[122]⟩)]) (by simp [Act.eval]) ?_
      obtain ⟨O1, O2, r1, r2, TT, BB⟩ := id hS
      apply Calls.mono
      (with_reducible apply of_w); decide
      rintro e w2 ⟨A, n, c, rfl, hc, hn, hv, hb⟩
      exact ⟨_, rfl, hK _ w2 nofun (keep_below hb hS) ⟨A, n, c, rfl, hc, hn, hv.rd⟩⟩
    · as_aux_lemma =>
      intro a w' hS hO hF' hP K hK
      obtain ⟨_, f0, Ay0, ny0, cy0, rfl, hc0, hn0, hr0⟩ := (hF' 136 rfl).1 283 _ rfl rfl
      refine if_ok (by rfl) ?_
      refine wp_calls rfl (enters_of Tryz.func69 (by kernel_rfl) rfl) (args := #[(.agg #[.slice Ay0 ny0 cy0, .bool (⟨ofL ⟨#[122]⟩, false⟩ : V).s])]) (by simp [Act.eval, f0]) ?_
      obtain ⟨O1, O2, r1, r2, TT, BB⟩ := id hS
      apply Calls.mono
      (with_reducible apply RedNand_any_w); (repeat (first | assumption | (with_reducible (apply Nb.rd; assumption)) | (with_reducible (apply Rb.at_later; assumption)) | (with_reducible (apply Tabs.at_later; assumption)) | (with_reducible apply Rb.alloc) | (with_reducible apply Tabs.alloc) | (with_reducible apply Rb.drew) | (with_reducible apply Tabs.drew) | (show I64 _; unfold I64; omega) | omega))
      rintro e w2 ⟨A, n, c, rfl, hc, hn, hv, hb⟩
      exact ⟨_, rfl, hK _ w2 nofun (keep_below hb hS) ⟨A, n, c, rfl, hc, hn, hv.rd⟩⟩
    · as_aux_lemma =>
      intro a w' hS hO hF' hP K hK
      refine if_ok (by rfl) ?_
      refine wp_calls rfl (enters_of Tryz.func54 (by kernel_rfl) rfl) (args := #[(.string ⟨#[120]⟩)]) (by simp [Act.eval]) ?_
      obtain ⟨O1, O2, r1, r2, TT, BB⟩ := id hS
      apply Calls.mono
      (with_reducible apply of_w); decide
      rintro e w2 ⟨A, n, c, rfl, hc, hn, hv, hb⟩
      exact ⟨_, rfl, hK _ w2 nofun (keep_below hb hS) ⟨A, n, c, rfl, hc, hn, hv.rd⟩⟩
    · as_aux_lemma =>
      intro a w' hS hO hF' hP K hK
      obtain ⟨_, f0, Ay0, ny0, cy0, rfl, hc0, hn0, hr0⟩ := (hF' 137 rfl).1 284 _ rfl rfl
      obtain ⟨_, f1, Ay1, ny1, cy1, rfl, hc1, hn1, hr1⟩ := (hF' 138 rfl).1 285 _ rfl rfl
      refine if_ok (by rfl) ?_
      refine wp_bldR _ _ rfl (ev f0) (ev f1) ?_
      exact hK _ w' nofun (keep_same hS) ⟨Ay0, ny0, cy0, Ay1, ny1, cy1, rfl, ⟨hc0, hn0, hr0⟩, hc1, hn1, hr1⟩
    · as_aux_lemma =>
      intro a w' hS hO hF' hP K hK
      refine if_ok (by rfl) ?_
      refine wp_calls rfl (enters_of Tryz.func54 (by kernel_rfl) rfl) (args := #[(.string ⟨#[48, 48]⟩)]) (by simp [Act.eval]) ?_
      obtain ⟨O1, O2, r1, r2, TT, BB⟩ := id hS
      apply Calls.mono
      (with_reducible apply of_w); decide
      rintro e w2 ⟨A, n, c, rfl, hc, hn, hv, hb⟩
      exact ⟨_, rfl, hK _ w2 nofun (keep_below hb hS) ⟨A, n, c, rfl, hc, hn, hv.rd⟩⟩
    · as_aux_lemma =>
      intro a w' hS hO hF' hP K hK
      obtain ⟨_, f0, Ay0, ny0, cy0, rfl, hc0, hn0, hr0⟩ := (hF' 140 rfl).1 287 _ rfl rfl
      refine if_ok (by rfl) ?_
      refine wp_calls rfl (enters_of Tryz.func70 (by kernel_rfl) rfl) (args := #[(.agg #[.slice Ay0 ny0 cy0, .bool (⟨ofL ⟨#[48, 48]⟩, false⟩ : V).s])]) (by simp [Act.eval, f0]) ?_
      obtain ⟨O1, O2, r1, r2, TT, BB⟩ := id hS
      apply Calls.mono
      (with_reducible apply RedNor_any_w); (repeat (first | assumption | (with_reducible (apply Nb.rd; assumption)) | (with_reducible (apply Rb.at_later; assumption)) | (with_reducible (apply Tabs.at_later; assumption)) | (with_reducible apply Rb.alloc) | (with_reducible apply Tabs.alloc) | (with_reducible apply Rb.drew) | (with_reducible apply Tabs.drew) | (show I64 _; unfold I64; omega) | omega))
      rintro e w2 ⟨A, n, c, rfl, hc, hn, hv, hb⟩
      exact ⟨_, rfl, hK _ w2 nofun (keep_below hb hS) ⟨A, n, c, rfl, hc, hn, hv.rd⟩⟩
    · as_aux_lemma =>
      intro a w' hS hO hF' hP K hK
      refine if_ok (by rfl) ?_
      refine wp_calls rfl (enters_of Tryz.func54 (by kernel_rfl) rfl) (args := #[(.string ⟨#[49]⟩)]) (by simp [Act.eval]) ?_
      obtain ⟨O1, O2, r1, r2, TT, BB⟩ := id hS
      apply Calls.mono
      (with_reducible apply of_w); decide
      rintro e w2 ⟨A, n, c, rfl, hc, hn, hv, hb⟩
      exact ⟨_, rfl, hK _ w2 nofun (keep_below hb hS) ⟨A, n, c, rfl, hc, hn, hv.rd⟩⟩
    · as_aux_lemma =>
      intro a w' hS hO hF' hP K hK
      obtain ⟨_, f0, Ay0, ny0, cy0, rfl, hc0, hn0, hr0⟩ := (hF' 141 rfl).1 288 _ rfl rfl
      obtain ⟨_, f1, Ay1, ny1, cy1, rfl, hc1, hn1, hr1⟩ := (hF' 142 rfl).1 289 _ rfl rfl
      refine if_ok (by rfl) ?_
      refine wp_bldR _ _ rfl (ev f0) (ev f1) ?_
      exact hK _ w' nofun (keep_same hS) ⟨Ay0, ny0, cy0, Ay1, ny1, cy1, rfl, ⟨hc0, hn0, hr0⟩, hc1, hn1, hr1⟩
    · as_aux_lemma =>
      intro a w' hS hO hF' hP K hK
      refine if_ok (by rfl) ?_
      refine wp_calls rfl (enters_of Tryz.func54 (by kernel_rfl) rfl) (args := #[(.string ⟨#[49, 48]⟩)]) (by simp [Act.eval]) ?_
      obtain ⟨O1, O2, r1, r2, TT, BB⟩ := id hS
      apply Calls.mono
      (with_reducible apply of_w); decide
      rintro e w2 ⟨A, n, c, rfl, hc, hn, hv, hb⟩
      exact ⟨_, rfl, hK _ w2 nofun (keep_below hb hS) ⟨A, n, c, rfl, hc, hn, hv.rd⟩⟩
    · as_aux_lemma =>
      intro a w' hS hO hF' hP K hK
      obtain ⟨_, f0, Ay0, ny0, cy0, rfl, hc0, hn0, hr0⟩ := (hF' 144 rfl).1 291 _ rfl rfl
      refine if_ok (by rfl) ?_
      refine wp_calls rfl (enters_of Tryz.func71 (by kernel_rfl) rfl) (args := #[(.agg #[.slice Ay0 ny0 cy0, .bool (⟨ofL ⟨#[49, 48]⟩, false⟩ : V).s])]) (by simp [Act.eval, f0]) ?_
      obtain ⟨O1, O2, r1, r2, TT, BB⟩ := id hS
      apply Calls.mono
      (with_reducible apply RedXnor_any_w); (repeat (first | assumption | (with_reducible (apply Nb.rd; assumption)) | (with_reducible (apply Rb.at_later; assumption)) | (with_reducible (apply Tabs.at_later; assumption)) | (with_reducible apply Rb.alloc) | (with_reducible apply Tabs.alloc) | (with_reducible apply Rb.drew) | (with_reducible apply Tabs.drew) | (show I64 _; unfold I64; omega) | omega))
      rintro e w2 ⟨A, n, c, rfl, hc, hn, hv, hb⟩
      exact ⟨_, rfl, hK _ w2 nofun (keep_below hb hS) ⟨A, n, c, rfl, hc, hn, hv.rd⟩⟩
    · as_aux_lemma =>
      intro a w' hS hO hF' hP K hK
      refine if_ok (by rfl) ?_
      refine wp_calls rfl (enters_of Tryz.func54 (by kernel_rfl) rfl) (args := #[(.string ⟨#[48]⟩)]) (by simp [Act.eval]) ?_
      obtain ⟨O1, O2, r1, r2, TT, BB⟩ := id hS
      apply Calls.mono
      (with_reducible apply of_w); decide
      rintro e w2 ⟨A, n, c, rfl, hc, hn, hv, hb⟩
      exact ⟨_, rfl, hK _ w2 nofun (keep_below hb hS) ⟨A, n, c, rfl, hc, hn, hv.rd⟩⟩
    · as_aux_lemma =>
      intro a w' hS hO hF' hP K hK
      obtain ⟨_, f0, Ay0, ny0, cy0, rfl, hc0, hn0, hr0⟩ := (hF' 145 rfl).1 292 _ rfl rfl
      obtain ⟨_, f1, Ay1, ny1, cy1, rfl, hc1, hn1, hr1⟩ := (hF' 146 rfl).1 293 _ rfl rfl
      refine if_ok (by rfl) ?_
      refine wp_bldR _ _ rfl (ev f0) (ev f1) ?_
      exact hK _ w' nofun (keep_same hS) ⟨Ay0, ny0, cy0, Ay1, ny1, cy1, rfl, ⟨hc0, hn0, hr0⟩, hc1, hn1, hr1⟩
    · as_aux_lemma =>
      intro a w' hS hO hF' hP K hK
      refine if_ok (by rfl) ?_
      refine wp_calls rfl (enters_of Tryz.func54 (by kernel_rfl) rfl) (args := #[(.string ⟨#[120, 48]⟩)]) (by simp [Act.eval]) ?_
      obtain ⟨O1, O2, r1, r2, TT, BB⟩ := id hS
      apply Calls.mono
      (with_reducible apply of_w); decide
      rintro e w2 ⟨A, n, c, rfl, hc, hn, hv, hb⟩
      exact ⟨_, rfl, hK _ w2 nofun (keep_below hb hS) ⟨A, n, c, rfl, hc, hn, hv.rd⟩⟩
    · as_aux_lemma =>
      intro a w' hS hO hF' hP K hK
      obtain ⟨_, f0, Ay0, ny0, cy0, rfl, hc0, hn0, hr0⟩ := (hF' 148 rfl).1 295 _ rfl rfl
      refine if_ok (by rfl) ?_
      refine wp_calls rfl (enters_of Tryz.func72 (by kernel_rfl) rfl) (args := #[(.agg #[.slice Ay0 ny0 cy0, .bool (⟨ofL ⟨#[120, 48]⟩, false⟩ : V).s])]) (by simp [Act.eval, f0]) ?_
      obtain ⟨O1, O2, r1, r2, TT, BB⟩ := id hS
      apply Calls.mono
      (with_reducible apply lnot_any_w); (repeat (first | assumption | (with_reducible (apply Nb.rd; assumption)) | (with_reducible (apply Rb.at_later; assumption)) | (with_reducible (apply Tabs.at_later; assumption)) | (with_reducible apply Rb.alloc) | (with_reducible apply Tabs.alloc) | (with_reducible apply Rb.drew) | (with_reducible apply Tabs.drew) | (show I64 _; unfold I64; omega) | omega))
      rintro e w2 ⟨A, n, c, rfl, hc, hn, hv, hb⟩
      exact ⟨_, rfl, hK _ w2 nofun (keep_below hb hS) ⟨A, n, c, rfl, hc, hn, hv.rd⟩⟩
    · as_aux_lemma =>
      intro a w' hS hO hF' hP K hK
      refine if_ok (by rfl) ?_
      refine wp_calls rfl (enters_of Tryz.func54 (by kernel_rfl) rfl) (args := #[(.string ⟨#[120]⟩)]) (by simp [Act.eval]) ?_
      obtain ⟨O1, O2, r1, r2, TT, BB⟩ := id hS
      apply Calls.mono
      (with_reducible apply of_w); decide
      rintro e w2 ⟨A, n, c, rfl, hc, hn, hv, hb⟩
      exact ⟨_, rfl, hK _ w2 nofun (keep_below hb hS) ⟨A, n, c, rfl, hc, hn, hv.rd⟩⟩
    · as_aux_lemma =>
      intro a w' hS hO hF' hP K hK
      obtain ⟨_, f0, Ay0, ny0, cy0, rfl, hc0, hn0, hr0⟩ := (hF' 149 rfl).1 296 _ rfl rfl
      obtain ⟨_, f1, Ay1, ny1, cy1, rfl, hc1, hn1, hr1⟩ := (hF' 150 rfl).1 297 _ rfl rfl
      refine if_ok (by rfl) ?_
      refine wp_bldR _ _ rfl (ev f0) (ev f1) ?_
      exact hK _ w' nofun (keep_same hS) ⟨Ay0, ny0, cy0, Ay1, ny1, cy1, rfl, ⟨hc0, hn0, hr0⟩, hc1, hn1, hr1⟩
    · as_aux_lemma =>
      intro a w' hS hO hF' hP K hK
      refine if_ok (by rfl) ?_
      refine wp_calls rfl (enters_of Tryz.func54 (by kernel_rfl) rfl) (args := #[(.string ⟨#[48]⟩)]) (by simp [Act.eval]) ?_
      obtain ⟨O1, O2, r1, r2, TT, BB⟩ := id hS
      apply Calls.mono
      (with_reducible apply of_w); decide
      rintro e w2 ⟨A, n, c, rfl, hc, hn, hv, hb⟩
      exact ⟨_, rfl, hK _ w2 nofun (keep_below hb hS) ⟨A, n, c, rfl, hc, hn, hv.rd⟩⟩
    · as_aux_lemma =>
      intro a w' hS hO hF' hP K hK
      refine if_ok (by rfl) ?_
      refine wp_calls rfl (enters_of Tryz.func54 (by kernel_rfl) rfl) (args := #[(.string ⟨#[120]⟩)]) (by simp [Act.eval]) ?_
      obtain ⟨O1, O2, r1, r2, TT, BB⟩ := id hS
      apply Calls.mono
      (with_reducible apply of_w); decide
      rintro e w2 ⟨A, n, c, rfl, hc, hn, hv, hb⟩
      exact ⟨_, rfl, hK _ w2 nofun (keep_below hb hS) ⟨A, n, c, rfl, hc, hn, hv.rd⟩⟩
    · as_aux_lemma =>
      intro a w' hS hO hF' hP K hK
      obtain ⟨_, f0, Ay0, ny0, cy0, rfl, hc0, hn0, hr0⟩ := (hF' 152 rfl).1 299 _ rfl rfl
      obtain ⟨_, f1, Ay1, ny1, cy1, rfl, hc1, hn1, hr1⟩ := (hF' 153 rfl).1 300 _ rfl rfl
      refine if_ok (by rfl) ?_
      refine wp_calls rfl (enters_of Tryz.func73 (by kernel_rfl) rfl) (args := #[(.agg #[.slice Ay0 ny0 cy0, .bool (⟨ofL ⟨#[48]⟩, false⟩ : V).s]), (.agg #[.slice Ay1 ny1 cy1, .bool (⟨ofL ⟨#[120]⟩, false⟩ : V).s])]) (by simp [Act.eval, f0, f1]) ?_
      obtain ⟨O1, O2, r1, r2, TT, BB⟩ := id hS
      apply Calls.mono
      (with_reducible apply LAnd_any_w); (repeat (first | assumption | (with_reducible (apply Nb.rd; assumption)) | (with_reducible (apply Rb.at_later; assumption)) | (with_reducible (apply Tabs.at_later; assumption)) | (with_reducible apply Rb.alloc) | (with_reducible apply Tabs.alloc) | (with_reducible apply Rb.drew) | (with_reducible apply Tabs.drew) | (show I64 _; unfold I64; omega) | omega))
      rintro e w2 ⟨A, n, c, rfl, hc, hn, hv, hb⟩
      exact ⟨_, rfl, hK _ w2 nofun (keep_below hb hS) ⟨A, n, c, rfl, hc, hn, hv.rd⟩⟩
    · as_aux_lemma =>
      intro a w' hS hO hF' hP K hK
      refine if_ok (by rfl) ?_
      refine wp_calls rfl (enters_of Tryz.func54 (by kernel_rfl) rfl) (args := #[(.string ⟨#[48]⟩)]) (by simp [Act.eval]) ?_
      obtain ⟨O1, O2, r1, r2, TT, BB⟩ := id hS
      apply Calls.mono
      (with_reducible apply of_w); decide
      rintro e w2 ⟨A, n, c, rfl, hc, hn, hv, hb⟩
      exact ⟨_, rfl, hK _ w2 nofun (keep_below hb hS) ⟨A, n, c, rfl, hc, hn, hv.rd⟩⟩
    · as_aux_lemma =>
      intro a w' hS hO hF' hP K hK
      obtain ⟨_, f0, Ay0, ny0, cy0, rfl, hc0, hn0, hr0⟩ := (hF' 154 rfl).1 301 _ rfl rfl
      obtain ⟨_, f1, Ay1, ny1, cy1, rfl, hc1, hn1, hr1⟩ := (hF' 155 rfl).1 302 _ rfl rfl
      refine if_ok (by rfl) ?_
      refine wp_bldR _ _ rfl (ev f0) (ev f1) ?_
      exact hK _ w' nofun (keep_same hS) ⟨Ay0, ny0, cy0, Ay1, ny1, cy1, rfl, ⟨hc0, hn0, hr0⟩, hc1, hn1, hr1⟩
    · as_aux_lemma =>
      intro a w' hS hO hF' hP K hK
      refine if_ok (by rfl) ?_
      refine wp_calls rfl (enters_of Tryz.func54 (by kernel_rfl) rfl) (args := #[(.string ⟨#[120, 49]⟩)]) (by simp [Act.eval]) ?_
      obtain ⟨O1, O2, r1, r2, TT, BB⟩ := id hS
      apply Calls.mono
      (with_reducible apply of_w); decide
      rintro e w2 ⟨A, n, c, rfl, hc, hn, hv, hb⟩
      exact ⟨_, rfl, hK _ w2 nofun (keep_below hb hS) ⟨A, n, c, rfl, hc, hn, hv.rd⟩⟩
    · as_aux_lemma =>
      intro a w' hS hO hF' hP K hK
      refine if_ok (by rfl) ?_
      refine wp_calls rfl (enters_of Tryz.func54 (by kernel_rfl) rfl) (args := #[(.string ⟨#[120]⟩)]) (by simp [Act.eval]) ?_
      obtain ⟨O1, O2, r1, r2, TT, BB⟩ := id hS
      apply Calls.mono
      (with_reducible apply of_w); decide
      rintro e w2 ⟨A, n, c, rfl, hc, hn, hv, hb⟩
      exact ⟨_, rfl, hK _ w2 nofun (keep_below hb hS) ⟨A, n, c, rfl, hc, hn, hv.rd⟩⟩
    · as_aux_lemma =>
      intro a w' hS hO hF' hP K hK
      obtain ⟨_, f0, Ay0, ny0, cy0, rfl, hc0, hn0, hr0⟩ := (hF' 157 rfl).1 304 _ rfl rfl
      obtain ⟨_, f1, Ay1, ny1, cy1, rfl, hc1, hn1, hr1⟩ := (hF' 158 rfl).1 305 _ rfl rfl
      refine if_ok (by rfl) ?_
      refine wp_calls rfl (enters_of Tryz.func74 (by kernel_rfl) rfl) (args := #[(.agg #[.slice Ay0 ny0 cy0, .bool (⟨ofL ⟨#[120, 49]⟩, false⟩ : V).s]), (.agg #[.slice Ay1 ny1 cy1, .bool (⟨ofL ⟨#[120]⟩, false⟩ : V).s])]) (by simp [Act.eval, f0, f1]) ?_
      obtain ⟨O1, O2, r1, r2, TT, BB⟩ := id hS
      apply Calls.mono
      (with_reducible apply LOr_any_w); (repeat (first | assumption | (with_reducible (apply Nb.rd; assumption)) | (with_reducible (apply Rb.at_later; assumption)) | (with_reducible (apply Tabs.at_later; assumption)) | (with_reducible apply Rb.alloc) | (with_reducible apply Tabs.alloc) | (with_reducible apply Rb.drew) | (with_reducible apply Tabs.drew) | (show I64 _; unfold I64; omega) | omega))
      rintro e w2 ⟨A, n, c, rfl, hc, hn, hv, hb⟩
      exact ⟨_, rfl, hK _ w2 nofun (keep_below hb hS) ⟨A, n, c, rfl, hc, hn, hv.rd⟩⟩
    · as_aux_lemma =>
      intro a w' hS hO hF' hP K hK
      refine if_ok (by rfl) ?_
      refine wp_calls rfl (enters_of Tryz.func54 (by kernel_rfl) rfl) (args := #[(.string ⟨#[49]⟩)]) (by simp [Act.eval]) ?_
      obtain ⟨O1, O2, r1, r2, TT, BB⟩ := id hS
      apply Calls.mono
      (with_reducible apply of_w); decide
      rintro e w2 ⟨A, n, c, rfl, hc, hn, hv, hb⟩
      exact ⟨_, rfl, hK _ w2 nofun (keep_below hb hS) ⟨A, n, c, rfl, hc, hn, hv.rd⟩⟩
    · as_aux_lemma =>
      intro a w' hS hO hF' hP K hK
      obtain ⟨_, f0, Ay0, ny0, cy0, rfl, hc0, hn0, hr0⟩ := (hF' 159 rfl).1 306 _ rfl rfl
      obtain ⟨_, f1, Ay1, ny1, cy1, rfl, hc1, hn1, hr1⟩ := (hF' 160 rfl).1 307 _ rfl rfl
      refine if_ok (by rfl) ?_
      refine wp_bldR _ _ rfl (ev f0) (ev f1) ?_
      exact hK _ w' nofun (keep_same hS) ⟨Ay0, ny0, cy0, Ay1, ny1, cy1, rfl, ⟨hc0, hn0, hr0⟩, hc1, hn1, hr1⟩
    · as_aux_lemma =>
      intro a w' hS hO hF' hP K hK
      refine if_ok (by rfl) ?_
      refine wp_calls rfl (enters_of Tryz.func59 (by kernel_rfl) rfl) (args := #[(.string ⟨#[48, 48, 49]⟩)]) (by simp [Act.eval]) ?_
      obtain ⟨O1, O2, r1, r2, TT, BB⟩ := id hS
      apply Calls.mono
      (with_reducible apply sof_w); decide
      rintro e w2 ⟨A, n, c, rfl, hc, hn, hv, hb⟩
      exact ⟨_, rfl, hK _ w2 nofun (keep_below hb hS) ⟨A, n, c, rfl, hc, hn, hv.rd⟩⟩
    · as_aux_lemma =>
      intro a w' hS hO hF' hP K hK
      obtain ⟨_, f0, Ay0, ny0, cy0, rfl, hc0, hn0, hr0⟩ := (hF' 162 rfl).1 309 _ rfl rfl
      refine if_ok (by rfl) ?_
      refine wp_calls rfl (enters_of Tryz.func75 (by kernel_rfl) rfl) (args := #[(.agg #[.slice Ay0 ny0 cy0, .bool (⟨ofL ⟨#[48, 48, 49]⟩, true⟩ : V).s])]) (by simp [Act.eval, f0]) ?_
      obtain ⟨O1, O2, r1, r2, TT, BB⟩ := id hS
      apply Calls.mono
      (with_reducible apply neg_v_w); (repeat (first | assumption | (with_reducible (apply Nb.rd; assumption)) | (with_reducible (apply Rb.at_later; assumption)) | (with_reducible (apply Tabs.at_later; assumption)) | (with_reducible apply Rb.alloc) | (with_reducible apply Tabs.alloc) | (with_reducible apply Rb.drew) | (with_reducible apply Tabs.drew) | (show I64 _; unfold I64; omega) | omega))
      rintro e w2 ⟨A, n, c, rfl, hc, hn, hv, hb⟩
      exact ⟨_, rfl, hK _ w2 nofun (keep_below hb hS) ⟨A, n, c, rfl, hc, hn, hv.rd⟩⟩
    · as_aux_lemma =>
      intro a w' hS hO hF' hP K hK
      refine if_ok (by rfl) ?_
      refine wp_calls rfl (enters_of Tryz.func59 (by kernel_rfl) rfl) (args := #[(.string ⟨#[49, 49, 49]⟩)]) (by simp [Act.eval]) ?_
      obtain ⟨O1, O2, r1, r2, TT, BB⟩ := id hS
      apply Calls.mono
      (with_reducible apply sof_w); decide
      rintro e w2 ⟨A, n, c, rfl, hc, hn, hv, hb⟩
      exact ⟨_, rfl, hK _ w2 nofun (keep_below hb hS) ⟨A, n, c, rfl, hc, hn, hv.rd⟩⟩
    · as_aux_lemma =>
      intro a w' hS hO hF' hP K hK
      obtain ⟨_, f0, Ay0, ny0, cy0, rfl, hc0, hn0, hr0⟩ := (hF' 163 rfl).1 310 _ rfl rfl
      obtain ⟨_, f1, Ay1, ny1, cy1, rfl, hc1, hn1, hr1⟩ := (hF' 164 rfl).1 311 _ rfl rfl
      refine if_ok (by rfl) ?_
      refine wp_bldR _ _ rfl (ev f0) (ev f1) ?_
      exact hK _ w' nofun (keep_same hS) ⟨Ay0, ny0, cy0, Ay1, ny1, cy1, rfl, ⟨hc0, hn0, hr0⟩, hc1, hn1, hr1⟩
    · as_aux_lemma =>
      intro a w' hS hO hF' hP K hK
      refine if_ok (by rfl) ?_
      refine wp_calls rfl (enters_of Tryz.func54 (by kernel_rfl) rfl) (args := #[(.string ⟨#[120, 49]⟩)]) (by simp [Act.eval]) ?_
      obtain ⟨O1, O2, r1, r2, TT, BB⟩ := id hS
      apply Calls.mono
      (with_reducible apply of_w); decide
      rintro e w2 ⟨A, n, c, rfl, hc, hn, hv, hb⟩
      exact ⟨_, rfl, hK _ w2 nofun (keep_below hb hS) ⟨A, n, c, rfl, hc, hn, hv.rd⟩⟩
    · as_aux_lemma =>
      intro a w' hS hO hF' hP K hK
      obtain ⟨_, f0, Ay0, ny0, cy0, rfl, hc0, hn0, hr0⟩ := (hF' 166 rfl).1 313 _ rfl rfl
      refine if_ok (by rfl) ?_
      refine wp_calls rfl (enters_of Tryz.func75 (by kernel_rfl) rfl) (args := #[(.agg #[.slice Ay0 ny0 cy0, .bool (⟨ofL ⟨#[120, 49]⟩, false⟩ : V).s])]) (by simp [Act.eval, f0]) ?_
      obtain ⟨O1, O2, r1, r2, TT, BB⟩ := id hS
      apply Calls.mono
      (with_reducible apply neg_v_w); (repeat (first | assumption | (with_reducible (apply Nb.rd; assumption)) | (with_reducible (apply Rb.at_later; assumption)) | (with_reducible (apply Tabs.at_later; assumption)) | (with_reducible apply Rb.alloc) | (with_reducible apply Tabs.alloc) | (with_reducible apply Rb.drew) | (with_reducible apply Tabs.drew) | (show I64 _; unfold I64; omega) | omega))
      rintro e w2 ⟨A, n, c, rfl, hc, hn, hv, hb⟩
      exact ⟨_, rfl, hK _ w2 nofun (keep_below hb hS) ⟨A, n, c, rfl, hc, hn, hv.rd⟩⟩
    · as_aux_lemma =>
      intro a w' hS hO hF' hP K hK
      refine if_ok (by rfl) ?_
      refine wp_calls rfl (enters_of Tryz.func54 (by kernel_rfl) rfl) (args := #[(.string ⟨#[120, 120]⟩)]) (by simp [Act.eval]) ?_
      obtain ⟨O1, O2, r1, r2, TT, BB⟩ := id hS
      apply Calls.mono
      (with_reducible apply of_w); decide
      rintro e w2 ⟨A, n, c, rfl, hc, hn, hv, hb⟩
      exact ⟨_, rfl, hK _ w2 nofun (keep_below hb hS) ⟨A, n, c, rfl, hc, hn, hv.rd⟩⟩
    · as_aux_lemma =>
      intro a w' hS hO hF' hP K hK
      obtain ⟨_, f0, Ay0, ny0, cy0, rfl, hc0, hn0, hr0⟩ := (hF' 167 rfl).1 314 _ rfl rfl
      obtain ⟨_, f1, Ay1, ny1, cy1, rfl, hc1, hn1, hr1⟩ := (hF' 168 rfl).1 315 _ rfl rfl
      refine if_ok (by rfl) ?_
      refine wp_bldR _ _ rfl (ev f0) (ev f1) ?_
      exact hK _ w' nofun (keep_same hS) ⟨Ay0, ny0, cy0, Ay1, ny1, cy1, rfl, ⟨hc0, hn0, hr0⟩, hc1, hn1, hr1⟩
    · as_aux_lemma =>
      intro a w' hS hO hF' hP K hK
      refine if_ok (by rfl) ?_
      refine wp_calls rfl (enters_of Tryz.func59 (by kernel_rfl) rfl) (args := #[(.string ⟨#[49, 49]⟩)]) (by simp [Act.eval]) ?_
      obtain ⟨O1, O2, r1, r2, TT, BB⟩ := id hS
      apply Calls.mono
      (with_reducible apply sof_w); decide
      rintro e w2 ⟨A, n, c, rfl, hc, hn, hv, hb⟩
      exact ⟨_, rfl, hK _ w2 nofun (keep_below hb hS) ⟨A, n, c, rfl, hc, hn, hv.rd⟩⟩
    · as_aux_lemma =>
      intro a w' hS hO hF' hP K hK
      refine if_ok (by rfl) ?_
      refine wp_calls rfl (enters_of Tryz.func59 (by kernel_rfl) rfl) (args := #[(.string ⟨#[48, 48, 49]⟩)]) (by simp [Act.eval]) ?_
      obtain ⟨O1, O2, r1, r2, TT, BB⟩ := id hS
      apply Calls.mono
      (with_reducible apply sof_w); decide
      rintro e w2 ⟨A, n, c, rfl, hc, hn, hv, hb⟩
      exact ⟨_, rfl, hK _ w2 nofun (keep_below hb hS) ⟨A, n, c, rfl, hc, hn, hv.rd⟩⟩
    · as_aux_lemma =>
      intro a w' hS hO hF' hP K hK
      obtain ⟨_, f0, Ay0, ny0, cy0, rfl, hc0, hn0, hr0⟩ := (hF' 170 rfl).1 317 _ rfl rfl
      obtain ⟨_, f1, Ay1, ny1, cy1, rfl, hc1, hn1, hr1⟩ := (hF' 171 rfl).1 318 _ rfl rfl
      refine if_ok (by rfl) ?_
      refine wp_calls rfl (enters_of Tryz.func76 (by kernel_rfl) rfl) (args := #[(.agg #[.slice Ay0 ny0 cy0, .bool (⟨ofL ⟨#[49, 49]⟩, true⟩ : V).s]), (.agg #[.slice Ay1 ny1 cy1, .bool (⟨ofL ⟨#[48, 48, 49]⟩, true⟩ : V).s])]) (by simp [Act.eval, f0, f1]) ?_
      obtain ⟨O1, O2, r1, r2, TT, BB⟩ := id hS
      apply Calls.mono
      (with_reducible apply vLt_any_w); (repeat (first | assumption | (with_reducible (apply Nb.rd; assumption)) | (with_reducible (apply Rb.at_later; assumption)) | (with_reducible (apply Tabs.at_later; assumption)) | (with_reducible apply Rb.alloc) | (with_reducible apply Tabs.alloc) | (with_reducible apply Rb.drew) | (with_reducible apply Tabs.drew) | (show I64 _; unfold I64; omega) | omega))
      rintro e w2 ⟨A, n, c, rfl, hc, hn, hv, hb⟩
      exact ⟨_, rfl, hK _ w2 nofun (keep_below hb hS) ⟨A, n, c, rfl, hc, hn, hv.rd⟩⟩
    · as_aux_lemma =>
      intro a w' hS hO hF' hP K hK
      refine if_ok (by rfl) ?_
      refine wp_calls rfl (enters_of Tryz.func54 (by kernel_rfl) rfl) (args := #[(.string ⟨#[49]⟩)]) (by simp [Act.eval]) ?_
      obtain ⟨O1, O2, r1, r2, TT, BB⟩ := id hS
      apply Calls.mono
      (with_reducible apply of_w); decide
      rintro e w2 ⟨A, n, c, rfl, hc, hn, hv, hb⟩
      exact ⟨_, rfl, hK _ w2 nofun (keep_below hb hS) ⟨A, n, c, rfl, hc, hn, hv.rd⟩⟩
    · as_aux_lemma =>
      intro a w' hS hO hF' hP K hK
      obtain ⟨_, f0, Ay0, ny0, cy0, rfl, hc0, hn0, hr0⟩ := (hF' 172 rfl).1 319 _ rfl rfl
      obtain ⟨_, f1, Ay1, ny1, cy1, rfl, hc1, hn1, hr1⟩ := (hF' 173 rfl).1 320 _ rfl rfl
      refine if_ok (by rfl) ?_
      refine wp_bldR _ _ rfl (ev f0) (ev f1) ?_
      exact hK _ w' nofun (keep_same hS) ⟨Ay0, ny0, cy0, Ay1, ny1, cy1, rfl, ⟨hc0, hn0, hr0⟩, hc1, hn1, hr1⟩
    · as_aux_lemma =>
      intro a w' hS hO hF' hP K hK
      refine if_ok (by rfl) ?_
      refine wp_calls rfl (enters_of Tryz.func54 (by kernel_rfl) rfl) (args := #[(.string ⟨#[49, 49]⟩)]) (by simp [Act.eval]) ?_
      obtain ⟨O1, O2, r1, r2, TT, BB⟩ := id hS
      apply Calls.mono
      (with_reducible apply of_w); decide
      rintro e w2 ⟨A, n, c, rfl, hc, hn, hv, hb⟩
      exact ⟨_, rfl, hK _ w2 nofun (keep_below hb hS) ⟨A, n, c, rfl, hc, hn, hv.rd⟩⟩
    · as_aux_lemma =>
      intro a w' hS hO hF' hP K hK
      refine if_ok (by rfl) ?_
      refine wp_calls rfl (enters_of Tryz.func59 (by kernel_rfl) rfl) (args := #[(.string ⟨#[48, 48, 49]⟩)]) (by simp [Act.eval]) ?_
      obtain ⟨O1, O2, r1, r2, TT, BB⟩ := id hS
      apply Calls.mono
      (with_reducible apply sof_w); decide
      rintro e w2 ⟨A, n, c, rfl, hc, hn, hv, hb⟩
      exact ⟨_, rfl, hK _ w2 nofun (keep_below hb hS) ⟨A, n, c, rfl, hc, hn, hv.rd⟩⟩
    · as_aux_lemma =>
      intro a w' hS hO hF' hP K hK
      obtain ⟨_, f0, Ay0, ny0, cy0, rfl, hc0, hn0, hr0⟩ := (hF' 175 rfl).1 322 _ rfl rfl
      obtain ⟨_, f1, Ay1, ny1, cy1, rfl, hc1, hn1, hr1⟩ := (hF' 176 rfl).1 323 _ rfl rfl
      refine if_ok (by rfl) ?_
      refine wp_calls rfl (enters_of Tryz.func76 (by kernel_rfl) rfl) (args := #[(.agg #[.slice Ay0 ny0 cy0, .bool (⟨ofL ⟨#[49, 49]⟩, false⟩ : V).s]), (.agg #[.slice Ay1 ny1 cy1, .bool (⟨ofL ⟨#[48, 48, 49]⟩, true⟩ : V).s])]) (by simp [Act.eval, f0, f1]) ?_
      obtain ⟨O1, O2, r1, r2, TT, BB⟩ := id hS
      apply Calls.mono
      (with_reducible apply vLt_any_w); (repeat (first | assumption | (with_reducible (apply Nb.rd; assumption)) | (with_reducible (apply Rb.at_later; assumption)) | (with_reducible (apply Tabs.at_later; assumption)) | (with_reducible apply Rb.alloc) | (with_reducible apply Tabs.alloc) | (with_reducible apply Rb.drew) | (with_reducible apply Tabs.drew) | (show I64 _; unfold I64; omega) | omega))
      rintro e w2 ⟨A, n, c, rfl, hc, hn, hv, hb⟩
      exact ⟨_, rfl, hK _ w2 nofun (keep_below hb hS) ⟨A, n, c, rfl, hc, hn, hv.rd⟩⟩
    · as_aux_lemma =>
      intro a w' hS hO hF' hP K hK
      refine if_ok (by rfl) ?_
      refine wp_calls rfl (enters_of Tryz.func54 (by kernel_rfl) rfl) (args := #[(.string ⟨#[48]⟩)]) (by simp [Act.eval]) ?_
      obtain ⟨O1, O2, r1, r2, TT, BB⟩ := id hS
      apply Calls.mono
      (with_reducible apply of_w); decide
      rintro e w2 ⟨A, n, c, rfl, hc, hn, hv, hb⟩
      exact ⟨_, rfl, hK _ w2 nofun (keep_below hb hS) ⟨A, n, c, rfl, hc, hn, hv.rd⟩⟩
    · as_aux_lemma =>
      intro a w' hS hO hF' hP K hK
      obtain ⟨_, f0, Ay0, ny0, cy0, rfl, hc0, hn0, hr0⟩ := (hF' 177 rfl).1 324 _ rfl rfl
      obtain ⟨_, f1, Ay1, ny1, cy1, rfl, hc1, hn1, hr1⟩ := (hF' 178 rfl).1 325 _ rfl rfl
      refine if_ok (by rfl) ?_
      refine wp_bldR _ _ rfl (ev f0) (ev f1) ?_
      exact hK _ w' nofun (keep_same hS) ⟨Ay0, ny0, cy0, Ay1, ny1, cy1, rfl, ⟨hc0, hn0, hr0⟩, hc1, hn1, hr1⟩
    · as_aux_lemma =>
      intro a w' hS hO hF' hP K hK
      refine if_ok (by rfl) ?_
      refine wp_calls rfl (enters_of Tryz.func54 (by kernel_rfl) rfl) (args := #[(.string ⟨#[49, 120]⟩)]) (by simp [Act.eval]) ?_
      obtain ⟨O1, O2, r1, r2, TT, BB⟩ := id hS
      apply Calls.mono
      (with_reducible apply of_w); decide
      rintro e w2 ⟨A, n, c, rfl, hc, hn, hv, hb⟩
      exact ⟨_, rfl, hK _ w2 nofun (keep_below hb hS) ⟨A, n, c, rfl, hc, hn, hv.rd⟩⟩
    · as_aux_lemma =>
      intro a w' hS hO hF' hP K hK
      refine if_ok (by rfl) ?_
      refine wp_calls rfl (enters_of Tryz.func54 (by kernel_rfl) rfl) (args := #[(.string ⟨#[48, 48]⟩)]) (by simp [Act.eval]) ?_
      obtain ⟨O1, O2, r1, r2, TT, BB⟩ := id hS
      apply Calls.mono
      (with_reducible apply of_w); decide
      rintro e w2 ⟨A, n, c, rfl, hc, hn, hv, hb⟩
      exact ⟨_, rfl, hK _ w2 nofun (keep_below hb hS) ⟨A, n, c, rfl, hc, hn, hv.rd⟩⟩
    · as_aux_lemma =>
      intro a w' hS hO hF' hP K hK
      obtain ⟨_, f0, Ay0, ny0, cy0, rfl, hc0, hn0, hr0⟩ := (hF' 180 rfl).1 327 _ rfl rfl
      obtain ⟨_, f1, Ay1, ny1, cy1, rfl, hc1, hn1, hr1⟩ := (hF' 181 rfl).1 328 _ rfl rfl
      refine if_ok (by rfl) ?_
      refine wp_calls rfl (enters_of Tryz.func77 (by kernel_rfl) rfl) (args := #[(.agg #[.slice Ay0 ny0 cy0, .bool (⟨ofL ⟨#[49, 120]⟩, false⟩ : V).s]), (.agg #[.slice Ay1 ny1 cy1, .bool (⟨ofL ⟨#[48, 48]⟩, false⟩ : V).s])]) (by simp [Act.eval, f0, f1]) ?_
      obtain ⟨O1, O2, r1, r2, TT, BB⟩ := id hS
      apply Calls.mono
      (with_reducible apply vGe_any_w); (repeat (first | assumption | (with_reducible (apply Nb.rd; assumption)) | (with_reducible (apply Rb.at_later; assumption)) | (with_reducible (apply Tabs.at_later; assumption)) | (with_reducible apply Rb.alloc) | (with_reducible apply Tabs.alloc) | (with_reducible apply Rb.drew) | (with_reducible apply Tabs.drew) | (show I64 _; unfold I64; omega) | omega))
      rintro e w2 ⟨A, n, c, rfl, hc, hn, hv, hb⟩
      exact ⟨_, rfl, hK _ w2 nofun (keep_below hb hS) ⟨A, n, c, rfl, hc, hn, hv.rd⟩⟩
    · as_aux_lemma =>
      intro a w' hS hO hF' hP K hK
      refine if_ok (by rfl) ?_
      refine wp_calls rfl (enters_of Tryz.func54 (by kernel_rfl) rfl) (args := #[(.string ⟨#[120]⟩)]) (by simp [Act.eval]) ?_
      obtain ⟨O1, O2, r1, r2, TT, BB⟩ := id hS
      apply Calls.mono
      (with_reducible apply of_w); decide
      rintro e w2 ⟨A, n, c, rfl, hc, hn, hv, hb⟩
      exact ⟨_, rfl, hK _ w2 nofun (keep_below hb hS) ⟨A, n, c, rfl, hc, hn, hv.rd⟩⟩
    · as_aux_lemma =>
      intro a w' hS hO hF' hP K hK
      obtain ⟨_, f0, Ay0, ny0, cy0, rfl, hc0, hn0, hr0⟩ := (hF' 182 rfl).1 329 _ rfl rfl
      obtain ⟨_, f1, Ay1, ny1, cy1, rfl, hc1, hn1, hr1⟩ := (hF' 183 rfl).1 330 _ rfl rfl
      refine if_ok (by rfl) ?_
      refine wp_bldR _ _ rfl (ev f0) (ev f1) ?_
      exact hK _ w' nofun (keep_same hS) ⟨Ay0, ny0, cy0, Ay1, ny1, cy1, rfl, ⟨hc0, hn0, hr0⟩, hc1, hn1, hr1⟩
    · as_aux_lemma =>
      intro a w' hS hO hF' hP K hK
      refine if_ok (by rfl) ?_
      refine wp_calls rfl (enters_of Tryz.func54 (by kernel_rfl) rfl) (args := #[(.string ⟨#[48, 49]⟩)]) (by simp [Act.eval]) ?_
      obtain ⟨O1, O2, r1, r2, TT, BB⟩ := id hS
      apply Calls.mono
      (with_reducible apply of_w); decide
      rintro e w2 ⟨A, n, c, rfl, hc, hn, hv, hb⟩
      exact ⟨_, rfl, hK _ w2 nofun (keep_below hb hS) ⟨A, n, c, rfl, hc, hn, hv.rd⟩⟩
    · as_aux_lemma =>
      intro a w' hS hO hF' hP K hK
      refine if_ok (by rfl) ?_
      refine wp_calls rfl (enters_of Tryz.func54 (by kernel_rfl) rfl) (args := #[(.string ⟨#[49]⟩)]) (by simp [Act.eval]) ?_
      obtain ⟨O1, O2, r1, r2, TT, BB⟩ := id hS
      apply Calls.mono
      (with_reducible apply of_w); decide
      rintro e w2 ⟨A, n, c, rfl, hc, hn, hv, hb⟩
      exact ⟨_, rfl, hK _ w2 nofun (keep_below hb hS) ⟨A, n, c, rfl, hc, hn, hv.rd⟩⟩
    · as_aux_lemma =>
      intro a w' hS hO hF' hP K hK
      obtain ⟨_, f0, Ay0, ny0, cy0, rfl, hc0, hn0, hr0⟩ := (hF' 185 rfl).1 332 _ rfl rfl
      obtain ⟨_, f1, Ay1, ny1, cy1, rfl, hc1, hn1, hr1⟩ := (hF' 186 rfl).1 333 _ rfl rfl
      refine if_ok (by rfl) ?_
      refine wp_calls rfl (enters_of Tryz.func78 (by kernel_rfl) rfl) (args := #[(.agg #[.slice Ay0 ny0 cy0, .bool (⟨ofL ⟨#[48, 49]⟩, false⟩ : V).s]), (.agg #[.slice Ay1 ny1 cy1, .bool (⟨ofL ⟨#[49]⟩, false⟩ : V).s])]) (by simp [Act.eval, f0, f1]) ?_
      obtain ⟨O1, O2, r1, r2, TT, BB⟩ := id hS
      apply Calls.mono
      (with_reducible apply vLe_any_w); (repeat (first | assumption | (with_reducible (apply Nb.rd; assumption)) | (with_reducible (apply Rb.at_later; assumption)) | (with_reducible (apply Tabs.at_later; assumption)) | (with_reducible apply Rb.alloc) | (with_reducible apply Tabs.alloc) | (with_reducible apply Rb.drew) | (with_reducible apply Tabs.drew) | (show I64 _; unfold I64; omega) | omega))
      rintro e w2 ⟨A, n, c, rfl, hc, hn, hv, hb⟩
      exact ⟨_, rfl, hK _ w2 nofun (keep_below hb hS) ⟨A, n, c, rfl, hc, hn, hv.rd⟩⟩
    · as_aux_lemma =>
      intro a w' hS hO hF' hP K hK
      refine if_ok (by rfl) ?_
      refine wp_calls rfl (enters_of Tryz.func54 (by kernel_rfl) rfl) (args := #[(.string ⟨#[49]⟩)]) (by simp [Act.eval]) ?_
      obtain ⟨O1, O2, r1, r2, TT, BB⟩ := id hS
      apply Calls.mono
      (with_reducible apply of_w); decide
      rintro e w2 ⟨A, n, c, rfl, hc, hn, hv, hb⟩
      exact ⟨_, rfl, hK _ w2 nofun (keep_below hb hS) ⟨A, n, c, rfl, hc, hn, hv.rd⟩⟩
    · as_aux_lemma =>
      intro a w' hS hO hF' hP K hK
      obtain ⟨_, f0, Ay0, ny0, cy0, rfl, hc0, hn0, hr0⟩ := (hF' 187 rfl).1 334 _ rfl rfl
      obtain ⟨_, f1, Ay1, ny1, cy1, rfl, hc1, hn1, hr1⟩ := (hF' 188 rfl).1 335 _ rfl rfl
      refine if_ok (by rfl) ?_
      refine wp_bldR _ _ rfl (ev f0) (ev f1) ?_
      exact hK _ w' nofun (keep_same hS) ⟨Ay0, ny0, cy0, Ay1, ny1, cy1, rfl, ⟨hc0, hn0, hr0⟩, hc1, hn1, hr1⟩
    · as_aux_lemma =>
      intro a w' hS hO hF' hP K hK
      refine if_ok (by rfl) ?_
      refine wp_calls rfl (enters_of Tryz.func59 (by kernel_rfl) rfl) (args := #[(.string ⟨#[48]⟩)]) (by simp [Act.eval]) ?_
      obtain ⟨O1, O2, r1, r2, TT, BB⟩ := id hS
      apply Calls.mono
      (with_reducible apply sof_w); decide
      rintro e w2 ⟨A, n, c, rfl, hc, hn, hv, hb⟩
      exact ⟨_, rfl, hK _ w2 nofun (keep_below hb hS) ⟨A, n, c, rfl, hc, hn, hv.rd⟩⟩
    · as_aux_lemma =>
      intro a w' hS hO hF' hP K hK
      refine if_ok (by rfl) ?_
      refine wp_calls rfl (enters_of Tryz.func59 (by kernel_rfl) rfl) (args := #[(.string ⟨#[49]⟩)]) (by simp [Act.eval]) ?_
      obtain ⟨O1, O2, r1, r2, TT, BB⟩ := id hS
      apply Calls.mono
      (with_reducible apply sof_w); decide
      rintro e w2 ⟨A, n, c, rfl, hc, hn, hv, hb⟩
      exact ⟨_, rfl, hK _ w2 nofun (keep_below hb hS) ⟨A, n, c, rfl, hc, hn, hv.rd⟩⟩
    · as_aux_lemma =>
      intro a w' hS hO hF' hP K hK
      obtain ⟨_, f0, Ay0, ny0, cy0, rfl, hc0, hn0, hr0⟩ := (hF' 190 rfl).1 337 _ rfl rfl
      obtain ⟨_, f1, Ay1, ny1, cy1, rfl, hc1, hn1, hr1⟩ := (hF' 191 rfl).1 338 _ rfl rfl
      refine if_ok (by rfl) ?_
      refine wp_calls rfl (enters_of Tryz.func79 (by kernel_rfl) rfl) (args := #[(.agg #[.slice Ay0 ny0 cy0, .bool (⟨ofL ⟨#[48]⟩, true⟩ : V).s]), (.agg #[.slice Ay1 ny1 cy1, .bool (⟨ofL ⟨#[49]⟩, true⟩ : V).s])]) (by simp [Act.eval, f0, f1]) ?_
      obtain ⟨O1, O2, r1, r2, TT, BB⟩ := id hS
      apply Calls.mono
      (with_reducible apply vGt_any_w); (repeat (first | assumption | (with_reducible (apply Nb.rd; assumption)) | (with_reducible (apply Rb.at_later; assumption)) | (with_reducible (apply Tabs.at_later; assumption)) | (with_reducible apply Rb.alloc) | (with_reducible apply Tabs.alloc) | (with_reducible apply Rb.drew) | (with_reducible apply Tabs.drew) | (show I64 _; unfold I64; omega) | omega))
      rintro e w2 ⟨A, n, c, rfl, hc, hn, hv, hb⟩
      exact ⟨_, rfl, hK _ w2 nofun (keep_below hb hS) ⟨A, n, c, rfl, hc, hn, hv.rd⟩⟩
    · as_aux_lemma =>
      intro a w' hS hO hF' hP K hK
      refine if_ok (by rfl) ?_
      refine wp_calls rfl (enters_of Tryz.func54 (by kernel_rfl) rfl) (args := #[(.string ⟨#[49]⟩)]) (by simp [Act.eval]) ?_
      obtain ⟨O1, O2, r1, r2, TT, BB⟩ := id hS
      apply Calls.mono
      (with_reducible apply of_w); decide
      rintro e w2 ⟨A, n, c, rfl, hc, hn, hv, hb⟩
      exact ⟨_, rfl, hK _ w2 nofun (keep_below hb hS) ⟨A, n, c, rfl, hc, hn, hv.rd⟩⟩
    · as_aux_lemma =>
      intro a w' hS hO hF' hP K hK
      obtain ⟨_, f0, Ay0, ny0, cy0, rfl, hc0, hn0, hr0⟩ := (hF' 192 rfl).1 339 _ rfl rfl
      obtain ⟨_, f1, Ay1, ny1, cy1, rfl, hc1, hn1, hr1⟩ := (hF' 193 rfl).1 340 _ rfl rfl
      refine if_ok (by rfl) ?_
      refine wp_bldR _ _ rfl (ev f0) (ev f1) ?_
      exact hK _ w' nofun (keep_same hS) ⟨Ay0, ny0, cy0, Ay1, ny1, cy1, rfl, ⟨hc0, hn0, hr0⟩, hc1, hn1, hr1⟩
    · as_aux_lemma =>
      intro a w' hS hO hF' hP K hK
      refine if_ok (by rfl) ?_
      refine wp_calls rfl (enters_of Tryz.func54 (by kernel_rfl) rfl) (args := #[(.string ⟨#[49, 120]⟩)]) (by simp [Act.eval]) ?_
      obtain ⟨O1, O2, r1, r2, TT, BB⟩ := id hS
      apply Calls.mono
      (with_reducible apply of_w); decide
      rintro e w2 ⟨A, n, c, rfl, hc, hn, hv, hb⟩
      exact ⟨_, rfl, hK _ w2 nofun (keep_below hb hS) ⟨A, n, c, rfl, hc, hn, hv.rd⟩⟩
    · as_aux_lemma =>
      intro a w' hS hO hF' hP K hK
      refine if_ok (by rfl) ?_
      refine wp_calls rfl (enters_of Tryz.func54 (by kernel_rfl) rfl) (args := #[(.string ⟨#[48, 120]⟩)]) (by simp [Act.eval]) ?_
      obtain ⟨O1, O2, r1, r2, TT, BB⟩ := id hS
      apply Calls.mono
      (with_reducible apply of_w); decide
      rintro e w2 ⟨A, n, c, rfl, hc, hn, hv, hb⟩
      exact ⟨_, rfl, hK _ w2 nofun (keep_below hb hS) ⟨A, n, c, rfl, hc, hn, hv.rd⟩⟩
    · as_aux_lemma =>
      intro a w' hS hO hF' hP K hK
      obtain ⟨_, f0, Ay0, ny0, cy0, rfl, hc0, hn0, hr0⟩ := (hF' 195 rfl).1 342 _ rfl rfl
      obtain ⟨_, f1, Ay1, ny1, cy1, rfl, hc1, hn1, hr1⟩ := (hF' 196 rfl).1 343 _ rfl rfl
      refine if_ok (by rfl) ?_
      refine wp_calls rfl (enters_of Tryz.func80 (by kernel_rfl) rfl) (args := #[(.agg #[.slice Ay0 ny0 cy0, .bool (⟨ofL ⟨#[49, 120]⟩, false⟩ : V).s]), (.agg #[.slice Ay1 ny1 cy1, .bool (⟨ofL ⟨#[48, 120]⟩, false⟩ : V).s])]) (by simp [Act.eval, f0, f1]) ?_
      obtain ⟨O1, O2, r1, r2, TT, BB⟩ := id hS
      apply Calls.mono
      (with_reducible apply ne_v_w); (repeat (first | assumption | (with_reducible (apply Nb.rd; assumption)) | (with_reducible (apply Rb.at_later; assumption)) | (with_reducible (apply Tabs.at_later; assumption)) | (with_reducible apply Rb.alloc) | (with_reducible apply Tabs.alloc) | (with_reducible apply Rb.drew) | (with_reducible apply Tabs.drew) | (show I64 _; unfold I64; omega) | omega))
      rintro e w2 ⟨A, n, c, rfl, hc, hn, hv, hb⟩
      exact ⟨_, rfl, hK _ w2 nofun (keep_below hb hS) ⟨A, n, c, rfl, hc, hn, hv.rd⟩⟩
    · as_aux_lemma =>
      intro a w' hS hO hF' hP K hK
      refine if_ok (by rfl) ?_
      refine wp_calls rfl (enters_of Tryz.func54 (by kernel_rfl) rfl) (args := #[(.string ⟨#[49]⟩)]) (by simp [Act.eval]) ?_
      obtain ⟨O1, O2, r1, r2, TT, BB⟩ := id hS
      apply Calls.mono
      (with_reducible apply of_w); decide
      rintro e w2 ⟨A, n, c, rfl, hc, hn, hv, hb⟩
      exact ⟨_, rfl, hK _ w2 nofun (keep_below hb hS) ⟨A, n, c, rfl, hc, hn, hv.rd⟩⟩
    · as_aux_lemma =>
      intro a w' hS hO hF' hP K hK
      obtain ⟨_, f0, Ay0, ny0, cy0, rfl, hc0, hn0, hr0⟩ := (hF' 197 rfl).1 344 _ rfl rfl
      obtain ⟨_, f1, Ay1, ny1, cy1, rfl, hc1, hn1, hr1⟩ := (hF' 198 rfl).1 345 _ rfl rfl
      refine if_ok (by rfl) ?_
      refine wp_bldR _ _ rfl (ev f0) (ev f1) ?_
      exact hK _ w' nofun (keep_same hS) ⟨Ay0, ny0, cy0, Ay1, ny1, cy1, rfl, ⟨hc0, hn0, hr0⟩, hc1, hn1, hr1⟩
    · as_aux_lemma =>
      intro a w' hS hO hF' hP K hK
      refine if_ok (by rfl) ?_
      refine wp_calls rfl (enters_of Tryz.func54 (by kernel_rfl) rfl) (args := #[(.string ⟨#[120]⟩)]) (by simp [Act.eval]) ?_
      obtain ⟨O1, O2, r1, r2, TT, BB⟩ := id hS
      apply Calls.mono
      (with_reducible apply of_w); decide
      rintro e w2 ⟨A, n, c, rfl, hc, hn, hv, hb⟩
      exact ⟨_, rfl, hK _ w2 nofun (keep_below hb hS) ⟨A, n, c, rfl, hc, hn, hv.rd⟩⟩
    · as_aux_lemma =>
      intro a w' hS hO hF' hP K hK
      refine if_ok (by rfl) ?_
      refine wp_calls rfl (enters_of Tryz.func54 (by kernel_rfl) rfl) (args := #[(.string ⟨#[122]⟩)]) (by simp [Act.eval]) ?_
      obtain ⟨O1, O2, r1, r2, TT, BB⟩ := id hS
      apply Calls.mono
      (with_reducible apply of_w); decide
      rintro e w2 ⟨A, n, c, rfl, hc, hn, hv, hb⟩
      exact ⟨_, rfl, hK _ w2 nofun (keep_below hb hS) ⟨A, n, c, rfl, hc, hn, hv.rd⟩⟩
    · as_aux_lemma =>
      intro a w' hS hO hF' hP K hK
      obtain ⟨_, f0, Ay0, ny0, cy0, rfl, hc0, hn0, hr0⟩ := (hF' 200 rfl).1 347 _ rfl rfl
      obtain ⟨_, f1, Ay1, ny1, cy1, rfl, hc1, hn1, hr1⟩ := (hF' 201 rfl).1 348 _ rfl rfl
      refine if_ok (by rfl) ?_
      refine wp_calls rfl (enters_of Tryz.func81 (by kernel_rfl) rfl) (args := #[(.agg #[.slice Ay0 ny0 cy0, .bool (⟨ofL ⟨#[120]⟩, false⟩ : V).s]), (.agg #[.slice Ay1 ny1 cy1, .bool (⟨ofL ⟨#[122]⟩, false⟩ : V).s])]) (by simp [Act.eval, f0, f1]) ?_
      obtain ⟨O1, O2, r1, r2, TT, BB⟩ := id hS
      apply Calls.mono
      (with_reducible apply caseEq_any_w); (repeat (first | assumption | (with_reducible (apply Nb.rd; assumption)) | (with_reducible (apply Rb.at_later; assumption)) | (with_reducible (apply Tabs.at_later; assumption)) | (with_reducible apply Rb.alloc) | (with_reducible apply Tabs.alloc) | (with_reducible apply Rb.drew) | (with_reducible apply Tabs.drew) | (show I64 _; unfold I64; omega) | omega))
      rintro e w2 ⟨A, n, c, rfl, hc, hn, hv, hb⟩
      exact ⟨_, rfl, hK _ w2 nofun (keep_below hb hS) ⟨A, n, c, rfl, hc, hn, hv.rd⟩⟩
    · as_aux_lemma =>
      intro a w' hS hO hF' hP K hK
      refine if_ok (by rfl) ?_
      refine wp_calls rfl (enters_of Tryz.func54 (by kernel_rfl) rfl) (args := #[(.string ⟨#[48]⟩)]) (by simp [Act.eval]) ?_
      obtain ⟨O1, O2, r1, r2, TT, BB⟩ := id hS
      apply Calls.mono
      (with_reducible apply of_w); decide
      rintro e w2 ⟨A, n, c, rfl, hc, hn, hv, hb⟩
      exact ⟨_, rfl, hK _ w2 nofun (keep_below hb hS) ⟨A, n, c, rfl, hc, hn, hv.rd⟩⟩
    · as_aux_lemma =>
      intro a w' hS hO hF' hP K hK
      obtain ⟨_, f0, Ay0, ny0, cy0, rfl, hc0, hn0, hr0⟩ := (hF' 202 rfl).1 349 _ rfl rfl
      obtain ⟨_, f1, Ay1, ny1, cy1, rfl, hc1, hn1, hr1⟩ := (hF' 203 rfl).1 350 _ rfl rfl
      refine if_ok (by rfl) ?_
      refine wp_bldR _ _ rfl (ev f0) (ev f1) ?_
      exact hK _ w' nofun (keep_same hS) ⟨Ay0, ny0, cy0, Ay1, ny1, cy1, rfl, ⟨hc0, hn0, hr0⟩, hc1, hn1, hr1⟩
    · as_aux_lemma =>
      intro a w' hS hO hF' hP K hK
      refine if_ok (by rfl) ?_
      refine wp_calls rfl (enters_of Tryz.func59 (by kernel_rfl) rfl) (args := #[(.string ⟨#[122]⟩)]) (by simp [Act.eval]) ?_
      obtain ⟨O1, O2, r1, r2, TT, BB⟩ := id hS
      apply Calls.mono
      (with_reducible apply sof_w); decide
      rintro e w2 ⟨A, n, c, rfl, hc, hn, hv, hb⟩
      exact ⟨_, rfl, hK _ w2 nofun (keep_below hb hS) ⟨A, n, c, rfl, hc, hn, hv.rd⟩⟩
    · as_aux_lemma =>
      intro a w' hS hO hF' hP K hK
      refine if_ok (by rfl) ?_
      refine wp_calls rfl (enters_of Tryz.func59 (by kernel_rfl) rfl) (args := #[(.string ⟨#[122, 122]⟩)]) (by simp [Act.eval]) ?_
      obtain ⟨O1, O2, r1, r2, TT, BB⟩ := id hS
      apply Calls.mono
      (with_reducible apply sof_w); decide
      rintro e w2 ⟨A, n, c, rfl, hc, hn, hv, hb⟩
      exact ⟨_, rfl, hK _ w2 nofun (keep_below hb hS) ⟨A, n, c, rfl, hc, hn, hv.rd⟩⟩
    · as_aux_lemma =>
      intro a w' hS hO hF' hP K hK
      obtain ⟨_, f0, Ay0, ny0, cy0, rfl, hc0, hn0, hr0⟩ := (hF' 205 rfl).1 352 _ rfl rfl
      obtain ⟨_, f1, Ay1, ny1, cy1, rfl, hc1, hn1, hr1⟩ := (hF' 206 rfl).1 353 _ rfl rfl
      refine if_ok (by rfl) ?_
      refine wp_calls rfl (enters_of Tryz.func82 (by kernel_rfl) rfl) (args := #[(.agg #[.slice Ay0 ny0 cy0, .bool (⟨ofL ⟨#[122]⟩, true⟩ : V).s]), (.agg #[.slice Ay1 ny1 cy1, .bool (⟨ofL ⟨#[122, 122]⟩, true⟩ : V).s])]) (by simp [Act.eval, f0, f1]) ?_
      obtain ⟨O1, O2, r1, r2, TT, BB⟩ := id hS
      apply Calls.mono
      (with_reducible apply caseNe_any_w); (repeat (first | assumption | (with_reducible (apply Nb.rd; assumption)) | (with_reducible (apply Rb.at_later; assumption)) | (with_reducible (apply Tabs.at_later; assumption)) | (with_reducible apply Rb.alloc) | (with_reducible apply Tabs.alloc) | (with_reducible apply Rb.drew) | (with_reducible apply Tabs.drew) | (show I64 _; unfold I64; omega) | omega))
      rintro e w2 ⟨A, n, c, rfl, hc, hn, hv, hb⟩
      exact ⟨_, rfl, hK _ w2 nofun (keep_below hb hS) ⟨A, n, c, rfl, hc, hn, hv.rd⟩⟩
    · as_aux_lemma =>
      intro a w' hS hO hF' hP K hK
      refine if_ok (by rfl) ?_
      refine wp_calls rfl (enters_of Tryz.func54 (by kernel_rfl) rfl) (args := #[(.string ⟨#[48]⟩)]) (by simp [Act.eval]) ?_
      obtain ⟨O1, O2, r1, r2, TT, BB⟩ := id hS
      apply Calls.mono
      (with_reducible apply of_w); decide
      rintro e w2 ⟨A, n, c, rfl, hc, hn, hv, hb⟩
      exact ⟨_, rfl, hK _ w2 nofun (keep_below hb hS) ⟨A, n, c, rfl, hc, hn, hv.rd⟩⟩
    · as_aux_lemma =>
      intro a w' hS hO hF' hP K hK
      obtain ⟨_, f0, Ay0, ny0, cy0, rfl, hc0, hn0, hr0⟩ := (hF' 207 rfl).1 354 _ rfl rfl
      obtain ⟨_, f1, Ay1, ny1, cy1, rfl, hc1, hn1, hr1⟩ := (hF' 208 rfl).1 355 _ rfl rfl
      refine if_ok (by rfl) ?_
      refine wp_bldR _ _ rfl (ev f0) (ev f1) ?_
      exact hK _ w' nofun (keep_same hS) ⟨Ay0, ny0, cy0, Ay1, ny1, cy1, rfl, ⟨hc0, hn0, hr0⟩, hc1, hn1, hr1⟩
    · as_aux_lemma =>
      intro a w' hS hO hF' hP K hK
      refine if_ok (by rfl) ?_
      refine wp_calls rfl (enters_of Tryz.func54 (by kernel_rfl) rfl) (args := #[(.string ⟨#[122]⟩)]) (by simp [Act.eval]) ?_
      obtain ⟨O1, O2, r1, r2, TT, BB⟩ := id hS
      apply Calls.mono
      (with_reducible apply of_w); decide
      rintro e w2 ⟨A, n, c, rfl, hc, hn, hv, hb⟩
      exact ⟨_, rfl, hK _ w2 nofun (keep_below hb hS) ⟨A, n, c, rfl, hc, hn, hv.rd⟩⟩
    · as_aux_lemma =>
      intro a w' hS hO hF' hP K hK
      refine if_ok (by rfl) ?_
      refine wp_calls rfl (enters_of Tryz.func59 (by kernel_rfl) rfl) (args := #[(.string ⟨#[122, 122]⟩)]) (by simp [Act.eval]) ?_
      obtain ⟨O1, O2, r1, r2, TT, BB⟩ := id hS
      apply Calls.mono
      (with_reducible apply sof_w); decide
      rintro e w2 ⟨A, n, c, rfl, hc, hn, hv, hb⟩
      exact ⟨_, rfl, hK _ w2 nofun (keep_below hb hS) ⟨A, n, c, rfl, hc, hn, hv.rd⟩⟩
    · as_aux_lemma =>
      intro a w' hS hO hF' hP K hK
      obtain ⟨_, f0, Ay0, ny0, cy0, rfl, hc0, hn0, hr0⟩ := (hF' 210 rfl).1 357 _ rfl rfl
      obtain ⟨_, f1, Ay1, ny1, cy1, rfl, hc1, hn1, hr1⟩ := (hF' 211 rfl).1 358 _ rfl rfl
      refine if_ok (by rfl) ?_
      refine wp_calls rfl (enters_of Tryz.func81 (by kernel_rfl) rfl) (args := #[(.agg #[.slice Ay0 ny0 cy0, .bool (⟨ofL ⟨#[122]⟩, false⟩ : V).s]), (.agg #[.slice Ay1 ny1 cy1, .bool (⟨ofL ⟨#[122, 122]⟩, true⟩ : V).s])]) (by simp [Act.eval, f0, f1]) ?_
      obtain ⟨O1, O2, r1, r2, TT, BB⟩ := id hS
      apply Calls.mono
      (with_reducible apply caseEq_any_w); (repeat (first | assumption | (with_reducible (apply Nb.rd; assumption)) | (with_reducible (apply Rb.at_later; assumption)) | (with_reducible (apply Tabs.at_later; assumption)) | (with_reducible apply Rb.alloc) | (with_reducible apply Tabs.alloc) | (with_reducible apply Rb.drew) | (with_reducible apply Tabs.drew) | (show I64 _; unfold I64; omega) | omega))
      rintro e w2 ⟨A, n, c, rfl, hc, hn, hv, hb⟩
      exact ⟨_, rfl, hK _ w2 nofun (keep_below hb hS) ⟨A, n, c, rfl, hc, hn, hv.rd⟩⟩
    · as_aux_lemma =>
      intro a w' hS hO hF' hP K hK
      refine if_ok (by rfl) ?_
      refine wp_calls rfl (enters_of Tryz.func54 (by kernel_rfl) rfl) (args := #[(.string ⟨#[48]⟩)]) (by simp [Act.eval]) ?_
      obtain ⟨O1, O2, r1, r2, TT, BB⟩ := id hS
      apply Calls.mono
      (with_reducible apply of_w); decide
      rintro e w2 ⟨A, n, c, rfl, hc, hn, hv, hb⟩
      exact ⟨_, rfl, hK _ w2 nofun (keep_below hb hS) ⟨A, n, c, rfl, hc, hn, hv.rd⟩⟩
    · as_aux_lemma =>
      intro a w' hS hO hF' hP K hK
      obtain ⟨_, f0, Ay0, ny0, cy0, rfl, hc0, hn0, hr0⟩ := (hF' 212 rfl).1 359 _ rfl rfl
      obtain ⟨_, f1, Ay1, ny1, cy1, rfl, hc1, hn1, hr1⟩ := (hF' 213 rfl).1 360 _ rfl rfl
      refine if_ok (by rfl) ?_
      refine wp_bldR _ _ rfl (ev f0) (ev f1) ?_
      exact hK _ w' nofun (keep_same hS) ⟨Ay0, ny0, cy0, Ay1, ny1, cy1, rfl, ⟨hc0, hn0, hr0⟩, hc1, hn1, hr1⟩
    · as_aux_lemma =>
      intro a w' hS hO hF' hP K hK
      refine if_ok (by rfl) ?_
      refine wp_calls rfl (enters_of Tryz.func54 (by kernel_rfl) rfl) (args := #[(.string ⟨#[48, 120]⟩)]) (by simp [Act.eval]) ?_
      obtain ⟨O1, O2, r1, r2, TT, BB⟩ := id hS
      apply Calls.mono
      (with_reducible apply of_w); decide
      rintro e w2 ⟨A, n, c, rfl, hc, hn, hv, hb⟩
      exact ⟨_, rfl, hK _ w2 nofun (keep_below hb hS) ⟨A, n, c, rfl, hc, hn, hv.rd⟩⟩
    · as_aux_lemma =>
      intro a w' hS hO hF' hP K hK
      refine if_ok (by rfl) ?_
      refine wp_calls rfl (enters_of Tryz.func59 (by kernel_rfl) rfl) (args := #[(.string ⟨#[122, 49]⟩)]) (by simp [Act.eval]) ?_
      obtain ⟨O1, O2, r1, r2, TT, BB⟩ := id hS
      apply Calls.mono
      (with_reducible apply sof_w); decide
      rintro e w2 ⟨A, n, c, rfl, hc, hn, hv, hb⟩
      exact ⟨_, rfl, hK _ w2 nofun (keep_below hb hS) ⟨A, n, c, rfl, hc, hn, hv.rd⟩⟩
    · as_aux_lemma =>
      intro a w' hS hO hF' hP K hK
      refine if_ok (by rfl) ?_
      refine wp_calls rfl (enters_of Tryz.func59 (by kernel_rfl) rfl) (args := #[(.string ⟨#[48]⟩)]) (by simp [Act.eval]) ?_
      obtain ⟨O1, O2, r1, r2, TT, BB⟩ := id hS
      apply Calls.mono
      (with_reducible apply sof_w); decide
      rintro e w2 ⟨A, n, c, rfl, hc, hn, hv, hb⟩
      exact ⟨_, rfl, hK _ w2 nofun (keep_below hb hS) ⟨A, n, c, rfl, hc, hn, hv.rd⟩⟩
    · as_aux_lemma =>
      intro a w' hS hO hF' hP K hK
      obtain ⟨_, f0, Ay0, ny0, cy0, rfl, hc0, hn0, hr0⟩ := (hF' 215 rfl).1 362 _ rfl rfl
      obtain ⟨_, f1, Ay1, ny1, cy1, rfl, hc1, hn1, hr1⟩ := (hF' 216 rfl).1 363 _ rfl rfl
      obtain ⟨_, f2, Ay2, ny2, cy2, rfl, hc2, hn2, hr2⟩ := (hF' 217 rfl).1 364 _ rfl rfl
      refine if_ok (by rfl) ?_
      refine wp_calls rfl (enters_of Tryz.func51 (by kernel_rfl) rfl) (args := #[(.agg #[.slice Ay0 ny0 cy0, .bool (⟨ofL ⟨#[48, 120]⟩, false⟩ : V).s]), (.agg #[.slice Ay1 ny1 cy1, .bool (⟨ofL ⟨#[122, 49]⟩, true⟩ : V).s]), (.agg #[.slice Ay2 ny2 cy2, .bool (⟨ofL ⟨#[48]⟩, true⟩ : V).s])]) (by simp [Act.eval, f0, f1, f2]) ?_
      obtain ⟨O1, O2, r1, r2, TT, BB⟩ := id hS
      apply Calls.mono
      (with_reducible apply cond_any_w); (repeat (first | assumption | (with_reducible (apply Nb.rd; assumption)) | (with_reducible (apply Rb.at_later; assumption)) | (with_reducible (apply Tabs.at_later; assumption)) | (with_reducible apply Rb.alloc) | (with_reducible apply Tabs.alloc) | (with_reducible apply Rb.drew) | (with_reducible apply Tabs.drew) | (show I64 _; unfold I64; omega) | omega))
      rintro e w2 ⟨A, n, c, rfl, hc, hn, hv, hb⟩
      exact ⟨_, rfl, hK _ w2 nofun (keep_below hb hS) ⟨A, n, c, rfl, hc, hn, hv.rd⟩⟩
    · as_aux_lemma =>
      intro a w' hS hO hF' hP K hK
      refine if_ok (by rfl) ?_
      refine wp_calls rfl (enters_of Tryz.func59 (by kernel_rfl) rfl) (args := #[(.string ⟨#[120, 120]⟩)]) (by simp [Act.eval]) ?_
      obtain ⟨O1, O2, r1, r2, TT, BB⟩ := id hS
      apply Calls.mono
      (with_reducible apply sof_w); decide
      rintro e w2 ⟨A, n, c, rfl, hc, hn, hv, hb⟩
      exact ⟨_, rfl, hK _ w2 nofun (keep_below hb hS) ⟨A, n, c, rfl, hc, hn, hv.rd⟩⟩
    · as_aux_lemma =>
      intro a w' hS hO hF' hP K hK
      obtain ⟨_, f0, Ay0, ny0, cy0, rfl, hc0, hn0, hr0⟩ := (hF' 218 rfl).1 365 _ rfl rfl
      obtain ⟨_, f1, Ay1, ny1, cy1, rfl, hc1, hn1, hr1⟩ := (hF' 219 rfl).1 366 _ rfl rfl
      refine if_ok (by rfl) ?_
      refine wp_bldR _ _ rfl (ev f0) (ev f1) ?_
      exact hK _ w' nofun (keep_same hS) ⟨Ay0, ny0, cy0, Ay1, ny1, cy1, rfl, ⟨hc0, hn0, hr0⟩, hc1, hn1, hr1⟩
    · as_aux_lemma =>
      intro a w' hS hO hF' hP K hK
      refine if_ok (by rfl) ?_
      refine wp_calls rfl (enters_of Tryz.func54 (by kernel_rfl) rfl) (args := #[(.string ⟨#[49, 120]⟩)]) (by simp [Act.eval]) ?_
      obtain ⟨O1, O2, r1, r2, TT, BB⟩ := id hS
      apply Calls.mono
      (with_reducible apply of_w); decide
      rintro e w2 ⟨A, n, c, rfl, hc, hn, hv, hb⟩
      exact ⟨_, rfl, hK _ w2 nofun (keep_below hb hS) ⟨A, n, c, rfl, hc, hn, hv.rd⟩⟩
    · as_aux_lemma =>
      intro a w' hS hO hF' hP K hK
      refine if_ok (by rfl) ?_
      refine wp_calls rfl (enters_of Tryz.func54 (by kernel_rfl) rfl) (args := #[(.string ⟨#[122, 49]⟩)]) (by simp [Act.eval]) ?_
      obtain ⟨O1, O2, r1, r2, TT, BB⟩ := id hS
      apply Calls.mono
      (with_reducible apply of_w); decide
      rintro e w2 ⟨A, n, c, rfl, hc, hn, hv, hb⟩
      exact ⟨_, rfl, hK _ w2 nofun (keep_below hb hS) ⟨A, n, c, rfl, hc, hn, hv.rd⟩⟩
    · as_aux_lemma =>
      intro a w' hS hO hF' hP K hK
      refine if_ok (by rfl) ?_
      refine wp_calls rfl (enters_of Tryz.func54 (by kernel_rfl) rfl) (args := #[(.string ⟨#[48, 48, 48]⟩)]) (by simp [Act.eval]) ?_
      obtain ⟨O1, O2, r1, r2, TT, BB⟩ := id hS
      apply Calls.mono
      (with_reducible apply of_w); decide
      rintro e w2 ⟨A, n, c, rfl, hc, hn, hv, hb⟩
      exact ⟨_, rfl, hK _ w2 nofun (keep_below hb hS) ⟨A, n, c, rfl, hc, hn, hv.rd⟩⟩
    · as_aux_lemma =>
      intro a w' hS hO hF' hP K hK
      obtain ⟨_, f0, Ay0, ny0, cy0, rfl, hc0, hn0, hr0⟩ := (hF' 221 rfl).1 368 _ rfl rfl
      obtain ⟨_, f1, Ay1, ny1, cy1, rfl, hc1, hn1, hr1⟩ := (hF' 222 rfl).1 369 _ rfl rfl
      obtain ⟨_, f2, Ay2, ny2, cy2, rfl, hc2, hn2, hr2⟩ := (hF' 223 rfl).1 370 _ rfl rfl
      refine if_ok (by rfl) ?_
      refine wp_calls rfl (enters_of Tryz.func51 (by kernel_rfl) rfl) (args := #[(.agg #[.slice Ay0 ny0 cy0, .bool (⟨ofL ⟨#[49, 120]⟩, false⟩ : V).s]), (.agg #[.slice Ay1 ny1 cy1, .bool (⟨ofL ⟨#[122, 49]⟩, false⟩ : V).s]), (.agg #[.slice Ay2 ny2 cy2, .bool (⟨ofL ⟨#[48, 48, 48]⟩, false⟩ : V).s])]) (by simp [Act.eval, f0, f1, f2]) ?_
      obtain ⟨O1, O2, r1, r2, TT, BB⟩ := id hS
      apply Calls.mono
      (with_reducible apply cond_any_w); (repeat (first | assumption | (with_reducible (apply Nb.rd; assumption)) | (with_reducible (apply Rb.at_later; assumption)) | (with_reducible (apply Tabs.at_later; assumption)) | (with_reducible apply Rb.alloc) | (with_reducible apply Tabs.alloc) | (with_reducible apply Rb.drew) | (with_reducible apply Tabs.drew) | (show I64 _; unfold I64; omega) | omega))
      rintro e w2 ⟨A, n, c, rfl, hc, hn, hv, hb⟩
      exact ⟨_, rfl, hK _ w2 nofun (keep_below hb hS) ⟨A, n, c, rfl, hc, hn, hv.rd⟩⟩
    · as_aux_lemma =>
      intro a w' hS hO hF' hP K hK
      refine if_ok (by rfl) ?_
      refine wp_calls rfl (enters_of Tryz.func54 (by kernel_rfl) rfl) (args := #[(.string ⟨#[48, 122, 49]⟩)]) (by simp [Act.eval]) ?_
      obtain ⟨O1, O2, r1, r2, TT, BB⟩ := id hS
      apply Calls.mono
      (with_reducible apply of_w); decide
      rintro e w2 ⟨A, n, c, rfl, hc, hn, hv, hb⟩
      exact ⟨_, rfl, hK _ w2 nofun (keep_below hb hS) ⟨A, n, c, rfl, hc, hn, hv.rd⟩⟩
    · as_aux_lemma =>
      intro a w' hS hO hF' hP K hK
      obtain ⟨_, f0, Ay0, ny0, cy0, rfl, hc0, hn0, hr0⟩ := (hF' 224 rfl).1 371 _ rfl rfl
      obtain ⟨_, f1, Ay1, ny1, cy1, rfl, hc1, hn1, hr1⟩ := (hF' 225 rfl).1 372 _ rfl rfl
      refine if_ok (by rfl) ?_
      refine wp_bldR _ _ rfl (ev f0) (ev f1) ?_
      exact hK _ w' nofun (keep_same hS) ⟨Ay0, ny0, cy0, Ay1, ny1, cy1, rfl, ⟨hc0, hn0, hr0⟩, hc1, hn1, hr1⟩
    · as_aux_lemma =>
      intro a w' hS hO hF' hP K hK
      refine if_ok (by rfl) ?_
      refine wp_calls rfl (enters_of Tryz.func54 (by kernel_rfl) rfl) (args := #[(.string ⟨#[48]⟩)]) (by simp [Act.eval]) ?_
      obtain ⟨O1, O2, r1, r2, TT, BB⟩ := id hS
      apply Calls.mono
      (with_reducible apply of_w); decide
      rintro e w2 ⟨A, n, c, rfl, hc, hn, hv, hb⟩
      exact ⟨_, rfl, hK _ w2 nofun (keep_below hb hS) ⟨A, n, c, rfl, hc, hn, hv.rd⟩⟩
    · as_aux_lemma =>
      intro a w' hS hO hF' hP K hK
      refine if_ok (by rfl) ?_
      refine wp_calls rfl (enters_of Tryz.func54 (by kernel_rfl) rfl) (args := #[(.string ⟨#[49, 49]⟩)]) (by simp [Act.eval]) ?_
      obtain ⟨O1, O2, r1, r2, TT, BB⟩ := id hS
      apply Calls.mono
      (with_reducible apply of_w); decide
      rintro e w2 ⟨A, n, c, rfl, hc, hn, hv, hb⟩
      exact ⟨_, rfl, hK _ w2 nofun (keep_below hb hS) ⟨A, n, c, rfl, hc, hn, hv.rd⟩⟩
    · as_aux_lemma =>
      intro a w' hS hO hF' hP K hK
      refine if_ok (by rfl) ?_
      refine wp_calls rfl (enters_of Tryz.func59 (by kernel_rfl) rfl) (args := #[(.string ⟨#[49]⟩)]) (by simp [Act.eval]) ?_
      obtain ⟨O1, O2, r1, r2, TT, BB⟩ := id hS
      apply Calls.mono
      (with_reducible apply sof_w); decide
      rintro e w2 ⟨A, n, c, rfl, hc, hn, hv, hb⟩
      exact ⟨_, rfl, hK _ w2 nofun (keep_below hb hS) ⟨A, n, c, rfl, hc, hn, hv.rd⟩⟩
    · as_aux_lemma =>
      intro a w' hS hO hF' hP K hK
      obtain ⟨_, f0, Ay0, ny0, cy0, rfl, hc0, hn0, hr0⟩ := (hF' 227 rfl).1 374 _ rfl rfl
      obtain ⟨_, f1, Ay1, ny1, cy1, rfl, hc1, hn1, hr1⟩ := (hF' 228 rfl).1 375 _ rfl rfl
      obtain ⟨_, f2, Ay2, ny2, cy2, rfl, hc2, hn2, hr2⟩ := (hF' 229 rfl).1 376 _ rfl rfl
      refine if_ok (by rfl) ?_
      refine wp_calls rfl (enters_of Tryz.func51 (by kernel_rfl) rfl) (args := #[(.agg #[.slice Ay0 ny0 cy0, .bool (⟨ofL ⟨#[48]⟩, false⟩ : V).s]), (.agg #[.slice Ay1 ny1 cy1, .bool (⟨ofL ⟨#[49, 49]⟩, false⟩ : V).s]), (.agg #[.slice Ay2 ny2 cy2, .bool (⟨ofL ⟨#[49]⟩, true⟩ : V).s])]) (by simp [Act.eval, f0, f1, f2]) ?_
      obtain ⟨O1, O2, r1, r2, TT, BB⟩ := id hS
      apply Calls.mono
      (with_reducible apply cond_any_w); (repeat (first | assumption | (with_reducible (apply Nb.rd; assumption)) | (with_reducible (apply Rb.at_later; assumption)) | (with_reducible (apply Tabs.at_later; assumption)) | (with_reducible apply Rb.alloc) | (with_reducible apply Tabs.alloc) | (with_reducible apply Rb.drew) | (with_reducible apply Tabs.drew) | (show I64 _; unfold I64; omega) | omega))
      rintro e w2 ⟨A, n, c, rfl, hc, hn, hv, hb⟩
      exact ⟨_, rfl, hK _ w2 nofun (keep_below hb hS) ⟨A, n, c, rfl, hc, hn, hv.rd⟩⟩
    · as_aux_lemma =>
      intro a w' hS hO hF' hP K hK
      refine if_ok (by rfl) ?_
      refine wp_calls rfl (enters_of Tryz.func54 (by kernel_rfl) rfl) (args := #[(.string ⟨#[48, 49]⟩)]) (by simp [Act.eval]) ?_
      obtain ⟨O1, O2, r1, r2, TT, BB⟩ := id hS
      apply Calls.mono
      (with_reducible apply of_w); decide
      rintro e w2 ⟨A, n, c, rfl, hc, hn, hv, hb⟩
      exact ⟨_, rfl, hK _ w2 nofun (keep_below hb hS) ⟨A, n, c, rfl, hc, hn, hv.rd⟩⟩
    · as_aux_lemma =>
      intro a w' hS hO hF' hP K hK
      obtain ⟨_, f0, Ay0, ny0, cy0, rfl, hc0, hn0, hr0⟩ := (hF' 230 rfl).1 377 _ rfl rfl
      obtain ⟨_, f1, Ay1, ny1, cy1, rfl, hc1, hn1, hr1⟩ := (hF' 231 rfl).1 378 _ rfl rfl
      refine if_ok (by rfl) ?_
      refine wp_bldR _ _ rfl (ev f0) (ev f1) ?_
      exact hK _ w' nofun (keep_same hS) ⟨Ay0, ny0, cy0, Ay1, ny1, cy1, rfl, ⟨hc0, hn0, hr0⟩, hc1, hn1, hr1⟩
    · as_aux_lemma =>
      intro a w' hS hO hF' hP K hK
      have ha := hO 2 (by rfl)
      refine if_ok (by rfl) ?_
      refine wp_load_row 24 (.tmp 2) rfl g2 (ev ha) _ _ (0, 0) _ hS.2.1 Tryz.underlying24 rfl (by kernel_rfl) ?_
      exact hK _ w' nofun (keep_same hS) rfl
    · as_aux_lemma =>
      intro a w' hS hO hF' hP K hK
      obtain ⟨_, f0, rfl⟩ := (hF' 233 rfl).1 380 _ rfl rfl
      refine if_ok (by rfl) ?_
      refine wp_calls rfl (enters_of Tryz.func26 (by kernel_rfl) rfl) (args := #[(.agg #[.slice A2 2 2, .bool true]), (.bool true)]) (by simp [Act.eval, f0]) ?_
      obtain ⟨O1, O2, r1, r2, TT, BB⟩ := id hS
      apply Calls.mono
      (with_reducible apply withSign_any_w); (repeat (first | assumption | (with_reducible (apply Nb.rd; assumption)) | (with_reducible (apply Rb.at_later; assumption)) | (with_reducible (apply Tabs.at_later; assumption)) | (with_reducible apply Rb.alloc) | (with_reducible apply Tabs.alloc) | (with_reducible apply Rb.drew) | (with_reducible apply Tabs.drew) | (show I64 _; unfold I64; omega) | omega))
      rintro e w2 ⟨A, n, c, rfl, hc, hn, hv, hb⟩
      exact ⟨_, rfl, hK _ w2 nofun (keep_below hb hS) ⟨A, n, c, rfl, hc, hn, hv.rd⟩⟩
    · as_aux_lemma =>
      intro a w' hS hO hF' hP K hK
      refine if_ok (by rfl) ?_
      refine wp_calls rfl (enters_of Tryz.func59 (by kernel_rfl) rfl) (args := #[(.string ⟨#[120]⟩)]) (by simp [Act.eval]) ?_
      obtain ⟨O1, O2, r1, r2, TT, BB⟩ := id hS
      apply Calls.mono
      (with_reducible apply sof_w); decide
      rintro e w2 ⟨A, n, c, rfl, hc, hn, hv, hb⟩
      exact ⟨_, rfl, hK _ w2 nofun (keep_below hb hS) ⟨A, n, c, rfl, hc, hn, hv.rd⟩⟩
    · as_aux_lemma =>
      intro a w' hS hO hF' hP K hK
      obtain ⟨_, f0, Ay0, ny0, cy0, rfl, hc0, hn0, hr0⟩ := (hF' 234 rfl).1 381 _ rfl rfl
      obtain ⟨_, f1, Ay1, ny1, cy1, rfl, hc1, hn1, hr1⟩ := (hF' 235 rfl).1 382 _ rfl rfl
      refine if_ok (by rfl) ?_
      refine wp_bldR _ _ rfl (ev f0) (ev f1) ?_
      exact hK _ w' nofun (keep_same hS) ⟨Ay0, ny0, cy0, Ay1, ny1, cy1, rfl, ⟨hc0, hn0, hr0⟩, hc1, hn1, hr1⟩
    · as_aux_lemma =>
      intro a w' hS hO hF' hP K hK
      obtain ⟨_, f0, Ay0, ny0, cy0, By0, my0, dy0, rfl, hp0, hq0⟩ := (hF' 3 rfl).1 150 _ rfl rfl
      obtain ⟨_, f1, Ay1, ny1, cy1, By1, my1, dy1, rfl, hp1, hq1⟩ := (hF' 8 rfl).1 155 _ rfl rfl
      obtain ⟨_, f2, Ay2, ny2, cy2, By2, my2, dy2, rfl, hp2, hq2⟩ := (hF' 13 rfl).1 160 _ rfl rfl
      obtain ⟨_, f3, Ay3, ny3, cy3, By3, my3, dy3, rfl, hp3, hq3⟩ := (hF' 18 rfl).1 165 _ rfl rfl
      obtain ⟨_, f4, Ay4, ny4, cy4, By4, my4, dy4, rfl, hp4, hq4⟩ := (hF' 23 rfl).1 170 _ rfl rfl
      obtain ⟨_, f5, Ay5, ny5, cy5, By5, my5, dy5, rfl, hp5, hq5⟩ := (hF' 28 rfl).1 175 _ rfl rfl
      obtain ⟨_, f6, Ay6, ny6, cy6, By6, my6, dy6, rfl, hp6, hq6⟩ := (hF' 33 rfl).1 180 _ rfl rfl
      obtain ⟨_, f7, Ay7, ny7, cy7, By7, my7, dy7, rfl, hp7, hq7⟩ := (hF' 38 rfl).1 185 _ rfl rfl
      obtain ⟨_, f8, Ay8, ny8, cy8, By8, my8, dy8, rfl, hp8, hq8⟩ := (hF' 43 rfl).1 190 _ rfl rfl
      obtain ⟨_, f9, Ay9, ny9, cy9, By9, my9, dy9, rfl, hp9, hq9⟩ := (hF' 48 rfl).1 195 _ rfl rfl
      obtain ⟨_, f10, Ay10, ny10, cy10, By10, my10, dy10, rfl, hp10, hq10⟩ := (hF' 53 rfl).1 200 _ rfl rfl
      obtain ⟨_, f11, Ay11, ny11, cy11, By11, my11, dy11, rfl, hp11, hq11⟩ := (hF' 58 rfl).1 205 _ rfl rfl
      obtain ⟨_, f12, Ay12, ny12, cy12, By12, my12, dy12, rfl, hp12, hq12⟩ := (hF' 63 rfl).1 210 _ rfl rfl
      obtain ⟨_, f13, Ay13, ny13, cy13, By13, my13, dy13, rfl, hp13, hq13⟩ := (hF' 68 rfl).1 215 _ rfl rfl
      obtain ⟨_, f14, Ay14, ny14, cy14, By14, my14, dy14, rfl, hp14, hq14⟩ := (hF' 73 rfl).1 220 _ rfl rfl
      obtain ⟨_, f15, Ay15, ny15, cy15, By15, my15, dy15, rfl, hp15, hq15⟩ := (hF' 78 rfl).1 225 _ rfl rfl
      obtain ⟨_, f16, Ay16, ny16, cy16, By16, my16, dy16, rfl, hp16, hq16⟩ := (hF' 83 rfl).1 230 _ rfl rfl
      obtain ⟨_, f17, Ay17, ny17, cy17, By17, my17, dy17, rfl, hp17, hq17⟩ := (hF' 88 rfl).1 235 _ rfl rfl
      obtain ⟨_, f18, Ay18, ny18, cy18, By18, my18, dy18, rfl, hp18, hq18⟩ := (hF' 93 rfl).1 240 _ rfl rfl
      obtain ⟨_, f19, Ay19, ny19, cy19, By19, my19, dy19, rfl, hp19, hq19⟩ := (hF' 98 rfl).1 245 _ rfl rfl
      obtain ⟨_, f20, Ay20, ny20, cy20, By20, my20, dy20, rfl, hp20, hq20⟩ := (hF' 103 rfl).1 250 _ rfl rfl
      obtain ⟨_, f21, Ay21, ny21, cy21, By21, my21, dy21, rfl, hp21, hq21⟩ := (hF' 108 rfl).1 255 _ rfl rfl
      obtain ⟨_, f22, Ay22, ny22, cy22, By22, my22, dy22, rfl, hp22, hq22⟩ := (hF' 113 rfl).1 260 _ rfl rfl
      obtain ⟨_, f23, Ay23, ny23, cy23, By23, my23, dy23, rfl, hp23, hq23⟩ := (hF' 118 rfl).1 265 _ rfl rfl
      obtain ⟨_, f24, Ay24, ny24, cy24, By24, my24, dy24, rfl, hp24, hq24⟩ := (hF' 123 rfl).1 270 _ rfl rfl
      obtain ⟨_, f25, Ay25, ny25, cy25, By25, my25, dy25, rfl, hp25, hq25⟩ := (hF' 127 rfl).1 274 _ rfl rfl
      obtain ⟨_, f26, Ay26, ny26, cy26, By26, my26, dy26, rfl, hp26, hq26⟩ := (hF' 131 rfl).1 278 _ rfl rfl
      obtain ⟨_, f27, Ay27, ny27, cy27, By27, my27, dy27, rfl, hp27, hq27⟩ := (hF' 135 rfl).1 282 _ rfl rfl
      obtain ⟨_, f28, Ay28, ny28, cy28, By28, my28, dy28, rfl, hp28, hq28⟩ := (hF' 139 rfl).1 286 _ rfl rfl
      obtain ⟨_, f29, Ay29, ny29, cy29, By29, my29, dy29, rfl, hp29, hq29⟩ := (hF' 143 rfl).1 290 _ rfl rfl
      obtain ⟨_, f30, Ay30, ny30, cy30, By30, my30, dy30, rfl, hp30, hq30⟩ := (hF' 147 rfl).1 294 _ rfl rfl
      obtain ⟨_, f31, Ay31, ny31, cy31, By31, my31, dy31, rfl, hp31, hq31⟩ := (hF' 151 rfl).1 298 _ rfl rfl
      obtain ⟨_, f32, Ay32, ny32, cy32, By32, my32, dy32, rfl, hp32, hq32⟩ := (hF' 156 rfl).1 303 _ rfl rfl
      obtain ⟨_, f33, Ay33, ny33, cy33, By33, my33, dy33, rfl, hp33, hq33⟩ := (hF' 161 rfl).1 308 _ rfl rfl
      obtain ⟨_, f34, Ay34, ny34, cy34, By34, my34, dy34, rfl, hp34, hq34⟩ := (hF' 165 rfl).1 312 _ rfl rfl
      obtain ⟨_, f35, Ay35, ny35, cy35, By35, my35, dy35, rfl, hp35, hq35⟩ := (hF' 169 rfl).1 316 _ rfl rfl
      obtain ⟨_, f36, Ay36, ny36, cy36, By36, my36, dy36, rfl, hp36, hq36⟩ := (hF' 174 rfl).1 321 _ rfl rfl
      obtain ⟨_, f37, Ay37, ny37, cy37, By37, my37, dy37, rfl, hp37, hq37⟩ := (hF' 179 rfl).1 326 _ rfl rfl
      obtain ⟨_, f38, Ay38, ny38, cy38, By38, my38, dy38, rfl, hp38, hq38⟩ := (hF' 184 rfl).1 331 _ rfl rfl
      obtain ⟨_, f39, Ay39, ny39, cy39, By39, my39, dy39, rfl, hp39, hq39⟩ := (hF' 189 rfl).1 336 _ rfl rfl
      obtain ⟨_, f40, Ay40, ny40, cy40, By40, my40, dy40, rfl, hp40, hq40⟩ := (hF' 194 rfl).1 341 _ rfl rfl
      obtain ⟨_, f41, Ay41, ny41, cy41, By41, my41, dy41, rfl, hp41, hq41⟩ := (hF' 199 rfl).1 346 _ rfl rfl
      obtain ⟨_, f42, Ay42, ny42, cy42, By42, my42, dy42, rfl, hp42, hq42⟩ := (hF' 204 rfl).1 351 _ rfl rfl
      obtain ⟨_, f43, Ay43, ny43, cy43, By43, my43, dy43, rfl, hp43, hq43⟩ := (hF' 209 rfl).1 356 _ rfl rfl
      obtain ⟨_, f44, Ay44, ny44, cy44, By44, my44, dy44, rfl, hp44, hq44⟩ := (hF' 214 rfl).1 361 _ rfl rfl
      obtain ⟨_, f45, Ay45, ny45, cy45, By45, my45, dy45, rfl, hp45, hq45⟩ := (hF' 220 rfl).1 367 _ rfl rfl
      obtain ⟨_, f46, Ay46, ny46, cy46, By46, my46, dy46, rfl, hp46, hq46⟩ := (hF' 226 rfl).1 373 _ rfl rfl
      obtain ⟨_, f47, Ay47, ny47, cy47, By47, my47, dy47, rfl, hp47, hq47⟩ := (hF' 232 rfl).1 379 _ rfl rfl
      obtain ⟨_, f48, Ay48, ny48, cy48, By48, my48, dy48, rfl, hp48, hq48⟩ := (hF' 236 rfl).1 383 _ rfl rfl
      refine if_ok (by rfl) ?_
      refine wp_bs49 (fun j => ([.tmp 150, .tmp 155, .tmp 160, .tmp 165, .tmp 170, .tmp 175, .tmp 180, .tmp 185, .tmp 190, .tmp 195, .tmp 200, .tmp 205, .tmp 210, .tmp 215, .tmp 220, .tmp 225, .tmp 230, .tmp 235, .tmp 240, .tmp 245, .tmp 250, .tmp 255, .tmp 260, .tmp 265, .tmp 270, .tmp 274, .tmp 278, .tmp 282, .tmp 286, .tmp 290, .tmp 294, .tmp 298, .tmp 303, .tmp 308, .tmp 312, .tmp 316, .tmp 321, .tmp 326, .tmp 331, .tmp 336, .tmp 341, .tmp 346, .tmp 351, .tmp 356, .tmp 361, .tmp 367, .tmp 373, .tmp 379, .tmp 383] : List Operand).getD j (.const undef)) rfl (fun j => ([⟨Ay0, ny0, cy0, (notV (⟨[0, 4], true⟩ : V)).s⟩, ⟨Ay1, ny1, cy1, (arV fAdd (allV 1 (129 : Int).toNat false) (⟨ofL ⟨#[48, 49]⟩, false⟩ : V)).s⟩, ⟨Ay2, ny2, cy2, (bwV orI (⟨[], false⟩ : V) (⟨ofL ⟨#[49]⟩, false⟩ : V)).s⟩, ⟨Ay3, ny3, cy3, (divV true (⟨ofL ⟨#[49, 48, 48, 49]⟩, true⟩ : V) (⟨ofL ⟨#[48, 48, 49, 48]⟩, true⟩ : V)).s⟩, ⟨Ay4, ny4, cy4, (divV false (⟨ofL ⟨#[49, 48, 48, 49]⟩, true⟩ : V) (⟨ofL ⟨#[48, 48, 49, 48]⟩, true⟩ : V)).s⟩, ⟨Ay5, ny5, cy5, (divV true (⟨ofL ⟨#[49, 48, 48, 49]⟩, false⟩ : V) (⟨ofL ⟨#[48, 48, 49, 48]⟩, true⟩ : V)).s⟩, ⟨Ay6, ny6, cy6, (divV true (⟨ofL ⟨#[49]⟩, false⟩ : V) (⟨ofL ⟨#[48]⟩, false⟩ : V)).s⟩, ⟨Ay7, ny7, cy7, (divV false (⟨ofL ⟨#[48, 49]⟩, true⟩ : V) (⟨ofL ⟨#[48, 48, 48]⟩, true⟩ : V)).s⟩, ⟨Ay8, ny8, cy8, (divV true (⟨ofL ⟨#[49, 120]⟩, false⟩ : V) (⟨ofL ⟨#[48, 49]⟩, false⟩ : V)).s⟩, ⟨Ay9, ny9, cy9, (powV (⟨ofL ⟨#[48, 48, 49, 49]⟩, false⟩ : V) (⟨ofL ⟨#[49, 48, 49]⟩, false⟩ : V)).s⟩, ⟨Ay10, ny10, cy10, (powV (⟨ofL ⟨#[49, 49, 49, 49]⟩, true⟩ : V) (⟨ofL ⟨#[49, 49]⟩, true⟩ : V)).s⟩, ⟨Ay11, ny11, cy11, (powV (⟨ofL ⟨#[49, 49, 49, 49]⟩, true⟩ : V) (⟨ofL ⟨#[49, 48]⟩, true⟩ : V)).s⟩, ⟨Ay12, ny12, cy12, (powV (⟨ofL ⟨#[48, 48, 48, 49]⟩, true⟩ : V) (⟨ofL ⟨#[49]⟩, true⟩ : V)).s⟩, ⟨Ay13, ny13, cy13, (powV (⟨ofL ⟨#[49, 49, 49, 49]⟩, false⟩ : V) (⟨ofL ⟨#[49]⟩, true⟩ : V)).s⟩, ⟨Ay14, ny14, cy14, (powV (⟨ofL ⟨#[48, 48]⟩, true⟩ : V) (⟨ofL ⟨#[49]⟩, true⟩ : V)).s⟩, ⟨Ay15, ny15, cy15, (powV (⟨ofL ⟨#[48, 48]⟩, false⟩ : V) (⟨ofL ⟨#[49]⟩, false⟩ : V)).s⟩, ⟨Ay16, ny16, cy16, (powV (⟨ofL ⟨#[49, 48]⟩, false⟩ : V) (⟨ofL ⟨#[120]⟩, false⟩ : V)).s⟩, ⟨Ay17, ny17, cy17, (shV frL 0 (⟨ofL ⟨#[48, 48, 49, 49]⟩, false⟩ : V) (⟨ofL ⟨#[49, 48]⟩, false⟩ : V)).s⟩, ⟨Ay18, ny18, cy18, (shV frL 0 (⟨ofL ⟨#[48, 122, 49, 49]⟩, false⟩ : V) (⟨ofL ⟨#[49]⟩, false⟩ : V)).s⟩, ⟨Ay19, ny19, cy19, (shV frR 0 (⟨ofL ⟨#[49, 48, 48, 48]⟩, true⟩ : V) (⟨ofL ⟨#[49]⟩, false⟩ : V)).s⟩, ⟨Ay20, ny20, cy20, (shV frR (fill (nrm (⟨ofL ⟨#[49, 48, 48, 48]⟩, false⟩ : V))) (⟨ofL ⟨#[49, 48, 48, 48]⟩, false⟩ : V) (⟨ofL ⟨#[49]⟩, false⟩ : V)).s⟩, ⟨Ay21, ny21, cy21, (shV frR (fill (nrm (⟨ofL ⟨#[120, 48, 48, 48]⟩, true⟩ : V))) (⟨ofL ⟨#[120, 48, 48, 48]⟩, true⟩ : V) (⟨ofL ⟨#[49, 49]⟩, true⟩ : V)).s⟩, ⟨Ay22, ny22, cy22, (shV frR 0 (⟨ofL ⟨#[49, 49]⟩, false⟩ : V) (⟨(allV 1 (128 : Int).toNat false).l, false⟩ : V)).s⟩, ⟨Ay23, ny23, cy23, (shV frL 0 (⟨ofL ⟨#[48, 49]⟩, false⟩ : V) (⟨ofL ⟨#[122]⟩, false⟩ : V)).s⟩, ⟨Ay24, ny24, cy24, (shV frL 0 (⟨ofL ⟨#[48, 49, 48, 49]⟩, true⟩ : V) (⟨ofL ⟨#[49]⟩, false⟩ : V)).s⟩, ⟨Ay25, ny25, cy25, (one1 (red andI (⟨ofL ⟨#[49, 120, 48]⟩, false⟩ : V))).s⟩, ⟨Ay26, ny26, cy26, (one1 (red orI (⟨ofL ⟨#[48, 120]⟩, false⟩ : V))).s⟩, ⟨Ay27, ny27, cy27, (one1 (red xorI (⟨ofL ⟨#[49, 49, 49]⟩, false⟩ : V))).s⟩, ⟨Ay28, ny28, cy28, (one1 (notI (red andI (⟨ofL ⟨#[122]⟩, false⟩ : V)))).s⟩, ⟨Ay29, ny29, cy29, (one1 (notI (red orI (⟨ofL ⟨#[48, 48]⟩, false⟩ : V)))).s⟩, ⟨Ay30, ny30, cy30, (one1 (notI (red xorI (⟨ofL ⟨#[49, 48]⟩, false⟩ : V)))).s⟩, ⟨Ay31, ny31, cy31, (one1 (notI (truth (⟨ofL ⟨#[120, 48]⟩, false⟩ : V)))).s⟩, ⟨Ay32, ny32, cy32, (one1 (andI (truth (⟨ofL ⟨#[48]⟩, false⟩ : V)) (truth (⟨ofL ⟨#[120]⟩, false⟩ : V)))).s⟩, ⟨Ay33, ny33, cy33, (one1 (orI (truth (⟨ofL ⟨#[120, 49]⟩, false⟩ : V)) (truth (⟨ofL ⟨#[120]⟩, false⟩ : V)))).s⟩, ⟨Ay34, ny34, cy34, (negV (⟨ofL ⟨#[48, 48, 49]⟩, true⟩ : V)).s⟩, ⟨Ay35, ny35, cy35, (negV (⟨ofL ⟨#[120, 49]⟩, false⟩ : V)).s⟩, ⟨Ay36, ny36, cy36, (one1 (cmpV pLt (⟨ofL ⟨#[49, 49]⟩, true⟩ : V) (⟨ofL ⟨#[48, 48, 49]⟩, true⟩ : V))).s⟩, ⟨Ay37, ny37, cy37, (one1 (cmpV pLt (⟨ofL ⟨#[49, 49]⟩, false⟩ : V) (⟨ofL ⟨#[48, 48, 49]⟩, true⟩ : V))).s⟩, ⟨Ay38, ny38, cy38, (one1 (cmpV pGe (⟨ofL ⟨#[49, 120]⟩, false⟩ : V) (⟨ofL ⟨#[48, 48]⟩, false⟩ : V))).s⟩, ⟨Ay39, ny39, cy39, (one1 (cmpV pLe (⟨ofL ⟨#[48, 49]⟩, false⟩ : V) (⟨ofL ⟨#[49]⟩, false⟩ : V))).s⟩, ⟨Ay40, ny40, cy40, (one1 (cmpV pGt (⟨ofL ⟨#[48]⟩, true⟩ : V) (⟨ofL ⟨#[49]⟩, true⟩ : V))).s⟩, ⟨Ay41, ny41, cy41, (one1 (notI (eqV (⟨ofL ⟨#[49, 120]⟩, false⟩ : V) (⟨ofL ⟨#[48, 120]⟩, false⟩ : V)))).s⟩, ⟨Ay42, ny42, cy42, (one1 (fromI (mtB noW (⟨ofL ⟨#[120]⟩, false⟩ : V) (⟨ofL ⟨#[122]⟩, false⟩ : V)))).s⟩, ⟨Ay43, ny43, cy43, (one1 (notI (fromI (mtB noW (⟨ofL ⟨#[122]⟩, true⟩ : V) (⟨ofL ⟨#[122, 122]⟩, true⟩ : V))))).s⟩, ⟨Ay44, ny44, cy44, (one1 (fromI (mtB noW (⟨ofL ⟨#[122]⟩, false⟩ : V) (⟨ofL ⟨#[122, 122]⟩, true⟩ : V)))).s⟩, ⟨Ay45, ny45, cy45, (condV (⟨ofL ⟨#[48, 120]⟩, false⟩ : V) (⟨ofL ⟨#[122, 49]⟩, true⟩ : V) (⟨ofL ⟨#[48]⟩, true⟩ : V)).s⟩, ⟨Ay46, ny46, cy46, (condV (⟨ofL ⟨#[49, 120]⟩, false⟩ : V) (⟨ofL ⟨#[122, 49]⟩, false⟩ : V) (⟨ofL ⟨#[48, 48, 48]⟩, false⟩ : V)).s⟩, ⟨Ay47, ny47, cy47, (condV (⟨ofL ⟨#[48]⟩, false⟩ : V) (⟨ofL ⟨#[49, 49]⟩, false⟩ : V) (⟨ofL ⟨#[49]⟩, true⟩ : V)).s⟩, ⟨Ay48, ny48, cy48, (⟨(nrm (⟨[0, 4], true⟩ : V)).l, true⟩ : V).s⟩] : List Cv).getD j ⟨none, 0, 0, false⟩) (fun j => ([⟨By0, my0, dy0, (⟨ofL ⟨#[120]⟩, false⟩ : V).s⟩, ⟨By1, my1, dy1, (⟨ofL ⟨#[120, 120]⟩, false⟩ : V).s⟩, ⟨By2, my2, dy2, (⟨ofL ⟨#[49]⟩, false⟩ : V).s⟩, ⟨By3, my3, dy3, (⟨ofL ⟨#[49, 49, 48, 49]⟩, true⟩ : V).s⟩, ⟨By4, my4, dy4, (⟨ofL ⟨#[49, 49, 49, 49]⟩, true⟩ : V).s⟩, ⟨By5, my5, dy5, (⟨ofL ⟨#[48, 49, 48, 48]⟩, false⟩ : V).s⟩, ⟨By6, my6, dy6, (⟨ofL ⟨#[120]⟩, false⟩ : V).s⟩, ⟨By7, my7, dy7, (⟨ofL ⟨#[120, 120, 120]⟩, true⟩ : V).s⟩, ⟨By8, my8, dy8, (⟨ofL ⟨#[120, 120]⟩, false⟩ : V).s⟩, ⟨By9, my9, dy9, (⟨ofL ⟨#[48, 48, 49, 49]⟩, false⟩ : V).s⟩, ⟨By10, my10, dy10, (⟨ofL ⟨#[49, 49, 49, 49]⟩, true⟩ : V).s⟩, ⟨By11, my11, dy11, (⟨ofL ⟨#[48, 48, 48, 49]⟩, true⟩ : V).s⟩, ⟨By12, my12, dy12, (⟨ofL ⟨#[48, 48, 48, 49]⟩, true⟩ : V).s⟩, ⟨By13, my13, dy13, (⟨ofL ⟨#[48, 48, 48, 48]⟩, false⟩ : V).s⟩, ⟨By14, my14, dy14, (⟨ofL ⟨#[120, 120]⟩, true⟩ : V).s⟩, ⟨By15, my15, dy15, (⟨ofL ⟨#[48, 48]⟩, false⟩ : V).s⟩, ⟨By16, my16, dy16, (⟨ofL ⟨#[120, 120]⟩, false⟩ : V).s⟩, ⟨By17, my17, dy17, (⟨ofL ⟨#[49, 49, 48, 48]⟩, false⟩ : V).s⟩, ⟨By18, my18, dy18, (⟨ofL ⟨#[122, 49, 49, 48]⟩, false⟩ : V).s⟩, ⟨By19, my19, dy19, (⟨ofL ⟨#[48, 49, 48, 48]⟩, true⟩ : V).s⟩, ⟨By20, my20, dy20, (⟨ofL ⟨#[48, 49, 48, 48]⟩, false⟩ : V).s⟩, ⟨By21, my21, dy21, (⟨ofL ⟨#[120, 120, 120, 120]⟩, true⟩ : V).s⟩, ⟨By22, my22, dy22, (⟨ofL ⟨#[48, 48]⟩, false⟩ : V).s⟩, ⟨By23, my23, dy23, (⟨ofL ⟨#[120, 120]⟩, false⟩ : V).s⟩, ⟨By24, my24, dy24, (⟨ofL ⟨#[49, 48, 49, 48]⟩, true⟩ : V).s⟩, ⟨By25, my25, dy25, (⟨ofL ⟨#[48]⟩, false⟩ : V).s⟩, ⟨By26, my26, dy26, (⟨ofL ⟨#[120]⟩, false⟩ : V).s⟩, ⟨By27, my27, dy27, (⟨ofL ⟨#[49]⟩, false⟩ : V).s⟩, ⟨By28, my28, dy28, (⟨ofL ⟨#[120]⟩, false⟩ : V).s⟩, ⟨By29, my29, dy29, (⟨ofL ⟨#[49]⟩, false⟩ : V).s⟩, ⟨By30, my30, dy30, (⟨ofL ⟨#[48]⟩, false⟩ : V).s⟩, ⟨By31, my31, dy31, (⟨ofL ⟨#[120]⟩, false⟩ : V).s⟩, ⟨By32, my32, dy32, (⟨ofL ⟨#[48]⟩, false⟩ : V).s⟩, ⟨By33, my33, dy33, (⟨ofL ⟨#[49]⟩, false⟩ : V).s⟩, ⟨By34, my34, dy34, (⟨ofL ⟨#[49, 49, 49]⟩, true⟩ : V).s⟩, ⟨By35, my35, dy35, (⟨ofL ⟨#[120, 120]⟩, false⟩ : V).s⟩, ⟨By36, my36, dy36, (⟨ofL ⟨#[49]⟩, false⟩ : V).s⟩, ⟨By37, my37, dy37, (⟨ofL ⟨#[48]⟩, false⟩ : V).s⟩, ⟨By38, my38, dy38, (⟨ofL ⟨#[120]⟩, false⟩ : V).s⟩, ⟨By39, my39, dy39, (⟨ofL ⟨#[49]⟩, false⟩ : V).s⟩, ⟨By40, my40, dy40, (⟨ofL ⟨#[49]⟩, false⟩ : V).s⟩, ⟨By41, my41, dy41, (⟨ofL ⟨#[49]⟩, false⟩ : V).s⟩, ⟨By42, my42, dy42, (⟨ofL ⟨#[48]⟩, false⟩ : V).s⟩, ⟨By43, my43, dy43, (⟨ofL ⟨#[48]⟩, false⟩ : V).s⟩, ⟨By44, my44, dy44, (⟨ofL ⟨#[48]⟩, false⟩ : V).s⟩, ⟨By45, my45, dy45, (⟨ofL ⟨#[120, 120]⟩, true⟩ : V).s⟩, ⟨By46, my46, dy46, (⟨ofL ⟨#[48, 122, 49]⟩, false⟩ : V).s⟩, ⟨By47, my47, dy47, (⟨ofL ⟨#[48, 49]⟩, false⟩ : V).s⟩, ⟨By48, my48, dy48, (⟨ofL ⟨#[120]⟩, true⟩ : V).s⟩] : List Cv).getD j ⟨none, 0, 0, false⟩) (fun j hj => ?_) ?_
      · rcases (show j = 0 ∨ j = 1 ∨ j = 2 ∨ j = 3 ∨ j = 4 ∨ j = 5 ∨ j = 6 ∨ j = 7 ∨ j = 8 ∨ j = 9 ∨ j = 10 ∨ j = 11 ∨ j = 12 ∨ j = 13 ∨ j = 14 ∨ j = 15 ∨ j = 16 ∨ j = 17 ∨ j = 18 ∨ j = 19 ∨ j = 20 ∨ j = 21 ∨ j = 22 ∨ j = 23 ∨ j = 24 ∨ j = 25 ∨ j = 26 ∨ j = 27 ∨ j = 28 ∨ j = 29 ∨ j = 30 ∨ j = 31 ∨ j = 32 ∨ j = 33 ∨ j = 34 ∨ j = 35 ∨ j = 36 ∨ j = 37 ∨ j = 38 ∨ j = 39 ∨ j = 40 ∨ j = 41 ∨ j = 42 ∨ j = 43 ∨ j = 44 ∨ j = 45 ∨ j = 46 ∨ j = 47 ∨ j = 48 by omega) with rfl | rfl | rfl | rfl | rfl | rfl | rfl | rfl | rfl | rfl | rfl | rfl | rfl | rfl | rfl | rfl | rfl | rfl | rfl | rfl | rfl | rfl | rfl | rfl | rfl | rfl | rfl | rfl | rfl | rfl | rfl | rfl | rfl | rfl | rfl | rfl | rfl | rfl | rfl | rfl | rfl | rfl | rfl | rfl | rfl | rfl | rfl | rfl | rfl
        · exact (ev f0)
        · exact (ev f1)
        · exact (ev f2)
        · exact (ev f3)
        · exact (ev f4)
        · exact (ev f5)
        · exact (ev f6)
        · exact (ev f7)
        · exact (ev f8)
        · exact (ev f9)
        · exact (ev f10)
        · exact (ev f11)
        · exact (ev f12)
        · exact (ev f13)
        · exact (ev f14)
        · exact (ev f15)
        · exact (ev f16)
        · exact (ev f17)
        · exact (ev f18)
        · exact (ev f19)
        · exact (ev f20)
        · exact (ev f21)
        · exact (ev f22)
        · exact (ev f23)
        · exact (ev f24)
        · exact (ev f25)
        · exact (ev f26)
        · exact (ev f27)
        · exact (ev f28)
        · exact (ev f29)
        · exact (ev f30)
        · exact (ev f31)
        · exact (ev f32)
        · exact (ev f33)
        · exact (ev f34)
        · exact (ev f35)
        · exact (ev f36)
        · exact (ev f37)
        · exact (ev f38)
        · exact (ev f39)
        · exact (ev f40)
        · exact (ev f41)
        · exact (ev f42)
        · exact (ev f43)
        · exact (ev f44)
        · exact (ev f45)
        · exact (ev f46)
        · exact (ev f47)
        · exact (ev f48)
      refine hK _ _ nofun (keep_below (below_new (Below.refl _ _) _) hS) ⟨_, _, _, rfl, Own.new w' 66 _, fun j hj => ?_⟩
      rcases (show j = 0 ∨ j = 1 ∨ j = 2 ∨ j = 3 ∨ j = 4 ∨ j = 5 ∨ j = 6 ∨ j = 7 ∨ j = 8 ∨ j = 9 ∨ j = 10 ∨ j = 11 ∨ j = 12 ∨ j = 13 ∨ j = 14 ∨ j = 15 ∨ j = 16 ∨ j = 17 ∨ j = 18 ∨ j = 19 ∨ j = 20 ∨ j = 21 ∨ j = 22 ∨ j = 23 ∨ j = 24 ∨ j = 25 ∨ j = 26 ∨ j = 27 ∨ j = 28 ∨ j = 29 ∨ j = 30 ∨ j = 31 ∨ j = 32 ∨ j = 33 ∨ j = 34 ∨ j = 35 ∨ j = 36 ∨ j = 37 ∨ j = 38 ∨ j = 39 ∨ j = 40 ∨ j = 41 ∨ j = 42 ∨ j = 43 ∨ j = 44 ∨ j = 45 ∨ j = 46 ∨ j = 47 ∨ j = 48 by omega) with rfl | rfl | rfl | rfl | rfl | rfl | rfl | rfl | rfl | rfl | rfl | rfl | rfl | rfl | rfl | rfl | rfl | rfl | rfl | rfl | rfl | rfl | rfl | rfl | rfl | rfl | rfl | rfl | rfl | rfl | rfl | rfl | rfl | rfl | rfl | rfl | rfl | rfl | rfl | rfl | rfl | rfl | rfl | rfl | rfl | rfl | rfl | rfl | rfl
      · exact ⟨⟨rfl, hp0.1, hp0.2.1, hp0.2.2.alloc _⟩, rfl, hq0.1, hq0.2.1, hq0.2.2.alloc _⟩
      · exact ⟨⟨rfl, hp1.1, hp1.2.1, hp1.2.2.alloc _⟩, rfl, hq1.1, hq1.2.1, hq1.2.2.alloc _⟩
      · exact ⟨⟨rfl, hp2.1, hp2.2.1, hp2.2.2.alloc _⟩, rfl, hq2.1, hq2.2.1, hq2.2.2.alloc _⟩
      · exact ⟨⟨rfl, hp3.1, hp3.2.1, hp3.2.2.alloc _⟩, rfl, hq3.1, hq3.2.1, hq3.2.2.alloc _⟩
      · exact ⟨⟨rfl, hp4.1, hp4.2.1, hp4.2.2.alloc _⟩, rfl, hq4.1, hq4.2.1, hq4.2.2.alloc _⟩
      · exact ⟨⟨rfl, hp5.1, hp5.2.1, hp5.2.2.alloc _⟩, rfl, hq5.1, hq5.2.1, hq5.2.2.alloc _⟩
      · exact ⟨⟨rfl, hp6.1, hp6.2.1, hp6.2.2.alloc _⟩, rfl, hq6.1, hq6.2.1, hq6.2.2.alloc _⟩
      · exact ⟨⟨rfl, hp7.1, hp7.2.1, hp7.2.2.alloc _⟩, rfl, hq7.1, hq7.2.1, hq7.2.2.alloc _⟩
      · exact ⟨⟨rfl, hp8.1, hp8.2.1, hp8.2.2.alloc _⟩, rfl, hq8.1, hq8.2.1, hq8.2.2.alloc _⟩
      · exact ⟨⟨rfl, hp9.1, hp9.2.1, hp9.2.2.alloc _⟩, rfl, hq9.1, hq9.2.1, hq9.2.2.alloc _⟩
      · exact ⟨⟨rfl, hp10.1, hp10.2.1, hp10.2.2.alloc _⟩, rfl, hq10.1, hq10.2.1, hq10.2.2.alloc _⟩
      · exact ⟨⟨rfl, hp11.1, hp11.2.1, hp11.2.2.alloc _⟩, rfl, hq11.1, hq11.2.1, hq11.2.2.alloc _⟩
      · exact ⟨⟨rfl, hp12.1, hp12.2.1, hp12.2.2.alloc _⟩, rfl, hq12.1, hq12.2.1, hq12.2.2.alloc _⟩
      · exact ⟨⟨rfl, hp13.1, hp13.2.1, hp13.2.2.alloc _⟩, rfl, hq13.1, hq13.2.1, hq13.2.2.alloc _⟩
      · exact ⟨⟨rfl, hp14.1, hp14.2.1, hp14.2.2.alloc _⟩, rfl, hq14.1, hq14.2.1, hq14.2.2.alloc _⟩
      · exact ⟨⟨rfl, hp15.1, hp15.2.1, hp15.2.2.alloc _⟩, rfl, hq15.1, hq15.2.1, hq15.2.2.alloc _⟩
      · exact ⟨⟨rfl, hp16.1, hp16.2.1, hp16.2.2.alloc _⟩, rfl, hq16.1, hq16.2.1, hq16.2.2.alloc _⟩
      · exact ⟨⟨rfl, hp17.1, hp17.2.1, hp17.2.2.alloc _⟩, rfl, hq17.1, hq17.2.1, hq17.2.2.alloc _⟩
      · exact ⟨⟨rfl, hp18.1, hp18.2.1, hp18.2.2.alloc _⟩, rfl, hq18.1, hq18.2.1, hq18.2.2.alloc _⟩
      · exact ⟨⟨rfl, hp19.1, hp19.2.1, hp19.2.2.alloc _⟩, rfl, hq19.1, hq19.2.1, hq19.2.2.alloc _⟩
      · exact ⟨⟨rfl, hp20.1, hp20.2.1, hp20.2.2.alloc _⟩, rfl, hq20.1, hq20.2.1, hq20.2.2.alloc _⟩
      · exact ⟨⟨rfl, hp21.1, hp21.2.1, hp21.2.2.alloc _⟩, rfl, hq21.1, hq21.2.1, hq21.2.2.alloc _⟩
      · exact ⟨⟨rfl, hp22.1, hp22.2.1, hp22.2.2.alloc _⟩, rfl, hq22.1, hq22.2.1, hq22.2.2.alloc _⟩
      · exact ⟨⟨rfl, hp23.1, hp23.2.1, hp23.2.2.alloc _⟩, rfl, hq23.1, hq23.2.1, hq23.2.2.alloc _⟩
      · exact ⟨⟨rfl, hp24.1, hp24.2.1, hp24.2.2.alloc _⟩, rfl, hq24.1, hq24.2.1, hq24.2.2.alloc _⟩
      · exact ⟨⟨rfl, hp25.1, hp25.2.1, hp25.2.2.alloc _⟩, rfl, hq25.1, hq25.2.1, hq25.2.2.alloc _⟩
      · exact ⟨⟨rfl, hp26.1, hp26.2.1, hp26.2.2.alloc _⟩, rfl, hq26.1, hq26.2.1, hq26.2.2.alloc _⟩
      · exact ⟨⟨rfl, hp27.1, hp27.2.1, hp27.2.2.alloc _⟩, rfl, hq27.1, hq27.2.1, hq27.2.2.alloc _⟩
      · exact ⟨⟨rfl, hp28.1, hp28.2.1, hp28.2.2.alloc _⟩, rfl, hq28.1, hq28.2.1, hq28.2.2.alloc _⟩
      · exact ⟨⟨rfl, hp29.1, hp29.2.1, hp29.2.2.alloc _⟩, rfl, hq29.1, hq29.2.1, hq29.2.2.alloc _⟩
      · exact ⟨⟨rfl, hp30.1, hp30.2.1, hp30.2.2.alloc _⟩, rfl, hq30.1, hq30.2.1, hq30.2.2.alloc _⟩
      · exact ⟨⟨rfl, hp31.1, hp31.2.1, hp31.2.2.alloc _⟩, rfl, hq31.1, hq31.2.1, hq31.2.2.alloc _⟩
      · exact ⟨⟨rfl, hp32.1, hp32.2.1, hp32.2.2.alloc _⟩, rfl, hq32.1, hq32.2.1, hq32.2.2.alloc _⟩
      · exact ⟨⟨rfl, hp33.1, hp33.2.1, hp33.2.2.alloc _⟩, rfl, hq33.1, hq33.2.1, hq33.2.2.alloc _⟩
      · exact ⟨⟨rfl, hp34.1, hp34.2.1, hp34.2.2.alloc _⟩, rfl, hq34.1, hq34.2.1, hq34.2.2.alloc _⟩
      · exact ⟨⟨rfl, hp35.1, hp35.2.1, hp35.2.2.alloc _⟩, rfl, hq35.1, hq35.2.1, hq35.2.2.alloc _⟩
      · exact ⟨⟨rfl, hp36.1, hp36.2.1, hp36.2.2.alloc _⟩, rfl, hq36.1, hq36.2.1, hq36.2.2.alloc _⟩
      · exact ⟨⟨rfl, hp37.1, hp37.2.1, hp37.2.2.alloc _⟩, rfl, hq37.1, hq37.2.1, hq37.2.2.alloc _⟩
      · exact ⟨⟨rfl, hp38.1, hp38.2.1, hp38.2.2.alloc _⟩, rfl, hq38.1, hq38.2.1, hq38.2.2.alloc _⟩
      · exact ⟨⟨rfl, hp39.1, hp39.2.1, hp39.2.2.alloc _⟩, rfl, hq39.1, hq39.2.1, hq39.2.2.alloc _⟩
      · exact ⟨⟨rfl, hp40.1, hp40.2.1, hp40.2.2.alloc _⟩, rfl, hq40.1, hq40.2.1, hq40.2.2.alloc _⟩
      · exact ⟨⟨rfl, hp41.1, hp41.2.1, hp41.2.2.alloc _⟩, rfl, hq41.1, hq41.2.1, hq41.2.2.alloc _⟩
      · exact ⟨⟨rfl, hp42.1, hp42.2.1, hp42.2.2.alloc _⟩, rfl, hq42.1, hq42.2.1, hq42.2.2.alloc _⟩
      · exact ⟨⟨rfl, hp43.1, hp43.2.1, hp43.2.2.alloc _⟩, rfl, hq43.1, hq43.2.1, hq43.2.2.alloc _⟩
      · exact ⟨⟨rfl, hp44.1, hp44.2.1, hp44.2.2.alloc _⟩, rfl, hq44.1, hq44.2.1, hq44.2.2.alloc _⟩
      · exact ⟨⟨rfl, hp45.1, hp45.2.1, hp45.2.2.alloc _⟩, rfl, hq45.1, hq45.2.1, hq45.2.2.alloc _⟩
      · exact ⟨⟨rfl, hp46.1, hp46.2.1, hp46.2.2.alloc _⟩, rfl, hq46.1, hq46.2.1, hq46.2.2.alloc _⟩
      · exact ⟨⟨rfl, hp47.1, hp47.2.1, hp47.2.2.alloc _⟩, rfl, hq47.1, hq47.2.1, hq47.2.2.alloc _⟩
      · exact ⟨⟨rfl, hp48.1, hp48.2.1, hp48.2.2.alloc _⟩, rfl, hq48.1, hq48.2.1, hq48.2.2.alloc _⟩
    · as_aux_lemma =>
      intro a w' hS hO hF' hP K hK
      obtain ⟨_, f0, gy0, fy0, gg0, rfl, ht0⟩ := (hF' 237 rfl).1 384 _ rfl rfl
      refine if_ok (by rfl) ?_
      refine wp_lenTD _ rfl (ev f0) ?_
      exact hK _ w' nofun (keep_same hS) rfl
    · as_aux_lemma =>
      intro a w' hS hO hF' hP K hK
      refine if_ok (by rfl) ?_
      refine wp_mvc rfl ?_
      exact hK _ w' nofun (keep_same hS) rfl
  · intro vs0 u hl0 hS hV0
    have hl1 : vs0.length = 240 := hl0
    rw [puts_run 147 240 ?_ hl1 ?_]
    rotate_left
    · rfl
    · exact Nat.le_of_ble_eq_true (by kernel_rfl)
    clear hl0
    obtain ⟨v0, v1, v2, v3, v4, v5, v6, v7, t0, rfl, hl2⟩ := cons8 (n := 232) vs0 hl1
    obtain ⟨v8, v9, v10, v11, v12, v13, v14, v15, t1, rfl, hl3⟩ := cons8 t0 hl2
    obtain ⟨v16, v17, v18, v19, v20, v21, v22, v23, t2, rfl, hl4⟩ := cons8 t1 hl3
    obtain ⟨v24, v25, v26, v27, v28, v29, v30, v31, t3, rfl, hl5⟩ := cons8 t2 hl4
    obtain ⟨v32, v33, v34, v35, v36, v37, v38, v39, t4, rfl, hl6⟩ := cons8 t3 hl5
    obtain ⟨v40, v41, v42, v43, v44, v45, v46, v47, t5, rfl, hl7⟩ := cons8 t4 hl6
    obtain ⟨v48, v49, v50, v51, v52, v53, v54, v55, t6, rfl, hl8⟩ := cons8 t5 hl7
    obtain ⟨v56, v57, v58, v59, v60, v61, v62, v63, t7, rfl, hl9⟩ := cons8 t6 hl8
    obtain ⟨v64, v65, v66, v67, v68, v69, v70, v71, t8, rfl, hl10⟩ := cons8 t7 hl9
    obtain ⟨v72, v73, v74, v75, v76, v77, v78, v79, t9, rfl, hl11⟩ := cons8 t8 hl10
    obtain ⟨v80, v81, v82, v83, v84, v85, v86, v87, t10, rfl, hl12⟩ := cons8 t9 hl11
    obtain ⟨v88, v89, v90, v91, v92, v93, v94, v95, t11, rfl, hl13⟩ := cons8 t10 hl12
    obtain ⟨v96, v97, v98, v99, v100, v101, v102, v103, t12, rfl, hl14⟩ := cons8 t11 hl13
    obtain ⟨v104, v105, v106, v107, v108, v109, v110, v111, t13, rfl, hl15⟩ := cons8 t12 hl14
    obtain ⟨v112, v113, v114, v115, v116, v117, v118, v119, t14, rfl, hl16⟩ := cons8 t13 hl15
    obtain ⟨v120, v121, v122, v123, v124, v125, v126, v127, t15, rfl, hl17⟩ := cons8 t14 hl16
    obtain ⟨v128, v129, v130, v131, v132, v133, v134, v135, t16, rfl, hl18⟩ := cons8 t15 hl17
    obtain ⟨v136, v137, v138, v139, v140, v141, v142, v143, t17, rfl, hl19⟩ := cons8 t16 hl18
    obtain ⟨v144, v145, v146, v147, v148, v149, v150, v151, t18, rfl, hl20⟩ := cons8 t17 hl19
    obtain ⟨v152, v153, v154, v155, v156, v157, v158, v159, t19, rfl, hl21⟩ := cons8 t18 hl20
    obtain ⟨v160, v161, v162, v163, v164, v165, v166, v167, t20, rfl, hl22⟩ := cons8 t19 hl21
    obtain ⟨v168, v169, v170, v171, v172, v173, v174, v175, t21, rfl, hl23⟩ := cons8 t20 hl22
    obtain ⟨v176, v177, v178, v179, v180, v181, v182, v183, t22, rfl, hl24⟩ := cons8 t21 hl23
    obtain ⟨v184, v185, v186, v187, v188, v189, v190, v191, t23, rfl, hl25⟩ := cons8 t22 hl24
    obtain ⟨v192, v193, v194, v195, v196, v197, v198, v199, t24, rfl, hl26⟩ := cons8 t23 hl25
    obtain ⟨v200, v201, v202, v203, v204, v205, v206, v207, t25, rfl, hl27⟩ := cons8 t24 hl26
    obtain ⟨v208, v209, v210, v211, v212, v213, v214, v215, t26, rfl, hl28⟩ := cons8 t25 hl27
    obtain ⟨v216, v217, v218, v219, v220, v221, v222, v223, t27, rfl, hl29⟩ := cons8 t26 hl28
    obtain ⟨v224, v225, v226, v227, v228, v229, v230, v231, t28, rfl, hl30⟩ := cons8 t27 hl29
    obtain ⟨v232, v233, v234, v235, v236, v237, v238, v239, t29, rfl, hl31⟩ := cons8 t28 hl30
    obtain rfl := List.length_eq_zero_iff.1 hl31
    obtain ⟨gT, fT, hT, rfl, HT⟩ := hV0 237 _ rfl
    obtain rfl := hV0 238 _ rfl
    obtain rfl := hV0 239 _ rfl
    clear hV0
    simp only [List.take_succ_cons, List.take_zero, List.drop_succ_cons, List.drop_zero, List.cons_append, List.nil_append, Nat.reduceAdd]
    clear O1 O2 r1 r2 TT BB
    obtain ⟨O1, O2, r1, r2, TT, BB⟩ := hS
    replace O1 : Own u g1 24 #[.slice A1 n1 c1, .bool false] := O1
    replace O2 : Own u g2 24 #[.slice A2 2 2, .bool true] := O2
    replace r1 : Rb u A1 n1 (allV 1 (129 : Int).toNat false).l := r1
    replace r2 : Rb u A2 2 [0, 4] := r2
    replace TT : Tabs u := TT
    replace BB : Below w.heap.size w u := BB
    obtain ⟨u50, rfl⟩ : ∃ x : World, x = u := ⟨_, rfl⟩
    replace HT : TblD u50 gT 66 49 fT hT gv49 wv49 := HT
    clear O1 O2 r1 r2
    replace BB := Lib.hid BB
    go_wp2_with fail
    go_loopw [386] (fun q wr => ∃ j : Nat, j ≤ 49 ∧ q = .int .i64 j ∧ Hid (TblD wr gT 66 49 fT hT gv49 wv49) ∧ Hid (Tabs wr) ∧ Hid (Below w.heap.size w wr)) (fun q _ => 49 - (intOf q).toNat)
    case atStart => exact ⟨0, by decide, rfl, Lib.hid HT, Lib.hid TT, BB⟩
    case round =>
      clear HT TT BB
      obtain ⟨j, hj, rfl, HT, TT, BB⟩ := hrel
      replace HT := HT.out
      replace TT := TT.out
      replace BB := BB.out
      by_cases hlt : j < 49
      · as_aux_lemma =>
        obtain ⟨AT, nT, cT, BT, mT, dT, e0, e1, e2, e3, ⟨hnT, rT⟩, hmT, rU⟩ := HT.row hlt
        have e4 := e0
        rw [← Nat.zero_add (j * 4)] at e4
        have e5 := e1
        rw [← Nat.zero_add (j * 4)] at e5
        have e6 := e2
        rw [← Nat.zero_add (j * 4)] at e6
        have e7 := e3
        rw [← Nat.zero_add (j * 4)] at e7
        have d1 : decide ((j : Int) < 49) = true := by simp; omega
        have hsm := same49_at hlt
        generalize gv49 j = gj at e1 e5 rT hsm
        generalize wv49 j = wj at e3 e7 rU hsm
        obtain ⟨lg, sg⟩ := gj
        obtain ⟨lw, sw⟩ := wj
        simp only at e1 e3 e5 e7 rT rU
        replace hsm := Lib.hid hsm
        go_wp2_with fail
        clear e0 e1 e2 e3 e4 e5 e6 e7
        replace HT := HT.alloc (.cells #[.slice AT nT cT, .bool sg, .slice BT mT dT, .bool sw] 66)
        replace TT := TT.alloc (.cells #[.slice AT nT cT, .bool sg, .slice BT mT dT, .bool sw] 66)
        replace rT := rT.alloc (.cells #[.slice AT nT cT, .bool sg, .slice BT mT dT, .bool sw] 66)
        replace rU := rU.alloc (.cells #[.slice AT nT cT, .bool sg, .slice BT mT dT, .bool sw] 66)
        replace BB := below_new BB (.cells #[.slice AT nT cT, .bool sg, .slice BT mT dT, .bool sw] 66)
        go_at_call 16
        refine (same_t _ _ _ _ _ _ _ _ _ _ _ rT rU hnT hmT hsm.out).mono ?_
        rintro e wk ⟨rfl, hb⟩
        replace HT := HT.step hb
        replace TT := TT.step hb
        replace BB := below_step BB hb
        go_wp2
        go_roundw
        case rel => exact ⟨j + 1, by omega, by go_num, Lib.hid HT, Lib.hid TT, Lib.hid BB⟩
        case measure => simp [intOf]; omega
      · obtain rfl : j = 49 := by omega
        as_aux_lemma =>
        clear HT
        obtain ⟨w9, rfl⟩ : ∃ x : World, x = wr := ⟨_, rfl⟩
        go_wp2_with fail
        go_at_call 59
        refine (sof_w ⟨#[49, 49, 48]⟩ _ (by decide)).mono ?_
        rintro e wk ⟨Aa, na, ca, rfl, hca, hna, hv, hb⟩
        replace TT := TT.step hb
        replace BB := below_step BB hb
        have ra := hv.rd
        clear hb hv
        obtain ⟨u25, rfl⟩ : ∃ u : World, u = wk := ⟨_, rfl⟩
        go_wp2_with fail
        go_at_call 24
        refine (intn (int_v _ _ _ _ _ _ ra) (z := -2) (b := true) (by decide +kernel) (by decide +kernel)).mono ?_
        rintro e wk ⟨rfl, hb⟩
        replace ra := ra.step hb
        replace TT := TT.step hb
        replace BB := below_step BB hb
        clear hb
        obtain ⟨u26, rfl⟩ : ∃ u : World, u = wk := ⟨_, rfl⟩
        clear ra
        go_wp2_with fail
        go_at_call 53
        refine (rFill_k 1 64 false _ (by decide) (by decide)).mono ?_
        rintro e wk ⟨Aa, na, ca, rfl, hca, hna, hv, hb⟩
        replace TT := TT.step hb
        replace BB := below_step BB hb
        have ra := hv.rd
        clear hb hv
        obtain ⟨u27, rfl⟩ : ∃ u : World, u = wk := ⟨_, rfl⟩
        go_wp2_with fail
        go_at_call 24
        refine (intn (int_v _ _ _ _ _ _ ra) (z := 0) (b := false) (by decide +kernel) (by decide +kernel)).mono ?_
        rintro e wk ⟨rfl, hb⟩
        replace ra := ra.step hb
        replace TT := TT.step hb
        replace BB := below_step BB hb
        clear hb
        obtain ⟨u28, rfl⟩ : ∃ u : World, u = wk := ⟨_, rfl⟩
        clear ra
        go_wp2_with fail
        go_at_call 53
        refine (rFill_k 1 128 true _ (by decide) (by decide)).mono ?_
        rintro e wk ⟨Aa, na, ca, rfl, hca, hna, hv, hb⟩
        replace TT := TT.step hb
        replace BB := below_step BB hb
        have ra := hv.rd
        clear hb hv
        obtain ⟨u29, rfl⟩ : ∃ u : World, u = wk := ⟨_, rfl⟩
        go_wp2_with fail
        go_at_call 24
        refine (intn (int_v _ _ _ _ _ _ ra) (z := -1) (b := true) (by decide +kernel) (by decide +kernel)).mono ?_
        rintro e wk ⟨rfl, hb⟩
        replace ra := ra.step hb
        replace TT := TT.step hb
        replace BB := below_step BB hb
        clear hb
        obtain ⟨u30, rfl⟩ : ∃ u : World, u = wk := ⟨_, rfl⟩
        clear ra
        go_wp2_with fail
        go_at_call 59
        refine (sof_w ⟨#[48, 48, 48, 48]⟩ _ (by decide)).mono ?_
        rintro e wk ⟨Aa, na, ca, rfl, hca, hna, hv, hb⟩
        replace TT := TT.step hb
        replace BB := below_step BB hb
        have ra := hv.rd
        clear hb hv
        obtain ⟨u31, rfl⟩ : ∃ u : World, u = wk := ⟨_, rfl⟩
        go_wp2_with fail
        go_at_call 59
        refine (sof_w ⟨#[49, 48, 49]⟩ _ (by decide)).mono ?_
        rintro e wk ⟨Ab, nb, cb, rfl, hcb, hnb, hv, hb⟩
        replace ra := ra.step hb
        replace TT := TT.step hb
        replace BB := below_step BB hb
        have rb := hv.rd
        clear hb hv
        obtain ⟨u32, rfl⟩ : ∃ u : World, u = wk := ⟨_, rfl⟩
        go_wp2_with fail
        go_at_call 49
        refine (vrn (put_v_w _ _ _ _ _ _ _ _ _ _ 4 (-1) _ ra rb (by unfold I64; omega) (by unfold I64; omega)) (l := ofL ⟨#[49, 49, 49, 48]⟩) (s := true) (by decide +kernel) (by decide +kernel)).mono ?_
        rintro e wk ⟨A31, n31, c31, rfl, hc31, hn31, hv, hb⟩
        replace ra := ra.step hb
        replace rb := rb.step hb
        replace TT := TT.step hb
        replace BB := below_step BB hb
        replace ra := ra.alloc (.cells #[.slice A31 n31 c31, .bool true] 24)
        replace rb := rb.alloc (.cells #[.slice A31 n31 c31, .bool true] 24)
        replace TT := TT.alloc (.cells #[.slice A31 n31 c31, .bool true] 24)
        replace BB := below_new BB (.cells #[.slice A31 n31 c31, .bool true] 24)
        have O31 := Own.new wk 24 #[.slice A31 n31 c31, .bool true]
        have r31 := hv.rd.alloc (.cells #[.slice A31 n31 c31, .bool true] 24)
        clear hb hv
        have qO310 := O31.cell 0
        have qO311 := O31.cell 1
        clear ra
        clear rb
        go_wp2_with fail
        go_at_call 59
        clear qO310 qO311
        generalize wk.heap.size = g31 at *
        generalize wk.alloc (.cells #[.slice A31 n31 c31, .bool true] 24) = u33 at *
        refine (sof_w ⟨#[120, 49]⟩ _ (by decide)).mono ?_
        rintro e wk ⟨Aa, na, ca, rfl, hca, hna, hv, hb⟩
        replace O31 := O31.step hb
        replace r31 := r31.step hb
        replace TT := TT.step hb
        replace BB := below_step BB hb
        have ra := hv.rd
        clear hb hv
        obtain ⟨u34, rfl⟩ : ∃ u : World, u = wk := ⟨_, rfl⟩
        have qO310 := O31.cell 0
        have qO311 := O31.cell 1
        go_wp2_with fail
        go_at_call 41
        clear qO310 qO311
        refine (vrn (resize_v_w _ _ _ _ _ 4 _ ra) (l := ofL ⟨#[120, 120, 120, 49]⟩) (s := true) (by decide +kernel) (by decide +kernel)).mono ?_
        rintro e wk ⟨A33, n33, c33, rfl, hc33, hn33, hv, hb⟩
        replace O31 := O31.step hb
        replace r31 := r31.step hb
        replace ra := ra.step hb
        replace TT := TT.step hb
        replace BB := below_step BB hb
        replace O31 := O31.alloc (.cells #[.slice A33 n33 c33, .bool true] 24)
        replace r31 := r31.alloc (.cells #[.slice A33 n33 c33, .bool true] 24)
        replace ra := ra.alloc (.cells #[.slice A33 n33 c33, .bool true] 24)
        replace TT := TT.alloc (.cells #[.slice A33 n33 c33, .bool true] 24)
        replace BB := below_new BB (.cells #[.slice A33 n33 c33, .bool true] 24)
        have O33 := Own.new wk 24 #[.slice A33 n33 c33, .bool true]
        have r33 := hv.rd.alloc (.cells #[.slice A33 n33 c33, .bool true] 24)
        clear hb hv
        have qO310 := O31.cell 0
        have qO311 := O31.cell 1
        have qO330 := O33.cell 0
        have qO331 := O33.cell 1
        clear ra
        go_wp2_with fail
        go_at_call 59
        clear qO310 qO311 qO330 qO331
        generalize wk.heap.size = g33 at *
        generalize wk.alloc (.cells #[.slice A33 n33 c33, .bool true] 24) = u35 at *
        refine (sof_w ⟨#[49, 48]⟩ _ (by decide)).mono ?_
        rintro e wk ⟨Aa, na, ca, rfl, hca, hna, hv, hb⟩
        replace O31 := O31.step hb
        replace O33 := O33.step hb
        replace r31 := r31.step hb
        replace r33 := r33.step hb
        replace TT := TT.step hb
        replace BB := below_step BB hb
        have ra := hv.rd
        clear hb hv
        obtain ⟨u36, rfl⟩ : ∃ u : World, u = wk := ⟨_, rfl⟩
        have qO310 := O31.cell 0
        have qO311 := O31.cell 1
        have qO330 := O33.cell 0
        have qO331 := O33.cell 1
        go_wp2_with fail
        go_at_call 45
        clear qO310 qO311 qO330 qO331
        refine (vrn (repeat_v_w _ _ _ _ _ 2 _ ra) (l := ofL ⟨#[49, 48, 49, 48]⟩) (s := false) (by decide +kernel) (by decide +kernel)).mono ?_
        rintro e wk ⟨A35, n35, c35, rfl, hc35, hn35, hv, hb⟩
        replace O31 := O31.step hb
        replace O33 := O33.step hb
        replace r31 := r31.step hb
        replace r33 := r33.step hb
        replace ra := ra.step hb
        replace TT := TT.step hb
        replace BB := below_step BB hb
        replace O31 := O31.alloc (.cells #[.slice A35 n35 c35, .bool false] 24)
        replace O33 := O33.alloc (.cells #[.slice A35 n35 c35, .bool false] 24)
        replace r31 := r31.alloc (.cells #[.slice A35 n35 c35, .bool false] 24)
        replace r33 := r33.alloc (.cells #[.slice A35 n35 c35, .bool false] 24)
        replace ra := ra.alloc (.cells #[.slice A35 n35 c35, .bool false] 24)
        replace TT := TT.alloc (.cells #[.slice A35 n35 c35, .bool false] 24)
        replace BB := below_new BB (.cells #[.slice A35 n35 c35, .bool false] 24)
        have O35 := Own.new wk 24 #[.slice A35 n35 c35, .bool false]
        have r35 := hv.rd.alloc (.cells #[.slice A35 n35 c35, .bool false] 24)
        clear hb hv
        have qO310 := O31.cell 0
        have qO311 := O31.cell 1
        have qO330 := O33.cell 0
        have qO331 := O33.cell 1
        have qO350 := O35.cell 0
        have qO351 := O35.cell 1
        clear ra
        go_wp2_with fail
        clear qO310 qO311 qO330 qO331 qO350 qO351
        generalize wk.heap.size = g35 at *
        generalize wk.alloc (.cells #[.slice A35 n35 c35, .bool false] 24) = u37 at *
        replace O31 : Own u37 g31 24 #[.slice A31 n31 c31, .bool true] := O31
        replace O33 : Own u37 g33 24 #[.slice A33 n33 c33, .bool true] := O33
        replace O35 : Own u37 g35 24 #[.slice A35 n35 c35, .bool false] := O35
        replace BB := Lib.hid BB
        refine region_z (by kernel_rfl) (fun u => owns g31 #[.slice A31 n31 c31, .bool true] u ∧ (owns g33 #[.slice A33 n33 c33, .bool true] u ∧ (owns g35 #[.slice A35 n35 c35, .bool false] u ∧ (rds A31 n31 (ofL ⟨#[49, 49, 49, 48]⟩) u ∧ (rds A33 n33 (ofL ⟨#[120, 120, 120, 49]⟩) u ∧ (rds A35 n35 (ofL ⟨#[49, 48, 49, 48]⟩) u ∧ (tbs u ∧ blw w u))))))) [] (ex28Vs A31 A33 A35 n31 c31 n33 c33 n35 c35) ex28Ds ex28Dp (by kernel_rfl) (by kernel_rfl) rfl (by kernel_rfl) (by kernel_rfl) (by kernel_rfl) ⟨O31.drew, O33.drew, O35.drew, r31.drew, r33.drew, r35.drew, TT.drew, below_drew BB.out⟩ (fun _ h => by cases h) ?_ ?_
        · refine ⟨?_, ?_, ?_, ?_, ?_, ?_, ?_, ?_, ?_, ?_, ?_, ?_, ?_, ?_, ?_, ?_, ?_, ?_, ?_, ?_, ?_, ?_, ?_, ?_, ?_, ?_, ?_, ?_, ?_, ?_, ?_, ?_, ?_, ?_, ?_, ?_, ?_, ?_, ?_, ?_, ?_, ?_, ?_, ?_, ?_, ?_, ?_, ?_, ?_, ?_, ?_, ?_, ?_, ?_, ?_, ?_, ?_, ?_, ?_, ?_, ?_, ?_, ?_, ?_, ?_, ?_, ?_, ?_, ?_, ?_, ?_, ?_, ?_, ?_, ?_, ?_, ?_, ?_, ?_, ?_, ?_, ?_, ?_, ?_, ?_, ?_, ?_, ?_, ?_, ?_, ?_, ?_, ?_, ?_, ?_, ?_, trivial⟩
          · as_aux_lemma =>
            intro a w' hS hO hF' hP K hK
            have f0 := hO 25 (by rfl)
            refine if_ok (by rfl) ?_
            unfold Oper.wp execOp
            simp only [Sem.run_pure, ev f0]
            exact hK _ w' nofun (keep_same hS) rfl
          · as_aux_lemma =>
            intro a w' hS hO hF' hP K hK
            obtain ⟨_, f0, rfl⟩ := (hF' 0 rfl).1 428 _ rfl rfl
            refine if_ok (by rfl) ?_
            refine wp_val (w' := w') (q := .bool true) (by unfold execOp; simp only [(ev f0)]; simp [go_sem]) ?_
            exact hK _ w' nofun (keep_same hS) rfl
          · as_aux_lemma =>
            intro a w' hS hO hF' hP K hK
            obtain ⟨_, f0, rfl⟩ := (hF' 1 rfl).1 429 _ rfl rfl
            refine if_ok (by rfl) ?_
            unfold Oper.wp execOp
            simp only [Sem.run_pure, ev f0]
            exact hK _ w' nofun (keep_same hS) rfl
          · as_aux_lemma =>
            intro a w' hS hO hF' hP K hK
            obtain ⟨_, fg, rfl⟩ := (hF' 2 rfl).1 430 _ rfl rfl
            have f0 := hO 26 (by rfl)
            refine if_wanted (by rfl) (yield_of (by rfl) fg) ?_
            unfold Oper.wp execOp
            simp only [Sem.run_pure, ev f0]
            exact hK _ w' nofun (keep_same hS) rfl
          · as_aux_lemma =>
            intro a w' hS hO hF' hP K hK
            obtain ⟨_, f0, rfl⟩ := (hF' 2 rfl).1 430 _ rfl rfl
            obtain ⟨_, f1, rfl⟩ := (hF' 3 rfl).1 431 _ rfl rfl
            refine if_ok (by rfl) ?_
            refine wp_pick_and _ _ _ rfl (ev f0) (ev f1) ?_
            exact hK _ w' nofun (keep_same hS) rfl
          · as_aux_lemma =>
            intro a w' hS hO hF' hP K hK
            obtain ⟨_, f0, rfl⟩ := (hF' 4 rfl).1 432 _ rfl rfl
            refine if_ok (by rfl) ?_
            unfold Oper.wp execOp
            simp only [Sem.run_pure, ev f0]
            exact hK _ w' nofun (keep_same hS) rfl
          · as_aux_lemma =>
            intro a w' hS hO hF' hP K hK
            obtain ⟨_, fg, rfl⟩ := (hF' 5 rfl).1 433 _ rfl rfl
            have f0 := hO 27 (by rfl)
            refine if_wanted (by rfl) (yield_of (by rfl) fg) ?_
            unfold Oper.wp execOp
            simp only [Sem.run_pure, ev f0]
            exact hK _ w' nofun (keep_same hS) rfl
          · as_aux_lemma =>
            intro a w' hS hO hF' hP K hK
            obtain ⟨_, fg, rfl⟩ := (hF' 5 rfl).1 433 _ rfl rfl
            obtain ⟨_, f0, rfl⟩ := (hF' 6 rfl).1 434 _ rfl rfl
            refine if_wanted (by rfl) (yield_of (by rfl) fg) ?_
            refine wp_val (w' := w') (q := .bool true) (by unfold execOp; simp only [(ev f0)]; simp [go_sem]) ?_
            exact hK _ w' nofun (keep_same hS) rfl
          · as_aux_lemma =>
            intro a w' hS hO hF' hP K hK
            obtain ⟨_, f0, rfl⟩ := (hF' 5 rfl).1 433 _ rfl rfl
            obtain ⟨_, f1, rfl⟩ := (hF' 7 rfl).1 435 _ rfl rfl
            refine if_ok (by rfl) ?_
            refine wp_pick_and _ _ _ rfl (ev f0) (ev f1) ?_
            exact hK _ w' nofun (keep_same hS) rfl
          · as_aux_lemma =>
            intro a w' hS hO hF' hP K hK
            obtain ⟨_, f0, rfl⟩ := (hF' 8 rfl).1 436 _ rfl rfl
            refine if_ok (by rfl) ?_
            unfold Oper.wp execOp
            simp only [Sem.run_pure, ev f0]
            exact hK _ w' nofun (keep_same hS) rfl
          · as_aux_lemma =>
            intro a w' hS hO hF' hP K hK
            obtain ⟨_, fg, rfl⟩ := (hF' 9 rfl).1 437 _ rfl rfl
            have f0 := hO 28 (by rfl)
            refine if_wanted (by rfl) (yield_of (by rfl) fg) ?_
            unfold Oper.wp execOp
            simp only [Sem.run_pure, ev f0]
            exact hK _ w' nofun (keep_same hS) rfl
          · as_aux_lemma =>
            intro a w' hS hO hF' hP K hK
            obtain ⟨_, fg, rfl⟩ := (hF' 9 rfl).1 437 _ rfl rfl
            obtain ⟨_, f0, rfl⟩ := (hF' 10 rfl).1 438 _ rfl rfl
            refine if_wanted (by rfl) (yield_of (by rfl) fg) ?_
            refine wp_not _ rfl (ev f0) ?_
            exact hK _ w' nofun (keep_same hS) rfl
          · as_aux_lemma =>
            intro a w' hS hO hF' hP K hK
            obtain ⟨_, f0, rfl⟩ := (hF' 9 rfl).1 437 _ rfl rfl
            obtain ⟨_, f1, rfl⟩ := (hF' 11 rfl).1 439 _ rfl rfl
            refine if_ok (by rfl) ?_
            refine wp_pick_and _ _ _ rfl (ev f0) (ev f1) ?_
            exact hK _ w' nofun (keep_same hS) rfl
          · as_aux_lemma =>
            intro a w' hS hO hF' hP K hK
            obtain ⟨_, f0, rfl⟩ := (hF' 12 rfl).1 440 _ rfl rfl
            refine if_ok (by rfl) ?_
            unfold Oper.wp execOp
            simp only [Sem.run_pure, ev f0]
            exact hK _ w' nofun (keep_same hS) rfl
          · as_aux_lemma =>
            intro a w' hS hO hF' hP K hK
            obtain ⟨_, fg, rfl⟩ := (hF' 13 rfl).1 441 _ rfl rfl
            have f0 := hO 29 (by rfl)
            refine if_wanted (by rfl) (yield_of (by rfl) fg) ?_
            unfold Oper.wp execOp
            simp only [Sem.run_pure, ev f0]
            exact hK _ w' nofun (keep_same hS) rfl
          · as_aux_lemma =>
            intro a w' hS hO hF' hP K hK
            obtain ⟨_, fg, rfl⟩ := (hF' 13 rfl).1 441 _ rfl rfl
            obtain ⟨_, f0, rfl⟩ := (hF' 14 rfl).1 442 _ rfl rfl
            refine if_wanted (by rfl) (yield_of (by rfl) fg) ?_
            refine wp_val (w' := w') (q := .bool true) (by unfold execOp; simp only [(ev f0)]; simp [go_sem]) ?_
            exact hK _ w' nofun (keep_same hS) rfl
          · as_aux_lemma =>
            intro a w' hS hO hF' hP K hK
            obtain ⟨_, f0, rfl⟩ := (hF' 13 rfl).1 441 _ rfl rfl
            obtain ⟨_, f1, rfl⟩ := (hF' 15 rfl).1 443 _ rfl rfl
            refine if_ok (by rfl) ?_
            refine wp_pick_and _ _ _ rfl (ev f0) (ev f1) ?_
            exact hK _ w' nofun (keep_same hS) rfl
          · as_aux_lemma =>
            intro a w' hS hO hF' hP K hK
            obtain ⟨_, f0, rfl⟩ := (hF' 16 rfl).1 444 _ rfl rfl
            refine if_ok (by rfl) ?_
            unfold Oper.wp execOp
            simp only [Sem.run_pure, ev f0]
            exact hK _ w' nofun (keep_same hS) rfl
          · as_aux_lemma =>
            intro a w' hS hO hF' hP K hK
            obtain ⟨_, fg, rfl⟩ := (hF' 17 rfl).1 445 _ rfl rfl
            have f0 := hO 30 (by rfl)
            refine if_wanted (by rfl) (yield_of (by rfl) fg) ?_
            unfold Oper.wp execOp
            simp only [Sem.run_pure, ev f0]
            exact hK _ w' nofun (keep_same hS) rfl
          · as_aux_lemma =>
            intro a w' hS hO hF' hP K hK
            obtain ⟨_, f0, rfl⟩ := (hF' 17 rfl).1 445 _ rfl rfl
            obtain ⟨_, f1, rfl⟩ := (hF' 18 rfl).1 446 _ rfl rfl
            refine if_ok (by rfl) ?_
            refine wp_pick_and _ _ _ rfl (ev f0) (ev f1) ?_
            exact hK _ w' nofun (keep_same hS) rfl
          · as_aux_lemma =>
            intro a w' hS hO hF' hP K hK
            obtain ⟨_, f0, rfl⟩ := (hF' 19 rfl).1 447 _ rfl rfl
            refine if_ok (by rfl) ?_
            unfold Oper.wp execOp
            simp only [Sem.run_pure, ev f0]
            exact hK _ w' nofun (keep_same hS) rfl
          · as_aux_lemma =>
            intro a w' hS hO hF' hP K hK
            obtain ⟨_, fg, rfl⟩ := (hF' 20 rfl).1 448 _ rfl rfl
            have f0 := hO 32 (by rfl)
            refine if_wanted (by rfl) (yield_of (by rfl) fg) ?_
            unfold Oper.wp execOp
            simp only [Sem.run_pure, ev f0]
            exact hK _ w' nofun (keep_same hS) rfl
          · as_aux_lemma =>
            intro a w' hS hO hF' hP K hK
            obtain ⟨_, fg, rfl⟩ := (hF' 20 rfl).1 448 _ rfl rfl
            obtain ⟨_, f0, rfl⟩ := (hF' 21 rfl).1 449 _ rfl rfl
            refine if_wanted (by rfl) (yield_of (by rfl) fg) ?_
            refine wp_val (w' := w') (q := .bool true) (by unfold execOp; simp only [(ev f0)]; simp [go_sem]) ?_
            exact hK _ w' nofun (keep_same hS) rfl
          · as_aux_lemma =>
            intro a w' hS hO hF' hP K hK
            obtain ⟨_, f0, rfl⟩ := (hF' 20 rfl).1 448 _ rfl rfl
            obtain ⟨_, f1, rfl⟩ := (hF' 22 rfl).1 450 _ rfl rfl
            refine if_ok (by rfl) ?_
            refine wp_pick_and _ _ _ rfl (ev f0) (ev f1) ?_
            exact hK _ w' nofun (keep_same hS) rfl
          · as_aux_lemma =>
            intro a w' hS hO hF' hP K hK
            obtain ⟨_, f0, rfl⟩ := (hF' 23 rfl).1 451 _ rfl rfl
            refine if_ok (by rfl) ?_
            unfold Oper.wp execOp
            simp only [Sem.run_pure, ev f0]
            exact hK _ w' nofun (keep_same hS) rfl
          · as_aux_lemma =>
            intro a w' hS hO hF' hP K hK
            obtain ⟨_, fg, rfl⟩ := (hF' 24 rfl).1 452 _ rfl rfl
            have ha := hO 31 (by rfl)
            refine if_wanted (by rfl) (yield_of (by rfl) fg) ?_
            refine wp_load_row 24 (.tmp 31) rfl g31 (ev ha) _ _ (0, 0) _ hS.1 Tryz.underlying24 rfl (by kernel_rfl) ?_
            exact hK _ w' nofun (keep_same hS) rfl
          · as_aux_lemma =>
            intro a w' hS hO hF' hP K hK
            obtain ⟨_, fg, rfl⟩ := (hF' 24 rfl).1 452 _ rfl rfl
            refine if_wanted (by rfl) (yield_of (by rfl) fg) ?_
            refine wp_calls rfl (enters_of Tryz.func59 (by kernel_rfl) rfl) (args := #[(.string ⟨#[49, 49, 49, 48]⟩)]) (by simp [Act.eval]) ?_
            obtain ⟨O31, O33, O35, r31, r33, r35, TT, BB⟩ := id hS
            apply Calls.mono
            (with_reducible apply sof_w); decide
            rintro e w2 ⟨A, n, c, rfl, hc, hn, hv, hb⟩
            exact ⟨_, rfl, hK _ w2 nofun (keep_below hb hS) ⟨A, n, c, rfl, hc, hn, hv.rd⟩⟩
          · as_aux_lemma =>
            intro a w' hS hO hF' hP K hK
            obtain ⟨_, fg, rfl⟩ := (hF' 24 rfl).1 452 _ rfl rfl
            obtain ⟨_, f0, rfl⟩ := (hF' 25 rfl).1 453 _ rfl rfl
            obtain ⟨_, f1, Ay1, ny1, cy1, rfl, hc1, hn1, hr1⟩ := (hF' 26 rfl).1 454 _ rfl rfl
            refine if_wanted (by rfl) (yield_of (by rfl) fg) ?_
            refine wp_calls rfl (enters_of Tryz.func16 (by kernel_rfl) rfl) (args := #[(.agg #[.slice A31 n31 c31, .bool true]), (.agg #[.slice Ay1 ny1 cy1, .bool (⟨ofL ⟨#[49, 49, 49, 48]⟩, true⟩ : V).s])]) (by simp [Act.eval, f0, f1]) ?_
            obtain ⟨O31, O33, O35, r31, r33, r35, TT, BB⟩ := id hS
            apply Calls.mono
            (with_reducible apply same_t); (repeat (first | assumption | (with_reducible (apply Nb.rd; assumption)) | (with_reducible (apply Rb.at_later; assumption)) | (with_reducible (apply Tabs.at_later; assumption)) | (with_reducible apply Rb.alloc) | (with_reducible apply Tabs.alloc) | (with_reducible apply Rb.drew) | (with_reducible apply Tabs.drew) | (show I64 _; unfold I64; omega) | omega)); (first | exact sameV_self _ | (decide +kernel))
            rintro e w2 ⟨rfl, hb⟩
            exact ⟨_, rfl, hK _ w2 nofun (keep_below hb hS) rfl⟩
          · as_aux_lemma =>
            intro a w' hS hO hF' hP K hK
            obtain ⟨_, f0, rfl⟩ := (hF' 24 rfl).1 452 _ rfl rfl
            obtain ⟨_, f1, rfl⟩ := (hF' 27 rfl).1 455 _ rfl rfl
            refine if_ok (by rfl) ?_
            refine wp_pick_and _ _ _ rfl (ev f0) (ev f1) ?_
            exact hK _ w' nofun (keep_same hS) rfl
          · as_aux_lemma =>
            intro a w' hS hO hF' hP K hK
            obtain ⟨_, f0, rfl⟩ := (hF' 28 rfl).1 456 _ rfl rfl
            refine if_ok (by rfl) ?_
            unfold Oper.wp execOp
            simp only [Sem.run_pure, ev f0]
            exact hK _ w' nofun (keep_same hS) rfl
          · as_aux_lemma =>
            intro a w' hS hO hF' hP K hK
            obtain ⟨_, fg, rfl⟩ := (hF' 29 rfl).1 457 _ rfl rfl
            have f0 := hO 34 (by rfl)
            refine if_wanted (by rfl) (yield_of (by rfl) fg) ?_
            unfold Oper.wp execOp
            simp only [Sem.run_pure, ev f0]
            exact hK _ w' nofun (keep_same hS) rfl
          · as_aux_lemma =>
            intro a w' hS hO hF' hP K hK
            obtain ⟨_, fg, rfl⟩ := (hF' 29 rfl).1 457 _ rfl rfl
            obtain ⟨_, f0, rfl⟩ := (hF' 30 rfl).1 458 _ rfl rfl
            refine if_wanted (by rfl) (yield_of (by rfl) fg) ?_
            refine wp_val (w' := w') (q := .bool true) (by unfold execOp; simp only [(ev f0)]; simp [go_sem]) ?_
            exact hK _ w' nofun (keep_same hS) rfl
          · as_aux_lemma =>
            intro a w' hS hO hF' hP K hK
            obtain ⟨_, f0, rfl⟩ := (hF' 29 rfl).1 457 _ rfl rfl
            obtain ⟨_, f1, rfl⟩ := (hF' 31 rfl).1 459 _ rfl rfl
            refine if_ok (by rfl) ?_
            refine wp_pick_and _ _ _ rfl (ev f0) (ev f1) ?_
            exact hK _ w' nofun (keep_same hS) rfl
          · as_aux_lemma =>
            intro a w' hS hO hF' hP K hK
            obtain ⟨_, f0, rfl⟩ := (hF' 32 rfl).1 460 _ rfl rfl
            refine if_ok (by rfl) ?_
            unfold Oper.wp execOp
            simp only [Sem.run_pure, ev f0]
            exact hK _ w' nofun (keep_same hS) rfl
          · as_aux_lemma =>
            intro a w' hS hO hF' hP K hK
            obtain ⟨_, fg, rfl⟩ := (hF' 33 rfl).1 461 _ rfl rfl
            have ha := hO 33 (by rfl)
            refine if_wanted (by rfl) (yield_of (by rfl) fg) ?_
            refine wp_load_row 24 (.tmp 33) rfl g33 (ev ha) _ _ (0, 0) _ hS.2.1 Tryz.underlying24 rfl (by kernel_rfl) ?_
            exact hK _ w' nofun (keep_same hS) rfl
          · as_aux_lemma =>
            intro a w' hS hO hF' hP K hK
            obtain ⟨_, fg, rfl⟩ := (hF' 33 rfl).1 461 _ rfl rfl
            refine if_wanted (by rfl) (yield_of (by rfl) fg) ?_
            refine wp_calls rfl (enters_of Tryz.func59 (by kernel_rfl) rfl) (args := #[(.string ⟨#[120, 120, 120, 49]⟩)]) (by simp [Act.eval]) ?_
            obtain ⟨O31, O33, O35, r31, r33, r35, TT, BB⟩ := id hS
            apply Calls.mono
            (with_reducible apply sof_w); decide
            rintro e w2 ⟨A, n, c, rfl, hc, hn, hv, hb⟩
            exact ⟨_, rfl, hK _ w2 nofun (keep_below hb hS) ⟨A, n, c, rfl, hc, hn, hv.rd⟩⟩
          · as_aux_lemma =>
            intro a w' hS hO hF' hP K hK
            obtain ⟨_, fg, rfl⟩ := (hF' 33 rfl).1 461 _ rfl rfl
            obtain ⟨_, f0, rfl⟩ := (hF' 34 rfl).1 462 _ rfl rfl
            obtain ⟨_, f1, Ay1, ny1, cy1, rfl, hc1, hn1, hr1⟩ := (hF' 35 rfl).1 463 _ rfl rfl
            refine if_wanted (by rfl) (yield_of (by rfl) fg) ?_
            refine wp_calls rfl (enters_of Tryz.func16 (by kernel_rfl) rfl) (args := #[(.agg #[.slice A33 n33 c33, .bool true]), (.agg #[.slice Ay1 ny1 cy1, .bool (⟨ofL ⟨#[120, 120, 120, 49]⟩, true⟩ : V).s])]) (by simp [Act.eval, f0, f1]) ?_
            obtain ⟨O31, O33, O35, r31, r33, r35, TT, BB⟩ := id hS
            apply Calls.mono
            (with_reducible apply same_t); (repeat (first | assumption | (with_reducible (apply Nb.rd; assumption)) | (with_reducible (apply Rb.at_later; assumption)) | (with_reducible (apply Tabs.at_later; assumption)) | (with_reducible apply Rb.alloc) | (with_reducible apply Tabs.alloc) | (with_reducible apply Rb.drew) | (with_reducible apply Tabs.drew) | (show I64 _; unfold I64; omega) | omega)); (first | exact sameV_self _ | (decide +kernel))
            rintro e w2 ⟨rfl, hb⟩
            exact ⟨_, rfl, hK _ w2 nofun (keep_below hb hS) rfl⟩
          · as_aux_lemma =>
            intro a w' hS hO hF' hP K hK
            obtain ⟨_, f0, rfl⟩ := (hF' 33 rfl).1 461 _ rfl rfl
            obtain ⟨_, f1, rfl⟩ := (hF' 36 rfl).1 464 _ rfl rfl
            refine if_ok (by rfl) ?_
            refine wp_pick_and _ _ _ rfl (ev f0) (ev f1) ?_
            exact hK _ w' nofun (keep_same hS) rfl
          · as_aux_lemma =>
            intro a w' hS hO hF' hP K hK
            obtain ⟨_, f0, rfl⟩ := (hF' 37 rfl).1 465 _ rfl rfl
            refine if_ok (by rfl) ?_
            unfold Oper.wp execOp
            simp only [Sem.run_pure, ev f0]
            exact hK _ w' nofun (keep_same hS) rfl
          · as_aux_lemma =>
            intro a w' hS hO hF' hP K hK
            obtain ⟨_, fg, rfl⟩ := (hF' 38 rfl).1 466 _ rfl rfl
            have f0 := hO 36 (by rfl)
            refine if_wanted (by rfl) (yield_of (by rfl) fg) ?_
            unfold Oper.wp execOp
            simp only [Sem.run_pure, ev f0]
            exact hK _ w' nofun (keep_same hS) rfl
          · as_aux_lemma =>
            intro a w' hS hO hF' hP K hK
            obtain ⟨_, fg, rfl⟩ := (hF' 38 rfl).1 466 _ rfl rfl
            obtain ⟨_, f0, rfl⟩ := (hF' 39 rfl).1 467 _ rfl rfl
            refine if_wanted (by rfl) (yield_of (by rfl) fg) ?_
            refine wp_val (w' := w') (q := .bool true) (by unfold execOp; simp only [(ev f0)]; simp [go_sem]) ?_
            exact hK _ w' nofun (keep_same hS) rfl
          · as_aux_lemma =>
            intro a w' hS hO hF' hP K hK
            obtain ⟨_, f0, rfl⟩ := (hF' 38 rfl).1 466 _ rfl rfl
            obtain ⟨_, f1, rfl⟩ := (hF' 40 rfl).1 468 _ rfl rfl
            refine if_ok (by rfl) ?_
            refine wp_pick_and _ _ _ rfl (ev f0) (ev f1) ?_
            exact hK _ w' nofun (keep_same hS) rfl
          · as_aux_lemma =>
            intro a w' hS hO hF' hP K hK
            obtain ⟨_, f0, rfl⟩ := (hF' 41 rfl).1 469 _ rfl rfl
            refine if_ok (by rfl) ?_
            unfold Oper.wp execOp
            simp only [Sem.run_pure, ev f0]
            exact hK _ w' nofun (keep_same hS) rfl
          · as_aux_lemma =>
            intro a w' hS hO hF' hP K hK
            obtain ⟨_, fg, rfl⟩ := (hF' 42 rfl).1 470 _ rfl rfl
            have ha := hO 35 (by rfl)
            refine if_wanted (by rfl) (yield_of (by rfl) fg) ?_
            refine wp_load_row 24 (.tmp 35) rfl g35 (ev ha) _ _ (0, 0) _ hS.2.2.1 Tryz.underlying24 rfl (by kernel_rfl) ?_
            exact hK _ w' nofun (keep_same hS) rfl
          · as_aux_lemma =>
            intro a w' hS hO hF' hP K hK
            obtain ⟨_, fg, rfl⟩ := (hF' 42 rfl).1 470 _ rfl rfl
            refine if_wanted (by rfl) (yield_of (by rfl) fg) ?_
            refine wp_calls rfl (enters_of Tryz.func54 (by kernel_rfl) rfl) (args := #[(.string ⟨#[49, 48, 49, 48]⟩)]) (by simp [Act.eval]) ?_
            obtain ⟨O31, O33, O35, r31, r33, r35, TT, BB⟩ := id hS
            apply Calls.mono
            (with_reducible apply of_w); decide
            rintro e w2 ⟨A, n, c, rfl, hc, hn, hv, hb⟩
            exact ⟨_, rfl, hK _ w2 nofun (keep_below hb hS) ⟨A, n, c, rfl, hc, hn, hv.rd⟩⟩
          · as_aux_lemma =>
            intro a w' hS hO hF' hP K hK
            obtain ⟨_, fg, rfl⟩ := (hF' 42 rfl).1 470 _ rfl rfl
            obtain ⟨_, f0, rfl⟩ := (hF' 43 rfl).1 471 _ rfl rfl
            obtain ⟨_, f1, Ay1, ny1, cy1, rfl, hc1, hn1, hr1⟩ := (hF' 44 rfl).1 472 _ rfl rfl
            refine if_wanted (by rfl) (yield_of (by rfl) fg) ?_
            refine wp_calls rfl (enters_of Tryz.func16 (by kernel_rfl) rfl) (args := #[(.agg #[.slice A35 n35 c35, .bool false]), (.agg #[.slice Ay1 ny1 cy1, .bool (⟨ofL ⟨#[49, 48, 49, 48]⟩, false⟩ : V).s])]) (by simp [Act.eval, f0, f1]) ?_
            obtain ⟨O31, O33, O35, r31, r33, r35, TT, BB⟩ := id hS
            apply Calls.mono
            (with_reducible apply same_t); (repeat (first | assumption | (with_reducible (apply Nb.rd; assumption)) | (with_reducible (apply Rb.at_later; assumption)) | (with_reducible (apply Tabs.at_later; assumption)) | (with_reducible apply Rb.alloc) | (with_reducible apply Tabs.alloc) | (with_reducible apply Rb.drew) | (with_reducible apply Tabs.drew) | (show I64 _; unfold I64; omega) | omega)); (first | exact sameV_self _ | (decide +kernel))
            rintro e w2 ⟨rfl, hb⟩
            exact ⟨_, rfl, hK _ w2 nofun (keep_below hb hS) rfl⟩
          · as_aux_lemma =>
            intro a w' hS hO hF' hP K hK
            obtain ⟨_, f0, rfl⟩ := (hF' 42 rfl).1 470 _ rfl rfl
            obtain ⟨_, f1, rfl⟩ := (hF' 45 rfl).1 473 _ rfl rfl
            refine if_ok (by rfl) ?_
            refine wp_pick_and _ _ _ rfl (ev f0) (ev f1) ?_
            exact hK _ w' nofun (keep_same hS) rfl
          · as_aux_lemma =>
            intro a w' hS hO hF' hP K hK
            obtain ⟨_, f0, rfl⟩ := (hF' 46 rfl).1 474 _ rfl rfl
            refine if_ok (by rfl) ?_
            unfold Oper.wp execOp
            simp only [Sem.run_pure, ev f0]
            exact hK _ w' nofun (keep_same hS) rfl
          · as_aux_lemma =>
            intro a w' hS hO hF' hP K hK
            obtain ⟨_, fg, rfl⟩ := (hF' 47 rfl).1 475 _ rfl rfl
            refine if_wanted (by rfl) (yield_of (by rfl) fg) ?_
            refine wp_calls rfl (enters_of Tryz.func54 (by kernel_rfl) rfl) (args := #[(.string ⟨#[49, 122, 48]⟩)]) (by simp [Act.eval]) ?_
            obtain ⟨O31, O33, O35, r31, r33, r35, TT, BB⟩ := id hS
            apply Calls.mono
            (with_reducible apply of_w); decide
            rintro e w2 ⟨A, n, c, rfl, hc, hn, hv, hb⟩
            exact ⟨_, rfl, hK _ w2 nofun (keep_below hb hS) ⟨A, n, c, rfl, hc, hn, hv.rd⟩⟩
          · as_aux_lemma =>
            intro a w' hS hO hF' hP K hK
            obtain ⟨_, fg, rfl⟩ := (hF' 47 rfl).1 475 _ rfl rfl
            refine if_wanted (by rfl) (yield_of (by rfl) fg) ?_
            refine wp_calls rfl (enters_of Tryz.func54 (by kernel_rfl) rfl) (args := #[(.string ⟨#[49, 49, 48]⟩)]) (by simp [Act.eval]) ?_
            obtain ⟨O31, O33, O35, r31, r33, r35, TT, BB⟩ := id hS
            apply Calls.mono
            (with_reducible apply of_w); decide
            rintro e w2 ⟨A, n, c, rfl, hc, hn, hv, hb⟩
            exact ⟨_, rfl, hK _ w2 nofun (keep_below hb hS) ⟨A, n, c, rfl, hc, hn, hv.rd⟩⟩
          · as_aux_lemma =>
            intro a w' hS hO hF' hP K hK
            obtain ⟨_, fg, rfl⟩ := (hF' 47 rfl).1 475 _ rfl rfl
            obtain ⟨_, f0, Ay0, ny0, cy0, rfl, hc0, hn0, hr0⟩ := (hF' 48 rfl).1 476 _ rfl rfl
            obtain ⟨_, f1, Ay1, ny1, cy1, rfl, hc1, hn1, hr1⟩ := (hF' 49 rfl).1 477 _ rfl rfl
            refine if_wanted (by rfl) (yield_of (by rfl) fg) ?_
            refine wp_calls rfl (enters_of Tryz.func21 (by kernel_rfl) rfl) (args := #[(.agg #[.slice Ay0 ny0 cy0, .bool (⟨ofL ⟨#[49, 122, 48]⟩, false⟩ : V).s]), (.agg #[.slice Ay1 ny1 cy1, .bool (⟨ofL ⟨#[49, 49, 48]⟩, false⟩ : V).s])]) (by simp [Act.eval, f0, f1]) ?_
            obtain ⟨O31, O33, O35, r31, r33, r35, TT, BB⟩ := id hS
            apply Calls.mono
            (with_reducible apply mz_t true); (repeat (first | assumption | (with_reducible (apply Nb.rd; assumption)) | (with_reducible (apply Rb.at_later; assumption)) | (with_reducible (apply Tabs.at_later; assumption)) | (with_reducible apply Rb.alloc) | (with_reducible apply Tabs.alloc) | (with_reducible apply Rb.drew) | (with_reducible apply Tabs.drew) | (show I64 _; unfold I64; omega) | omega)); decide +kernel
            rintro e w2 ⟨rfl, hb⟩
            exact ⟨_, rfl, hK _ w2 nofun (keep_below hb hS) rfl⟩
          · as_aux_lemma =>
            intro a w' hS hO hF' hP K hK
            obtain ⟨_, f0, rfl⟩ := (hF' 47 rfl).1 475 _ rfl rfl
            obtain ⟨_, f1, rfl⟩ := (hF' 50 rfl).1 478 _ rfl rfl
            refine if_ok (by rfl) ?_
            refine wp_pick_and _ _ _ rfl (ev f0) (ev f1) ?_
            exact hK _ w' nofun (keep_same hS) rfl
          · as_aux_lemma =>
            intro a w' hS hO hF' hP K hK
            obtain ⟨_, f0, rfl⟩ := (hF' 51 rfl).1 479 _ rfl rfl
            refine if_ok (by rfl) ?_
            unfold Oper.wp execOp
            simp only [Sem.run_pure, ev f0]
            exact hK _ w' nofun (keep_same hS) rfl
          · as_aux_lemma =>
            intro a w' hS hO hF' hP K hK
            obtain ⟨_, fg, rfl⟩ := (hF' 52 rfl).1 480 _ rfl rfl
            refine if_wanted (by rfl) (yield_of (by rfl) fg) ?_
            refine wp_calls rfl (enters_of Tryz.func54 (by kernel_rfl) rfl) (args := #[(.string ⟨#[49, 120, 48]⟩)]) (by simp [Act.eval]) ?_
            obtain ⟨O31, O33, O35, r31, r33, r35, TT, BB⟩ := id hS
            apply Calls.mono
            (with_reducible apply of_w); decide
            rintro e w2 ⟨A, n, c, rfl, hc, hn, hv, hb⟩
            exact ⟨_, rfl, hK _ w2 nofun (keep_below hb hS) ⟨A, n, c, rfl, hc, hn, hv.rd⟩⟩
          · as_aux_lemma =>
            intro a w' hS hO hF' hP K hK
            obtain ⟨_, fg, rfl⟩ := (hF' 52 rfl).1 480 _ rfl rfl
            refine if_wanted (by rfl) (yield_of (by rfl) fg) ?_
            refine wp_calls rfl (enters_of Tryz.func54 (by kernel_rfl) rfl) (args := #[(.string ⟨#[49, 49, 48]⟩)]) (by simp [Act.eval]) ?_
            obtain ⟨O31, O33, O35, r31, r33, r35, TT, BB⟩ := id hS
            apply Calls.mono
            (with_reducible apply of_w); decide
            rintro e w2 ⟨A, n, c, rfl, hc, hn, hv, hb⟩
            exact ⟨_, rfl, hK _ w2 nofun (keep_below hb hS) ⟨A, n, c, rfl, hc, hn, hv.rd⟩⟩
          · as_aux_lemma =>
            intro a w' hS hO hF' hP K hK
            obtain ⟨_, fg, rfl⟩ := (hF' 52 rfl).1 480 _ rfl rfl
            obtain ⟨_, f0, Ay0, ny0, cy0, rfl, hc0, hn0, hr0⟩ := (hF' 53 rfl).1 481 _ rfl rfl
            obtain ⟨_, f1, Ay1, ny1, cy1, rfl, hc1, hn1, hr1⟩ := (hF' 54 rfl).1 482 _ rfl rfl
            refine if_wanted (by rfl) (yield_of (by rfl) fg) ?_
            refine wp_calls rfl (enters_of Tryz.func21 (by kernel_rfl) rfl) (args := #[(.agg #[.slice Ay0 ny0 cy0, .bool (⟨ofL ⟨#[49, 120, 48]⟩, false⟩ : V).s]), (.agg #[.slice Ay1 ny1 cy1, .bool (⟨ofL ⟨#[49, 49, 48]⟩, false⟩ : V).s])]) (by simp [Act.eval, f0, f1]) ?_
            obtain ⟨O31, O33, O35, r31, r33, r35, TT, BB⟩ := id hS
            apply Calls.mono
            (with_reducible apply mz_t false); (repeat (first | assumption | (with_reducible (apply Nb.rd; assumption)) | (with_reducible (apply Rb.at_later; assumption)) | (with_reducible (apply Tabs.at_later; assumption)) | (with_reducible apply Rb.alloc) | (with_reducible apply Tabs.alloc) | (with_reducible apply Rb.drew) | (with_reducible apply Tabs.drew) | (show I64 _; unfold I64; omega) | omega)); decide +kernel
            rintro e w2 ⟨rfl, hb⟩
            exact ⟨_, rfl, hK _ w2 nofun (keep_below hb hS) rfl⟩
          · as_aux_lemma =>
            intro a w' hS hO hF' hP K hK
            obtain ⟨_, fg, rfl⟩ := (hF' 52 rfl).1 480 _ rfl rfl
            obtain ⟨_, f0, rfl⟩ := (hF' 55 rfl).1 483 _ rfl rfl
            refine if_wanted (by rfl) (yield_of (by rfl) fg) ?_
            refine wp_not _ rfl (ev f0) ?_
            exact hK _ w' nofun (keep_same hS) rfl
          · as_aux_lemma =>
            intro a w' hS hO hF' hP K hK
            obtain ⟨_, f0, rfl⟩ := (hF' 52 rfl).1 480 _ rfl rfl
            obtain ⟨_, f1, rfl⟩ := (hF' 56 rfl).1 484 _ rfl rfl
            refine if_ok (by rfl) ?_
            refine wp_pick_and _ _ _ rfl (ev f0) (ev f1) ?_
            exact hK _ w' nofun (keep_same hS) rfl
          · as_aux_lemma =>
            intro a w' hS hO hF' hP K hK
            obtain ⟨_, f0, rfl⟩ := (hF' 57 rfl).1 485 _ rfl rfl
            refine if_ok (by rfl) ?_
            unfold Oper.wp execOp
            simp only [Sem.run_pure, ev f0]
            exact hK _ w' nofun (keep_same hS) rfl
          · as_aux_lemma =>
            intro a w' hS hO hF' hP K hK
            obtain ⟨_, fg, rfl⟩ := (hF' 58 rfl).1 486 _ rfl rfl
            refine if_wanted (by rfl) (yield_of (by rfl) fg) ?_
            refine wp_calls rfl (enters_of Tryz.func54 (by kernel_rfl) rfl) (args := #[(.string ⟨#[49, 120, 48]⟩)]) (by simp [Act.eval]) ?_
            obtain ⟨O31, O33, O35, r31, r33, r35, TT, BB⟩ := id hS
            apply Calls.mono
            (with_reducible apply of_w); decide
            rintro e w2 ⟨A, n, c, rfl, hc, hn, hv, hb⟩
            exact ⟨_, rfl, hK _ w2 nofun (keep_below hb hS) ⟨A, n, c, rfl, hc, hn, hv.rd⟩⟩
          · as_aux_lemma =>
            intro a w' hS hO hF' hP K hK
            obtain ⟨_, fg, rfl⟩ := (hF' 58 rfl).1 486 _ rfl rfl
            refine if_wanted (by rfl) (yield_of (by rfl) fg) ?_
            refine wp_calls rfl (enters_of Tryz.func54 (by kernel_rfl) rfl) (args := #[(.string ⟨#[49, 122, 48]⟩)]) (by simp [Act.eval]) ?_
            obtain ⟨O31, O33, O35, r31, r33, r35, TT, BB⟩ := id hS
            apply Calls.mono
            (with_reducible apply of_w); decide
            rintro e w2 ⟨A, n, c, rfl, hc, hn, hv, hb⟩
            exact ⟨_, rfl, hK _ w2 nofun (keep_below hb hS) ⟨A, n, c, rfl, hc, hn, hv.rd⟩⟩
          · as_aux_lemma =>
            intro a w' hS hO hF' hP K hK
            obtain ⟨_, fg, rfl⟩ := (hF' 58 rfl).1 486 _ rfl rfl
            obtain ⟨_, f0, Ay0, ny0, cy0, rfl, hc0, hn0, hr0⟩ := (hF' 59 rfl).1 487 _ rfl rfl
            obtain ⟨_, f1, Ay1, ny1, cy1, rfl, hc1, hn1, hr1⟩ := (hF' 60 rfl).1 488 _ rfl rfl
            refine if_wanted (by rfl) (yield_of (by rfl) fg) ?_
            refine wp_calls rfl (enters_of Tryz.func23 (by kernel_rfl) rfl) (args := #[(.agg #[.slice Ay0 ny0 cy0, .bool (⟨ofL ⟨#[49, 120, 48]⟩, false⟩ : V).s]), (.agg #[.slice Ay1 ny1 cy1, .bool (⟨ofL ⟨#[49, 122, 48]⟩, false⟩ : V).s])]) (by simp [Act.eval, f0, f1]) ?_
            obtain ⟨O31, O33, O35, r31, r33, r35, TT, BB⟩ := id hS
            apply Calls.mono
            (with_reducible apply mx_t true); (repeat (first | assumption | (with_reducible (apply Nb.rd; assumption)) | (with_reducible (apply Rb.at_later; assumption)) | (with_reducible (apply Tabs.at_later; assumption)) | (with_reducible apply Rb.alloc) | (with_reducible apply Tabs.alloc) | (with_reducible apply Rb.drew) | (with_reducible apply Tabs.drew) | (show I64 _; unfold I64; omega) | omega)); decide +kernel
            rintro e w2 ⟨rfl, hb⟩
            exact ⟨_, rfl, hK _ w2 nofun (keep_below hb hS) rfl⟩
          · as_aux_lemma =>
            intro a w' hS hO hF' hP K hK
            obtain ⟨_, f0, rfl⟩ := (hF' 58 rfl).1 486 _ rfl rfl
            obtain ⟨_, f1, rfl⟩ := (hF' 61 rfl).1 489 _ rfl rfl
            refine if_ok (by rfl) ?_
            refine wp_pick_and _ _ _ rfl (ev f0) (ev f1) ?_
            exact hK _ w' nofun (keep_same hS) rfl
          · as_aux_lemma =>
            intro a w' hS hO hF' hP K hK
            obtain ⟨_, f0, rfl⟩ := (hF' 62 rfl).1 490 _ rfl rfl
            refine if_ok (by rfl) ?_
            unfold Oper.wp execOp
            simp only [Sem.run_pure, ev f0]
            exact hK _ w' nofun (keep_same hS) rfl
          · as_aux_lemma =>
            intro a w' hS hO hF' hP K hK
            obtain ⟨_, fg, rfl⟩ := (hF' 63 rfl).1 491 _ rfl rfl
            refine if_wanted (by rfl) (yield_of (by rfl) fg) ?_
            refine wp_calls rfl (enters_of Tryz.func54 (by kernel_rfl) rfl) (args := #[(.string ⟨#[49, 120, 48]⟩)]) (by simp [Act.eval]) ?_
            obtain ⟨O31, O33, O35, r31, r33, r35, TT, BB⟩ := id hS
            apply Calls.mono
            (with_reducible apply of_w); decide
            rintro e w2 ⟨A, n, c, rfl, hc, hn, hv, hb⟩
            exact ⟨_, rfl, hK _ w2 nofun (keep_below hb hS) ⟨A, n, c, rfl, hc, hn, hv.rd⟩⟩
          · as_aux_lemma =>
            intro a w' hS hO hF' hP K hK
            obtain ⟨_, fg, rfl⟩ := (hF' 63 rfl).1 491 _ rfl rfl
            refine if_wanted (by rfl) (yield_of (by rfl) fg) ?_
            refine wp_calls rfl (enters_of Tryz.func54 (by kernel_rfl) rfl) (args := #[(.string ⟨#[48, 120, 48]⟩)]) (by simp [Act.eval]) ?_
            obtain ⟨O31, O33, O35, r31, r33, r35, TT, BB⟩ := id hS
            apply Calls.mono
            (with_reducible apply of_w); decide
            rintro e w2 ⟨A, n, c, rfl, hc, hn, hv, hb⟩
            exact ⟨_, rfl, hK _ w2 nofun (keep_below hb hS) ⟨A, n, c, rfl, hc, hn, hv.rd⟩⟩
          · as_aux_lemma =>
            intro a w' hS hO hF' hP K hK
            obtain ⟨_, fg, rfl⟩ := (hF' 63 rfl).1 491 _ rfl rfl
            obtain ⟨_, f0, Ay0, ny0, cy0, rfl, hc0, hn0, hr0⟩ := (hF' 64 rfl).1 492 _ rfl rfl
            obtain ⟨_, f1, Ay1, ny1, cy1, rfl, hc1, hn1, hr1⟩ := (hF' 65 rfl).1 493 _ rfl rfl
            refine if_wanted (by rfl) (yield_of (by rfl) fg) ?_
            refine wp_calls rfl (enters_of Tryz.func23 (by kernel_rfl) rfl) (args := #[(.agg #[.slice Ay0 ny0 cy0, .bool (⟨ofL ⟨#[49, 120, 48]⟩, false⟩ : V).s]), (.agg #[.slice Ay1 ny1 cy1, .bool (⟨ofL ⟨#[48, 120, 48]⟩, false⟩ : V).s])]) (by simp [Act.eval, f0, f1]) ?_
            obtain ⟨O31, O33, O35, r31, r33, r35, TT, BB⟩ := id hS
            apply Calls.mono
            (with_reducible apply mx_t false); (repeat (first | assumption | (with_reducible (apply Nb.rd; assumption)) | (with_reducible (apply Rb.at_later; assumption)) | (with_reducible (apply Tabs.at_later; assumption)) | (with_reducible apply Rb.alloc) | (with_reducible apply Tabs.alloc) | (with_reducible apply Rb.drew) | (with_reducible apply Tabs.drew) | (show I64 _; unfold I64; omega) | omega)); decide +kernel
            rintro e w2 ⟨rfl, hb⟩
            exact ⟨_, rfl, hK _ w2 nofun (keep_below hb hS) rfl⟩
          · as_aux_lemma =>
            intro a w' hS hO hF' hP K hK
            obtain ⟨_, fg, rfl⟩ := (hF' 63 rfl).1 491 _ rfl rfl
            obtain ⟨_, f0, rfl⟩ := (hF' 66 rfl).1 494 _ rfl rfl
            refine if_wanted (by rfl) (yield_of (by rfl) fg) ?_
            refine wp_not _ rfl (ev f0) ?_
            exact hK _ w' nofun (keep_same hS) rfl
          · as_aux_lemma =>
            intro a w' hS hO hF' hP K hK
            obtain ⟨_, f0, rfl⟩ := (hF' 63 rfl).1 491 _ rfl rfl
            obtain ⟨_, f1, rfl⟩ := (hF' 67 rfl).1 495 _ rfl rfl
            refine if_ok (by rfl) ?_
            refine wp_pick_and _ _ _ rfl (ev f0) (ev f1) ?_
            exact hK _ w' nofun (keep_same hS) rfl
          · as_aux_lemma =>
            intro a w' hS hO hF' hP K hK
            obtain ⟨_, f0, rfl⟩ := (hF' 68 rfl).1 496 _ rfl rfl
            refine if_ok (by rfl) ?_
            unfold Oper.wp execOp
            simp only [Sem.run_pure, ev f0]
            exact hK _ w' nofun (keep_same hS) rfl
          · as_aux_lemma =>
            intro a w' hS hO hF' hP K hK
            obtain ⟨_, fg, rfl⟩ := (hF' 69 rfl).1 497 _ rfl rfl
            refine if_wanted (by rfl) (yield_of (by rfl) fg) ?_
            refine wp_calls rfl (enters_of Tryz.func54 (by kernel_rfl) rfl) (args := #[(.string ⟨#[120]⟩)]) (by simp [Act.eval]) ?_
            obtain ⟨O31, O33, O35, r31, r33, r35, TT, BB⟩ := id hS
            apply Calls.mono
            (with_reducible apply of_w); decide
            rintro e w2 ⟨A, n, c, rfl, hc, hn, hv, hb⟩
            exact ⟨_, rfl, hK _ w2 nofun (keep_below hb hS) ⟨A, n, c, rfl, hc, hn, hv.rd⟩⟩
          · as_aux_lemma =>
            intro a w' hS hO hF' hP K hK
            obtain ⟨_, fg, rfl⟩ := (hF' 69 rfl).1 497 _ rfl rfl
            refine if_wanted (by rfl) (yield_of (by rfl) fg) ?_
            refine wp_calls rfl (enters_of Tryz.func54 (by kernel_rfl) rfl) (args := #[(.string ⟨#[48, 120]⟩)]) (by simp [Act.eval]) ?_
            obtain ⟨O31, O33, O35, r31, r33, r35, TT, BB⟩ := id hS
            apply Calls.mono
            (with_reducible apply of_w); decide
            rintro e w2 ⟨A, n, c, rfl, hc, hn, hv, hb⟩
            exact ⟨_, rfl, hK _ w2 nofun (keep_below hb hS) ⟨A, n, c, rfl, hc, hn, hv.rd⟩⟩
          · as_aux_lemma =>
            intro a w' hS hO hF' hP K hK
            obtain ⟨_, fg, rfl⟩ := (hF' 69 rfl).1 497 _ rfl rfl
            obtain ⟨_, f0, Ay0, ny0, cy0, rfl, hc0, hn0, hr0⟩ := (hF' 70 rfl).1 498 _ rfl rfl
            obtain ⟨_, f1, Ay1, ny1, cy1, rfl, hc1, hn1, hr1⟩ := (hF' 71 rfl).1 499 _ rfl rfl
            refine if_wanted (by rfl) (yield_of (by rfl) fg) ?_
            refine wp_calls rfl (enters_of Tryz.func21 (by kernel_rfl) rfl) (args := #[(.agg #[.slice Ay0 ny0 cy0, .bool (⟨ofL ⟨#[120]⟩, false⟩ : V).s]), (.agg #[.slice Ay1 ny1 cy1, .bool (⟨ofL ⟨#[48, 120]⟩, false⟩ : V).s])]) (by simp [Act.eval, f0, f1]) ?_
            obtain ⟨O31, O33, O35, r31, r33, r35, TT, BB⟩ := id hS
            apply Calls.mono
            (with_reducible apply mz_t true); (repeat (first | assumption | (with_reducible (apply Nb.rd; assumption)) | (with_reducible (apply Rb.at_later; assumption)) | (with_reducible (apply Tabs.at_later; assumption)) | (with_reducible apply Rb.alloc) | (with_reducible apply Tabs.alloc) | (with_reducible apply Rb.drew) | (with_reducible apply Tabs.drew) | (show I64 _; unfold I64; omega) | omega)); decide +kernel
            rintro e w2 ⟨rfl, hb⟩
            exact ⟨_, rfl, hK _ w2 nofun (keep_below hb hS) rfl⟩
          · as_aux_lemma =>
            intro a w' hS hO hF' hP K hK
            obtain ⟨_, f0, rfl⟩ := (hF' 69 rfl).1 497 _ rfl rfl
            obtain ⟨_, f1, rfl⟩ := (hF' 72 rfl).1 500 _ rfl rfl
            refine if_ok (by rfl) ?_
            refine wp_pick_and _ _ _ rfl (ev f0) (ev f1) ?_
            exact hK _ w' nofun (keep_same hS) rfl
          · as_aux_lemma =>
            intro a w' hS hO hF' hP K hK
            obtain ⟨_, f0, rfl⟩ := (hF' 73 rfl).1 501 _ rfl rfl
            refine if_ok (by rfl) ?_
            unfold Oper.wp execOp
            simp only [Sem.run_pure, ev f0]
            exact hK _ w' nofun (keep_same hS) rfl
          · as_aux_lemma =>
            intro a w' hS hO hF' hP K hK
            obtain ⟨_, fg, rfl⟩ := (hF' 74 rfl).1 502 _ rfl rfl
            refine if_wanted (by rfl) (yield_of (by rfl) fg) ?_
            refine wp_calls rfl (enters_of Tryz.func54 (by kernel_rfl) rfl) (args := #[(.string ⟨#[120, 122, 49]⟩)]) (by simp [Act.eval]) ?_
            obtain ⟨O31, O33, O35, r31, r33, r35, TT, BB⟩ := id hS
            apply Calls.mono
            (with_reducible apply of_w); decide
            rintro e w2 ⟨A, n, c, rfl, hc, hn, hv, hb⟩
            exact ⟨_, rfl, hK _ w2 nofun (keep_below hb hS) ⟨A, n, c, rfl, hc, hn, hv.rd⟩⟩
          · as_aux_lemma =>
            intro a w' hS hO hF' hP K hK
            obtain ⟨_, fg, rfl⟩ := (hF' 74 rfl).1 502 _ rfl rfl
            refine if_wanted (by rfl) (yield_of (by rfl) fg) ?_
            refine wp_calls rfl (enters_of Tryz.func54 (by kernel_rfl) rfl) (args := #[(.string ⟨#[48, 49, 49]⟩)]) (by simp [Act.eval]) ?_
            obtain ⟨O31, O33, O35, r31, r33, r35, TT, BB⟩ := id hS
            apply Calls.mono
            (with_reducible apply of_w); decide
            rintro e w2 ⟨A, n, c, rfl, hc, hn, hv, hb⟩
            exact ⟨_, rfl, hK _ w2 nofun (keep_below hb hS) ⟨A, n, c, rfl, hc, hn, hv.rd⟩⟩
          · as_aux_lemma =>
            intro a w' hS hO hF' hP K hK
            obtain ⟨_, fg, rfl⟩ := (hF' 74 rfl).1 502 _ rfl rfl
            obtain ⟨_, f0, Ay0, ny0, cy0, rfl, hc0, hn0, hr0⟩ := (hF' 75 rfl).1 503 _ rfl rfl
            obtain ⟨_, f1, Ay1, ny1, cy1, rfl, hc1, hn1, hr1⟩ := (hF' 76 rfl).1 504 _ rfl rfl
            refine if_wanted (by rfl) (yield_of (by rfl) fg) ?_
            refine wp_calls rfl (enters_of Tryz.func33 (by kernel_rfl) rfl) (args := #[(.agg #[.slice Ay0 ny0 cy0, .bool (⟨ofL ⟨#[120, 122, 49]⟩, false⟩ : V).s]), (.agg #[.slice Ay1 ny1 cy1, .bool (⟨ofL ⟨#[48, 49, 49]⟩, false⟩ : V).s])]) (by simp [Act.eval, f0, f1]) ?_
            obtain ⟨O31, O33, O35, r31, r33, r35, TT, BB⟩ := id hS
            apply Calls.mono
            (with_reducible apply lq_t true); (repeat (first | assumption | (with_reducible (apply Nb.rd; assumption)) | (with_reducible (apply Rb.at_later; assumption)) | (with_reducible (apply Tabs.at_later; assumption)) | (with_reducible apply Rb.alloc) | (with_reducible apply Tabs.alloc) | (with_reducible apply Rb.drew) | (with_reducible apply Tabs.drew) | (show I64 _; unfold I64; omega) | omega)); decide +kernel
            rintro e w2 ⟨rfl, hb⟩
            exact ⟨_, rfl, hK _ w2 nofun (keep_below hb hS) rfl⟩
          · as_aux_lemma =>
            intro a w' hS hO hF' hP K hK
            obtain ⟨_, f0, rfl⟩ := (hF' 74 rfl).1 502 _ rfl rfl
            obtain ⟨_, f1, rfl⟩ := (hF' 77 rfl).1 505 _ rfl rfl
            refine if_ok (by rfl) ?_
            refine wp_pick_and _ _ _ rfl (ev f0) (ev f1) ?_
            exact hK _ w' nofun (keep_same hS) rfl
          · as_aux_lemma =>
            intro a w' hS hO hF' hP K hK
            obtain ⟨_, f0, rfl⟩ := (hF' 78 rfl).1 506 _ rfl rfl
            refine if_ok (by rfl) ?_
            unfold Oper.wp execOp
            simp only [Sem.run_pure, ev f0]
            exact hK _ w' nofun (keep_same hS) rfl
          · as_aux_lemma =>
            intro a w' hS hO hF' hP K hK
            obtain ⟨_, fg, rfl⟩ := (hF' 79 rfl).1 507 _ rfl rfl
            refine if_wanted (by rfl) (yield_of (by rfl) fg) ?_
            refine wp_calls rfl (enters_of Tryz.func54 (by kernel_rfl) rfl) (args := #[(.string ⟨#[120]⟩)]) (by simp [Act.eval]) ?_
            obtain ⟨O31, O33, O35, r31, r33, r35, TT, BB⟩ := id hS
            apply Calls.mono
            (with_reducible apply of_w); decide
            rintro e w2 ⟨A, n, c, rfl, hc, hn, hv, hb⟩
            exact ⟨_, rfl, hK _ w2 nofun (keep_below hb hS) ⟨A, n, c, rfl, hc, hn, hv.rd⟩⟩
          · as_aux_lemma =>
            intro a w' hS hO hF' hP K hK
            obtain ⟨_, fg, rfl⟩ := (hF' 79 rfl).1 507 _ rfl rfl
            refine if_wanted (by rfl) (yield_of (by rfl) fg) ?_
            refine wp_calls rfl (enters_of Tryz.func59 (by kernel_rfl) rfl) (args := #[(.string ⟨#[120]⟩)]) (by simp [Act.eval]) ?_
            obtain ⟨O31, O33, O35, r31, r33, r35, TT, BB⟩ := id hS
            apply Calls.mono
            (with_reducible apply sof_w); decide
            rintro e w2 ⟨A, n, c, rfl, hc, hn, hv, hb⟩
            exact ⟨_, rfl, hK _ w2 nofun (keep_below hb hS) ⟨A, n, c, rfl, hc, hn, hv.rd⟩⟩
          · as_aux_lemma =>
            intro a w' hS hO hF' hP K hK
            obtain ⟨_, fg, rfl⟩ := (hF' 79 rfl).1 507 _ rfl rfl
            obtain ⟨_, f0, Ay0, ny0, cy0, rfl, hc0, hn0, hr0⟩ := (hF' 80 rfl).1 508 _ rfl rfl
            obtain ⟨_, f1, Ay1, ny1, cy1, rfl, hc1, hn1, hr1⟩ := (hF' 81 rfl).1 509 _ rfl rfl
            refine if_wanted (by rfl) (yield_of (by rfl) fg) ?_
            refine wp_calls rfl (enters_of Tryz.func33 (by kernel_rfl) rfl) (args := #[(.agg #[.slice Ay0 ny0 cy0, .bool (⟨ofL ⟨#[120]⟩, false⟩ : V).s]), (.agg #[.slice Ay1 ny1 cy1, .bool (⟨ofL ⟨#[120]⟩, true⟩ : V).s])]) (by simp [Act.eval, f0, f1]) ?_
            obtain ⟨O31, O33, O35, r31, r33, r35, TT, BB⟩ := id hS
            apply Calls.mono
            (with_reducible apply lq_t false); (repeat (first | assumption | (with_reducible (apply Nb.rd; assumption)) | (with_reducible (apply Rb.at_later; assumption)) | (with_reducible (apply Tabs.at_later; assumption)) | (with_reducible apply Rb.alloc) | (with_reducible apply Tabs.alloc) | (with_reducible apply Rb.drew) | (with_reducible apply Tabs.drew) | (show I64 _; unfold I64; omega) | omega)); decide +kernel
            rintro e w2 ⟨rfl, hb⟩
            exact ⟨_, rfl, hK _ w2 nofun (keep_below hb hS) rfl⟩
          · as_aux_lemma =>
            intro a w' hS hO hF' hP K hK
            obtain ⟨_, fg, rfl⟩ := (hF' 79 rfl).1 507 _ rfl rfl
            obtain ⟨_, f0, rfl⟩ := (hF' 82 rfl).1 510 _ rfl rfl
            refine if_wanted (by rfl) (yield_of (by rfl) fg) ?_
            refine wp_not _ rfl (ev f0) ?_
            exact hK _ w' nofun (keep_same hS) rfl
          · as_aux_lemma =>
            intro a w' hS hO hF' hP K hK
            obtain ⟨_, f0, rfl⟩ := (hF' 79 rfl).1 507 _ rfl rfl
            obtain ⟨_, f1, rfl⟩ := (hF' 83 rfl).1 511 _ rfl rfl
            refine if_ok (by rfl) ?_
            refine wp_pick_and _ _ _ rfl (ev f0) (ev f1) ?_
            exact hK _ w' nofun (keep_same hS) rfl
          · as_aux_lemma =>
            intro a w' hS hO hF' hP K hK
            obtain ⟨_, f0, rfl⟩ := (hF' 84 rfl).1 512 _ rfl rfl
            refine if_ok (by rfl) ?_
            unfold Oper.wp execOp
            simp only [Sem.run_pure, ev f0]
            exact hK _ w' nofun (keep_same hS) rfl
          · as_aux_lemma =>
            intro a w' hS hO hF' hP K hK
            obtain ⟨_, fg, rfl⟩ := (hF' 85 rfl).1 513 _ rfl rfl
            refine if_wanted (by rfl) (yield_of (by rfl) fg) ?_
            refine wp_calls rfl (enters_of Tryz.func54 (by kernel_rfl) rfl) (args := #[(.string ⟨#[120, 48]⟩)]) (by simp [Act.eval]) ?_
            obtain ⟨O31, O33, O35, r31, r33, r35, TT, BB⟩ := id hS
            apply Calls.mono
            (with_reducible apply of_w); decide
            rintro e w2 ⟨A, n, c, rfl, hc, hn, hv, hb⟩
            exact ⟨_, rfl, hK _ w2 nofun (keep_below hb hS) ⟨A, n, c, rfl, hc, hn, hv.rd⟩⟩
          · as_aux_lemma =>
            intro a w' hS hO hF' hP K hK
            obtain ⟨_, fg, rfl⟩ := (hF' 85 rfl).1 513 _ rfl rfl
            obtain ⟨_, f0, Ay0, ny0, cy0, rfl, hc0, hn0, hr0⟩ := (hF' 86 rfl).1 514 _ rfl rfl
            refine if_wanted (by rfl) (yield_of (by rfl) fg) ?_
            refine wp_calls rfl (enters_of Tryz.func35 (by kernel_rfl) rfl) (args := #[(.agg #[.slice Ay0 ny0 cy0, .bool (⟨ofL ⟨#[120, 48]⟩, false⟩ : V).s])]) (by simp [Act.eval, f0]) ?_
            obtain ⟨O31, O33, O35, r31, r33, r35, TT, BB⟩ := id hS
            apply Calls.mono
            (with_reducible apply tr_t 2); (repeat (first | assumption | (with_reducible (apply Nb.rd; assumption)) | (with_reducible (apply Rb.at_later; assumption)) | (with_reducible (apply Tabs.at_later; assumption)) | (with_reducible apply Rb.alloc) | (with_reducible apply Tabs.alloc) | (with_reducible apply Rb.drew) | (with_reducible apply Tabs.drew) | (show I64 _; unfold I64; omega) | omega)); decide +kernel
            rintro e w2 ⟨rfl, hb⟩
            exact ⟨_, rfl, hK _ w2 nofun (keep_below hb hS) rfl⟩
          · as_aux_lemma =>
            intro a w' hS hO hF' hP K hK
            obtain ⟨_, fg, rfl⟩ := (hF' 85 rfl).1 513 _ rfl rfl
            obtain ⟨_, f0, rfl⟩ := (hF' 87 rfl).1 515 _ rfl rfl
            refine if_wanted (by rfl) (yield_of (by rfl) fg) ?_
            refine wp_val (w' := w') (q := .bool true) (by unfold execOp; simp only [(ev f0)]; simp [go_sem]) ?_
            exact hK _ w' nofun (keep_same hS) rfl
          · as_aux_lemma =>
            intro a w' hS hO hF' hP K hK
            obtain ⟨_, f0, rfl⟩ := (hF' 85 rfl).1 513 _ rfl rfl
            obtain ⟨_, f1, rfl⟩ := (hF' 88 rfl).1 516 _ rfl rfl
            refine if_ok (by rfl) ?_
            refine wp_pick_and _ _ _ rfl (ev f0) (ev f1) ?_
            exact hK _ w' nofun (keep_same hS) rfl
          · as_aux_lemma =>
            intro a w' hS hO hF' hP K hK
            obtain ⟨_, f0, rfl⟩ := (hF' 89 rfl).1 517 _ rfl rfl
            refine if_ok (by rfl) ?_
            unfold Oper.wp execOp
            simp only [Sem.run_pure, ev f0]
            exact hK _ w' nofun (keep_same hS) rfl
          · as_aux_lemma =>
            intro a w' hS hO hF' hP K hK
            obtain ⟨_, fg, rfl⟩ := (hF' 90 rfl).1 518 _ rfl rfl
            refine if_wanted (by rfl) (yield_of (by rfl) fg) ?_
            refine wp_calls rfl (enters_of Tryz.func54 (by kernel_rfl) rfl) (args := #[(.string ⟨#[120, 49]⟩)]) (by simp [Act.eval]) ?_
            obtain ⟨O31, O33, O35, r31, r33, r35, TT, BB⟩ := id hS
            apply Calls.mono
            (with_reducible apply of_w); decide
            rintro e w2 ⟨A, n, c, rfl, hc, hn, hv, hb⟩
            exact ⟨_, rfl, hK _ w2 nofun (keep_below hb hS) ⟨A, n, c, rfl, hc, hn, hv.rd⟩⟩
          · as_aux_lemma =>
            intro a w' hS hO hF' hP K hK
            obtain ⟨_, fg, rfl⟩ := (hF' 90 rfl).1 518 _ rfl rfl
            obtain ⟨_, f0, Ay0, ny0, cy0, rfl, hc0, hn0, hr0⟩ := (hF' 91 rfl).1 519 _ rfl rfl
            refine if_wanted (by rfl) (yield_of (by rfl) fg) ?_
            refine wp_calls rfl (enters_of Tryz.func35 (by kernel_rfl) rfl) (args := #[(.agg #[.slice Ay0 ny0 cy0, .bool (⟨ofL ⟨#[120, 49]⟩, false⟩ : V).s])]) (by simp [Act.eval, f0]) ?_
            obtain ⟨O31, O33, O35, r31, r33, r35, TT, BB⟩ := id hS
            apply Calls.mono
            (with_reducible apply tr_t 1); (repeat (first | assumption | (with_reducible (apply Nb.rd; assumption)) | (with_reducible (apply Rb.at_later; assumption)) | (with_reducible (apply Tabs.at_later; assumption)) | (with_reducible apply Rb.alloc) | (with_reducible apply Tabs.alloc) | (with_reducible apply Rb.drew) | (with_reducible apply Tabs.drew) | (show I64 _; unfold I64; omega) | omega)); decide +kernel
            rintro e w2 ⟨rfl, hb⟩
            exact ⟨_, rfl, hK _ w2 nofun (keep_below hb hS) rfl⟩
          · as_aux_lemma =>
            intro a w' hS hO hF' hP K hK
            obtain ⟨_, fg, rfl⟩ := (hF' 90 rfl).1 518 _ rfl rfl
            obtain ⟨_, f0, rfl⟩ := (hF' 92 rfl).1 520 _ rfl rfl
            refine if_wanted (by rfl) (yield_of (by rfl) fg) ?_
            refine wp_val (w' := w') (q := .bool true) (by unfold execOp; simp only [(ev f0)]; simp [go_sem]) ?_
            exact hK _ w' nofun (keep_same hS) rfl
          · as_aux_lemma =>
            intro a w' hS hO hF' hP K hK
            obtain ⟨_, f0, rfl⟩ := (hF' 90 rfl).1 518 _ rfl rfl
            obtain ⟨_, f1, rfl⟩ := (hF' 93 rfl).1 521 _ rfl rfl
            refine if_ok (by rfl) ?_
            refine wp_pick_and _ _ _ rfl (ev f0) (ev f1) ?_
            exact hK _ w' nofun (keep_same hS) rfl
          · as_aux_lemma =>
            intro a w' hS hO hF' hP K hK
            obtain ⟨_, f0, rfl⟩ := (hF' 94 rfl).1 522 _ rfl rfl
            refine if_ok (by rfl) ?_
            unfold Oper.wp execOp
            simp only [Sem.run_pure, ev f0]
            exact hK _ w' nofun (keep_same hS) rfl
        · intro a u hd hz hS hV
          obtain ⟨O31, O33, O35, r31, r33, r35, TT, BB⟩ := hS
          replace O31 : Own u g31 24 #[.slice A31 n31 c31, .bool true] := O31
          replace O33 : Own u g33 24 #[.slice A33 n33 c33, .bool true] := O33
          replace O35 : Own u g35 24 #[.slice A35 n35 c35, .bool false] := O35
          replace r31 : Rb u A31 n31 (ofL ⟨#[49, 49, 49, 48]⟩) := r31
          replace r33 : Rb u A33 n33 (ofL ⟨#[120, 120, 120, 49]⟩) := r33
          replace r35 : Rb u A35 n35 (ofL ⟨#[49, 48, 49, 48]⟩) := r35
          replace TT : Tabs u := TT
          replace BB : Below w.heap.size w u := BB
          obtain ⟨v0, f0, hv0⟩ := hV 95 0 _ rfl rfl
          obtain rfl : v0 = .bool true := hv0
          clear hV
          go_wp2
          refine bodyPost_ret (results_tmp rfl _ _ _) (hd.trans rfl) ?_
          exact ⟨by rw [Array.getD_eq_getD_getElem?, f0]; rfl, BB⟩
end Go.Proofs.YtognpmggfplekaaGreatDoor
