/-
  Contracts of the statements' own functions Own, int4. Conditions: at most a million bits.
-/
import Derived.Test.YtognpmggfplekaaGreatDoorPcW3
import Derived.Test.YtognpmggfplekaaGreatDoorPcW2
set_option maxRecDepth 100000
namespace Go.Proofs.YtognpmggfplekaaGreatDoor
open Go Go.RowKit

theorem of_w (s : ByteArray) (w : World) (hs : s.size ≤ 128) : Calls Tryz.prog 54 #[.string s] w (RetW w ⟨ofL s, false⟩) := (of_any s w (by omega)).mono fun _ _ h => h.w (by unfold ofL; rw [tab_len]; exact hs)
theorem sof_w (s : ByteArray) (w : World) (hs : s.size ≤ 128) : Calls Tryz.prog 59 #[.string s] w (RetW w ⟨ofL s, true⟩) := (sof_any s w (by omega)).mono fun _ _ h => h.w (by unfold ofL; rw [tab_len]; exact hs)
set_option maxHeartbeats 2000000 in
theorem int4_w (z : Int) (s : Bool) (w : World) (hz : I64 z) : Calls Tryz.prog 94 #[.int .i64 z, .bool s] w (RetW w (fromV z 4 s)) := by
  have O0 := Own.at1 w 24 #[.slice none 0 0, .bool false] (g := w.heap.size) (by simp)
  have BB := below_new (Below.refl w.heap.size w) (.cells #[.slice none 0 0, .bool false] 24)
  have HO := Lib.hid (fun (u : World) => fromInt_v_w z 4 s u hz)
  have hl := len_from z 4 s
  generalize fromV z 4 s = v at *
  go_enter Tryz.func94, Tryz.ntmps94
  go_wp2_with (go_at_call 37; refine (HO.out _).mono ?_; rintro e w1 ⟨A, n, c, rfl, hc, hn, hN, hb⟩; replace BB := below_step BB hb; replace O0 := (O0.step hb).alloc (.cells #[.slice A n c, .bool v.s] 24); have f0 := O0.free 0; have f1 := O0.free 1; have q0 := O0.cell 0; have q1 := O0.cell 1)
  refine ret_vec Tryz.results94 rfl rfl (O0.put2 _ _) ?_
  exact ⟨A, n, c, rfl, hc, hn, ((hN.mono (B' := w.heap.size) (by simp)).alloc _ |>.setT O0 (by decide) 0 _).setT (O0.put 0 _) (by decide) 1 _, below_set2 (below_new BB _) (Nat.le_refl _) _ _⟩
end Go.Proofs.YtognpmggfplekaaGreatDoor
