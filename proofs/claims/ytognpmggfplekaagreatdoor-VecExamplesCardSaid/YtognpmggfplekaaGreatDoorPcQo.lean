/-
  A store of one bit into a row of the call's own, for one operation of a region whose order is open. No conditions.
  Contracts of the reference's Check and Norm. Conditions: at most a million bits.
  Contracts of the reference's Norm. Conditions: at most a million bits.
  Contracts of the reference's Known, Truth and WithSign. Conditions: at most a million bits.
  Contracts of the reference's Truth, WithSign, single. Conditions: at most a million bits.
  Contracts of the reference's Leq. Conditions: at most a million bits.
  Contracts of the reference's Fill, Unknown. Conditions: at most a million bits.
-/
import Derived.Test.YtognpmggfplekaaGreatDoorPcQm
import Derived.Test.YtognpmggfplekaaGreatDoorPcQn

set_option maxRecDepth 100000
namespace Go.Proofs.YtognpmggfplekaaGreatDoor
open Go Go.RowKit

section
variable {o : Oper} {a : Act} {w : World} {K : Act → World → Prop} {Q : Exit → Act → World → Prop}
end
end Go.Proofs.YtognpmggfplekaaGreatDoor

namespace Go.Proofs.YtognpmggfplekaaGreatDoor
open Go Go.RowKit

end Go.Proofs.YtognpmggfplekaaGreatDoor

namespace Go.Proofs.YtognpmggfplekaaGreatDoor
open Go Go.RowKit

end Go.Proofs.YtognpmggfplekaaGreatDoor

namespace Go.Proofs.YtognpmggfplekaaGreatDoor
open Go Go.RowKit

end Go.Proofs.YtognpmggfplekaaGreatDoor

namespace Go.Proofs.YtognpmggfplekaaGreatDoor
open Go Go.RowKit

end Go.Proofs.YtognpmggfplekaaGreatDoor

namespace Go.Proofs.YtognpmggfplekaaGreatDoor
open Go Go.RowKit

end Go.Proofs.YtognpmggfplekaaGreatDoor

namespace Go.Proofs.YtognpmggfplekaaGreatDoor
open Go Go.RowKit

theorem tab_next (f : Nat → Int) (n : Nat) : tab (n + 1) f = tab n f ++ [f n] := by simp [tab, List.range_succ]
theorem Own.catG {w w' : World} {B g : Nat} {T : TypeId} {cs : Array Value} {A : Option Addr} {n c : Nat} {l : List Int} (O : Own w g T cs) (hT : T ≠ 48) (hN : Nb w B A n c l) (hg : w.grownBy w' (Value.slice A n c).ownBlock) : Own w' g T cs := Own.grown O hg (rowB_ne hN.rowB hT O)
set_option maxHeartbeats 2000000 in
theorem rFill_any (b m : Int) (s : Bool) (w : World) (hb : 0 ≤ b) (hm : m ≤ 100000) : Calls Tryz.prog 53 #[.int .u8 b, .int .i64 m, .bool s] w (RetV w (allV b m.toNat s)) := by
  have O0 := ((Own.at1 w 24 #[.slice none 0 0, .bool false] (g := w.heap.size) (by simp)).alloc (.cells #[.slice none 0 0, .bool s] 24))
  have O1 := (Own.at1 (w.alloc (.cells #[.slice none 0 0, .bool false] 24)) 24 #[.slice none 0 0, .bool s] (g := w.heap.size + 1) (by simp))
  have BB := (below_new (below_new (Below.refl w.heap.size w) (.cells #[.slice none 0 0, .bool false] 24)) (.cells #[.slice none 0 0, .bool s] 24))
  obtain ⟨M, hM⟩ : ∃ M, m.toNat = M := ⟨_, rfl⟩
  rw [hM]
  unfold allV
  have qO10 := O1.cell 0; have qO11 := O1.cell 1; have fO10 := O1.free 0; have fO11 := O1.free 1
  go_enter Tryz.func53, Tryz.ntmps53
  go_wp2
  go_loopw [8] (fun i wr => ∃ (j : Nat) (A : Option Addr) (c : Nat), j ≤ M ∧ i = .int .i64 j ∧ Hid (Own wr w.heap.size 24 #[.slice none 0 0, .bool false]) ∧ Hid (Own wr (w.heap.size + 1) 24 #[.slice A j c, .bool s]) ∧ Hid (Nb wr w.heap.size A j c (tab j fun _ => b)) ∧ Hid (Below w.heap.size w wr)) (fun i _ => M - (intOf i).toNat)
  case atStart => exact ⟨0, none, 0, Nat.zero_le _, rfl, Lib.hid O0, Lib.hid O1, Lib.hid (Nb.nil _ _), Lib.hid BB⟩
  case round =>
    obtain ⟨j, A, c, hj, rfl, H0, H1, HN, HB⟩ := hrel
    have p0 := H1.out.cell 0
    have p1 := H1.out.cell 1
    have f0 := H1.out.free 0
    by_cases hlt : j < M
    · have d1 : decide ((j : Int) < m) = true := by simp; omega
      have hbs := HB.out.size
      have U1 := H1.out.alloc (.cells #[.int .u8 b] 48)
      have U0 := H0.out.alloc (.cells #[.int .u8 b] 48)
      have UN := HN.out.alloc (.cells #[.int .u8 b] 48)
      have RB : Rb (wr.alloc (.cells #[.int .u8 b] 48)) (some ⟨wr.heap.size, 0, none⟩) 1 [b] := Rb.of_own (Own.new wr _ _) (nnL_one hb) rfl
      have hB1 := below_new HB.out (.cells #[.int .u8 b] 48)
      have hsz := hB1.size
      replace HB := Lib.hid HB
      clear p1
      go_wp2_with (at_builtin; refine wpList_catG rfl (.tmp 17) (.tmp 19) rfl rfl hsz rfl UN rfl RB (by omega) ?_; intro A9 c9 w9 hN9 hg9; have V1 := U1.catG (by decide) UN hg9; have V0 := U0.catG (by decide) UN hg9; have hB9 := grown_ownV UN hg9 hB1; have v0 := V1.cell 0; have v1 := V1.free 0)
      go_roundw
      case rel => exact ⟨j + 1, A9, c9, by omega, by go_num, Lib.hid (V0.far (p := ⟨w.heap.size + 1, 0, none⟩) (by simp) _), Lib.hid (V1.put 0 _), Lib.hid (by rw [tab_next]; exact hN9.setT V1 (by decide) 0 _), Lib.hid (below_set hB9 (p := ⟨w.heap.size + 1, 0, none⟩) (by simp) _)⟩
      case measure => simp [intOf]; omega
    · obtain rfl : j = M := by omega
      have d1 : decide ((j : Int) < m) = false := by simp; omega
      have g0 := H0.out.cell 0
      have g1 := H0.out.cell 1
      have g2 := H0.out.free 0
      have g3 := H0.out.free 1
      go_wp2
      exact ret_vec Tryz.results53 rfl rfl (H0.out.put2 _ _) (RetV.mk' (v := ⟨tab j fun _ => b, s⟩) ((HN.out.setT H0.out (by decide) 0 _).setT (H0.out.put 0 _) (by decide) 1 _) (below_set2 HB.out (Nat.le_refl _) _ _))
end Go.Proofs.YtognpmggfplekaaGreatDoor
