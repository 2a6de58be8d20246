/-
  Contracts of the statements' own functions of, sof. Conditions: texts of at most a thousand characters.
-/
import Derived.Test.YtognpmggfplekaaGreatDoorPcQo
set_option maxRecDepth 100000
namespace Go.Proofs.YtognpmggfplekaaGreatDoor
open Go Go.RowKit

def chI (c : UInt8) : Int := if c.toNat = 49 then 1 else if c.toNat = 120 then 2 else if c.toNat = 122 then 3 else 0
def ofF (s : ByteArray) (i : Nat) : Int := chI (s.data.toList.getD (s.size - 1 - i) 0)
def ofL (s : ByteArray) : List Int := tab s.size (ofF s)
theorem ofF_at {s : ByteArray} {j k : Nat} (h : k < s.size) (e : s.size - 1 - j = k) : ofF s j = chI s[k] := by
  unfold ofF; rw [e, List.getD_eq_getElem?_getD, List.getElem?_eq_getElem (by simpa using h)]; rfl
set_option maxHeartbeats 2000000 in
theorem of_any (s : ByteArray) (w : World) (hs : s.size ≤ 1000) : Calls Tryz.prog 54 #[.string s] w (RetV w ⟨ofL s, false⟩) := by
  have O0 := ((Own.at1 w 24 #[.slice none 0 0, .bool false] (g := w.heap.size) (by simp)).alloc (.cells #[.slice none 0 0, .bool false] 24))
  have O1 := (Own.at1 (w.alloc (.cells #[.slice none 0 0, .bool false] 24)) 24 #[.slice none 0 0, .bool false] (g := w.heap.size + 1) (by simp))
  have BB := (below_new (below_new (Below.refl w.heap.size w) (.cells #[.slice none 0 0, .bool false] 24)) (.cells #[.slice none 0 0, .bool false] 24))
  unfold ofL
  have qO10 := O1.cell 0; have qO11 := O1.cell 1; have fO10 := O1.free 0; have fO11 := O1.free 1
  go_enter Tryz.func54, Tryz.ntmps54
  go_wp2
  go_loopw [4] (fun i wr => ∃ (j : Nat) (A : Option Addr) (c : Nat), j ≤ s.size ∧ i = .int .i64 ((s.size : Int) - 1 - j) ∧ Hid (Own wr w.heap.size 24 #[.slice none 0 0, .bool false]) ∧ Hid (Own wr (w.heap.size + 1) 24 #[.slice A j c, .bool false]) ∧ Hid (Nb wr w.heap.size A j c (tab j (ofF s))) ∧ Hid (Below w.heap.size w wr)) (fun i _ => (intOf i + 1).toNat)
  case atStart => exact ⟨0, none, 0, Nat.zero_le _, by simp only [Value.int.injEq, true_and]; omega, Lib.hid O0, Lib.hid O1, Lib.hid (Nb.nil _ _), Lib.hid BB⟩
  case round =>
    clear O0 O1 BB qO10 qO11 fO10 fO11
    obtain ⟨j, A, c', hj, rfl, H0, H1, HN, HB⟩ := hrel
    have p0 := H1.out.cell 0
    have p1 := H1.out.cell 1
    have f0 := H1.out.free 0
    by_cases hlt : j < s.size
    · obtain ⟨k, hk⟩ : ∃ k, s.size - 1 - j = k := ⟨_, rfl⟩
      have hks : k < s.size := by omega
      have e1 : (s.size : Int) - 1 - j = k := by omega
      rw [e1]
      have hnx := ofF_at hks hk
      have hsz0 := HB.out.size
      generalize hc : s[k] = c at *
      have d1 : (0 : Int) ≤ k := by omega
      have d2 : (k : Int) < s.size := by omega
      replace hk := Lib.hid hk
      replace e1 := Lib.hid e1
      by_cases g0 : c.toNat = 49
      · skip
        have t0 : ((c.toNat : Int) == 49) = true := by rw [g0]; rfl
        rw [show chI c = 1 from by unfold chI; rw [if_pos g0]] at hnx
        replace hnx := Lib.hid hnx
        have U1 := H1.out.alloc (.cells #[.int .u8 1] 48)
        have U0 := H0.out.alloc (.cells #[.int .u8 1] 48)
        have UN := HN.out.alloc (.cells #[.int .u8 1] 48)
        have RB : Rb (wr.alloc (.cells #[.int .u8 1] 48)) (some ⟨wr.heap.size, 0, none⟩) 1 [1] := Rb.of_own (Own.new wr _ _) (nnL_one (by decide)) rfl
        have hB1 := below_new HB.out (.cells #[.int .u8 1] 48)
        have hsz := hB1.size
        clear p1 g0
        go_wp2_with (at_builtin; refine wpList_catG rfl (.tmp 23) (.tmp 25) rfl rfl hsz rfl UN rfl RB (by omega) ?_; intro A9 c9 w9 hN9 hg9; have V1 := U1.catG (by decide) UN hg9; have V0 := U0.catG (by decide) UN hg9; have hB9 := grown_ownV UN hg9 hB1; have v0 := V1.cell 0; have v1 := V1.free 0)
        go_roundw
        case rel => exact ⟨j + 1, A9, c9, by omega, by simp only [Value.int.injEq, true_and]; have := e1.out; omega, Lib.hid (V0.far (p := ⟨w.heap.size + 1, 0, none⟩) (by simp) _), Lib.hid (V1.put 0 _), Lib.hid (by rw [tab_next, hnx.out]; exact hN9.setT V1 (by decide) 0 _), Lib.hid (below_set hB9 (p := ⟨w.heap.size + 1, 0, none⟩) (by simp) _)⟩
        case measure => (simp [intOf]) <;> omega
      · by_cases g1 : c.toNat = 120
        · skip
          have t0 : ((c.toNat : Int) == 49) = false := by simp; omega
          have t1 : ((c.toNat : Int) == 120) = true := by rw [g1]; rfl
          rw [show chI c = 2 from by unfold chI; rw [if_neg g0]; rw [if_pos g1]] at hnx
          replace hnx := Lib.hid hnx
          have U1 := H1.out.alloc (.cells #[.int .u8 2] 48)
          have U0 := H0.out.alloc (.cells #[.int .u8 2] 48)
          have UN := HN.out.alloc (.cells #[.int .u8 2] 48)
          have RB : Rb (wr.alloc (.cells #[.int .u8 2] 48)) (some ⟨wr.heap.size, 0, none⟩) 1 [2] := Rb.of_own (Own.new wr _ _) (nnL_one (by decide)) rfl
          have hB1 := below_new HB.out (.cells #[.int .u8 2] 48)
          have hsz := hB1.size
          clear p1 g0 g1
          go_wp2_with (at_builtin; refine wpList_catG rfl (.tmp 23) (.tmp 25) rfl rfl hsz rfl UN rfl RB (by omega) ?_; intro A9 c9 w9 hN9 hg9; have V1 := U1.catG (by decide) UN hg9; have V0 := U0.catG (by decide) UN hg9; have hB9 := grown_ownV UN hg9 hB1; have v0 := V1.cell 0; have v1 := V1.free 0)
          go_roundw
          case rel => exact ⟨j + 1, A9, c9, by omega, by simp only [Value.int.injEq, true_and]; have := e1.out; omega, Lib.hid (V0.far (p := ⟨w.heap.size + 1, 0, none⟩) (by simp) _), Lib.hid (V1.put 0 _), Lib.hid (by rw [tab_next, hnx.out]; exact hN9.setT V1 (by decide) 0 _), Lib.hid (below_set hB9 (p := ⟨w.heap.size + 1, 0, none⟩) (by simp) _)⟩
          case measure => (simp [intOf]) <;> omega
        · by_cases g2 : c.toNat = 122
          · skip
            have t0 : ((c.toNat : Int) == 49) = false := by simp; omega
            have t1 : ((c.toNat : Int) == 120) = false := by simp; omega
            have t2 : ((c.toNat : Int) == 122) = true := by rw [g2]; rfl
            rw [show chI c = 3 from by unfold chI; rw [if_neg g0]; rw [if_neg g1]; rw [if_pos g2]] at hnx
            replace hnx := Lib.hid hnx
            have U1 := H1.out.alloc (.cells #[.int .u8 3] 48)
            have U0 := H0.out.alloc (.cells #[.int .u8 3] 48)
            have UN := HN.out.alloc (.cells #[.int .u8 3] 48)
            have RB : Rb (wr.alloc (.cells #[.int .u8 3] 48)) (some ⟨wr.heap.size, 0, none⟩) 1 [3] := Rb.of_own (Own.new wr _ _) (nnL_one (by decide)) rfl
            have hB1 := below_new HB.out (.cells #[.int .u8 3] 48)
            have hsz := hB1.size
            clear p1 g0 g1 g2
            go_wp2_with (at_builtin; refine wpList_catG rfl (.tmp 23) (.tmp 25) rfl rfl hsz rfl UN rfl RB (by omega) ?_; intro A9 c9 w9 hN9 hg9; have V1 := U1.catG (by decide) UN hg9; have V0 := U0.catG (by decide) UN hg9; have hB9 := grown_ownV UN hg9 hB1; have v0 := V1.cell 0; have v1 := V1.free 0)
            go_roundw
            case rel => exact ⟨j + 1, A9, c9, by omega, by simp only [Value.int.injEq, true_and]; have := e1.out; omega, Lib.hid (V0.far (p := ⟨w.heap.size + 1, 0, none⟩) (by simp) _), Lib.hid (V1.put 0 _), Lib.hid (by rw [tab_next, hnx.out]; exact hN9.setT V1 (by decide) 0 _), Lib.hid (below_set hB9 (p := ⟨w.heap.size + 1, 0, none⟩) (by simp) _)⟩
            case measure => (simp [intOf]) <;> omega
          · skip
            have t0 : ((c.toNat : Int) == 49) = false := by simp; omega
            have t1 : ((c.toNat : Int) == 120) = false := by simp; omega
            have t2 : ((c.toNat : Int) == 122) = false := by simp; omega
            rw [show chI c = 0 from by unfold chI; rw [if_neg g0]; rw [if_neg g1]; rw [if_neg g2]] at hnx
            replace hnx := Lib.hid hnx
            have U1 := H1.out.alloc (.cells #[.int .u8 0] 48)
            have U0 := H0.out.alloc (.cells #[.int .u8 0] 48)
            have UN := HN.out.alloc (.cells #[.int .u8 0] 48)
            have RB : Rb (wr.alloc (.cells #[.int .u8 0] 48)) (some ⟨wr.heap.size, 0, none⟩) 1 [0] := Rb.of_own (Own.new wr _ _) (nnL_one (by decide)) rfl
            have hB1 := below_new HB.out (.cells #[.int .u8 0] 48)
            have hsz := hB1.size
            clear p1 g0 g1 g2
            go_wp2_with (at_builtin; refine wpList_catG rfl (.tmp 23) (.tmp 25) rfl rfl hsz rfl UN rfl RB (by omega) ?_; intro A9 c9 w9 hN9 hg9; have V1 := U1.catG (by decide) UN hg9; have V0 := U0.catG (by decide) UN hg9; have hB9 := grown_ownV UN hg9 hB1; have v0 := V1.cell 0; have v1 := V1.free 0)
            go_roundw
            case rel => exact ⟨j + 1, A9, c9, by omega, by simp only [Value.int.injEq, true_and]; have := e1.out; omega, Lib.hid (V0.far (p := ⟨w.heap.size + 1, 0, none⟩) (by simp) _), Lib.hid (V1.put 0 _), Lib.hid (by rw [tab_next, hnx.out]; exact hN9.setT V1 (by decide) 0 _), Lib.hid (below_set hB9 (p := ⟨w.heap.size + 1, 0, none⟩) (by simp) _)⟩
            case measure => (simp [intOf]) <;> omega
    · obtain rfl : j = s.size := by omega
      have e1 : (s.size : Int) - 1 - s.size = -1 := by omega
      rw [e1]
      have g0 := H0.out.cell 0
      have g1 := H0.out.cell 1
      have g2 := H0.out.free 0
      have g3 := H0.out.free 1
      clear hlt e1
      go_wp2
      exact ret_vec Tryz.results54 rfl rfl (H0.out.put2 _ _) (RetV.mk' (v := ⟨tab s.size (ofF s), false⟩) ((HN.out.setT H0.out (by decide) 0 _).setT (H0.out.put 0 _) (by decide) 1 _) (below_set2 HB.out (Nat.le_refl _) _ _))
set_option maxHeartbeats 2000000 in
theorem sof_any (s : ByteArray) (w : World) (hs : s.size ≤ 1000) : Calls Tryz.prog 59 #[.string s] w (RetV w ⟨ofL s, true⟩) := by
  have O0 := Own.at1 w 24 #[.slice none 0 0, .bool false] (g := w.heap.size) (by simp)
  have BB := below_new (Below.refl w.heap.size w) (.cells #[.slice none 0 0, .bool false] 24)
  have HO := Lib.hid (fun (u : World) => of_any s u hs)
  go_enter Tryz.func59, Tryz.ntmps59
  go_wp2_with (go_at_call 54; refine (HO.out _).mono ?_; rintro e w1 ⟨A, c, rfl, hN, hb⟩; replace BB := below_step BB hb; replace O0 := (O0.step hb).alloc (.cells #[.slice A (ofL s).length c, .bool true] 24); have f0 := O0.free 0; have f1 := O0.free 1; have q0 := O0.cell 0; have q1 := O0.cell 1)
  exact ret_vec Tryz.results59 rfl rfl (O0.put2 _ _) (RetV.mk' (v := ⟨ofL s, true⟩) (((hN.mono (B' := w.heap.size) (by simp)).alloc _ |>.setT O0 (by decide) 0 _).setT (O0.put 0 _) (by decide) 1 _) (below_set2 (below_new BB _) (Nat.le_refl _) _ _))
end Go.Proofs.YtognpmggfplekaaGreatDoor
