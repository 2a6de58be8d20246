/-
  Contracts of the reference's fit. Conditions: at most a million bits.
  Contracts of the reference's FromBools. Conditions: at most a thousand bits.
  Contracts of the reference's Bools. Conditions: at most a thousand bits.
  Contracts of the reference's Unknown, FromInt, Resize, Int. Conditions: at most a thousand bits.
  Contracts of the reference's Balance. Conditions: at most a million bits.
-/
import Derived.Test.YtgojnpblhfbdpaaGreatDoorQo
import Derived.Test.YtgojnpblhfbdpaaGreatDoorQg
import Derived.Test.YtgojnpblhfbdpaaGreatDoorQk

namespace Go.Proofs.YtgojnpblhfbdpaaGreatDoor
open Go Go.RowKit

set_option maxRecDepth 100000 in
theorem rdo_cell {B : Nat} {u : World} {b o n k : Nat} {l : List Int} (h : rdo B (some ⟨b, o, none⟩) n l u) (hk : k < n) : u.cell? ⟨b, o + k, none⟩ = some (.int .u8 (nth l k)) := by
  obtain ⟨b', o', e, _, hc⟩ := h.1.at_ hk
  have e1 := Option.some.inj e
  simp only [Addr.mk.injEq, and_true] at e1
  obtain ⟨rfl, rfl⟩ := e1
  exact hc
set_option maxRecDepth 100000 in
theorem ext_in {l : List Int} {s : Bool} {j : Nat} (h : j < l.length) : ext ⟨l, s⟩ j = nth l j := by unfold ext; rw [if_pos h]
set_option maxRecDepth 100000 in
theorem ext_out {l : List Int} {j : Nat} (h : ¬ j < l.length) : ext ⟨l, true⟩ j = nth l (l.length - 1) := by unfold ext fill; rw [if_neg h]; rfl
set_option maxRecDepth 100000 in
theorem ext_outz {l : List Int} {j : Nat} (h : ¬ j < l.length) : ext ⟨l, false⟩ j = 0 := by unfold ext fill; rw [if_neg h]; rfl
end Go.Proofs.YtgojnpblhfbdpaaGreatDoor

namespace Go.Proofs.YtgojnpblhfbdpaaGreatDoor
open Go Go.RowKit

/-- The slice reads as the bits of x, in a block that lay before w. -/
def rdb (w : World) (A : Option Addr) (n x : Nat) : World → Prop := fun u => B.Rd u A n x ∧ ∀ b o, A = some ⟨b, o, none⟩ → 0 < n → b < w.heap.size
set_option maxRecDepth 100000 in
theorem rdb.of {w u : World} {A : Option Addr} {n x : Nat} (h : B.Rd w A n x) (hb : Below w.heap.size w u) : rdb w A n x u := ⟨h.step hb, fun b o e hn => by
  obtain ⟨b', o', e', hlt, _⟩ := h.2 hn
  rw [e] at e'
  simp only [Option.some.injEq, Addr.mk.injEq, and_true] at e'
  rw [e'.1]; exact hlt⟩
instance (w : World) (A : Option Addr) (n x : Nat) : Stb (rdb w A n x) := ⟨fun _ _ hb ⟨h, k⟩ => ⟨h.step hb, k⟩⟩
set_option maxRecDepth 100000 in
theorem rdb_cell {w u : World} {b o n k x : Nat} (h : rdb w (some ⟨b, o, none⟩) n x u) (hk : k < n) : u.cell? ⟨b, o + k, none⟩ = some (.bool (x.testBit k)) := by
  obtain ⟨b', o', e, _, hc⟩ := h.1.at_ hk
  have e1 := Option.some.inj e
  simp only [Addr.mk.injEq, and_true] at e1
  obtain ⟨rfl, rfl⟩ := e1
  exact hc
instance (w : World) (A : Option Addr) (n x : Nat) : Sgr w.heap.size (rdb w A n x) := ⟨fun u u' row hr hg _ ⟨h, k⟩ => ⟨⟨h.1, fun hn => by
  obtain ⟨b, o, e, hlt, hc⟩ := h.2 hn
  have hne : some b ≠ row := fun x => by have := (hr b x.symm).1; have := k b o e hn; omega
  exact ⟨b, o, e, Nat.lt_of_lt_of_le hlt hg.size, fun i hi => grown_cell hg hne (hc i hi)⟩⟩, k⟩⟩
instance (w : World) (g : Nat) (A : Option Addr) (n x : Nat) [V : Over w g] : Sst g (rdb w A n x) := ⟨fun u X a b s cs O ⟨h, k⟩ => ⟨⟨h.1, fun hn => by
  obtain ⟨b', o, e, hlt, hc⟩ := h.2 hn
  have hne : b' ≠ g := fun e2 => by have := k b' o e hn; have := V.le; omega
  refine ⟨b', o, e, by simpa [World.setRow] using hlt, fun i hi => ?_⟩
  have e3 : (u.setRow g cs).heap[b']? = u.heap[b']? := setRow_other u g b' cs hne
  have h5 := hc i hi
  unfold World.cell? at h5 ⊢
  simp only [e3]
  exact h5⟩, k⟩⟩
set_option maxRecDepth 100000 in
theorem fromI_nn (b : Bool) : 0 ≤ fromI b := by cases b <;> decide
section
variable {o : Oper} {a : Act} {w : World} {K : Act → World → Prop} {Q : Exit → Act → World → Prop}
set_option maxRecDepth 100000 in
theorem run_ixB (b p n c k : Nat) (hk : k < n) (W : World) : (Instr.indexAt 75 (.slice (some ⟨b, p, none⟩) n c) (.int .i64 k)).run Tryz.prog W = .ok (.pointer (some ⟨b, p + k, none⟩)) W := by
  have i1 : (k : Int) < n := by omega
  have i0 : (0 : Int) ≤ k := by omega
  simp [go_sem, i0, i1]
set_option maxRecDepth 100000 in
theorem wp_ixB (x y : Operand) (ho : o.op = .indexAddr 75 x y) {b p n c k : Nat} (hx : a.eval x = .slice (some ⟨b, p, none⟩) n c) (hy : a.eval y = .int .i64 k) (hk : k < n) (h : K (a.put o.dst (.pointer (some ⟨b, p + k, none⟩))) w) : o.wp Tryz.prog a w K Q := by
  refine wp_val ?_ h
  unfold execOp
  simp only [ho, hx, hy, Sem.run_bind, run_ixB _ _ _ _ _ hk, Result.andThen_ok, Sem.run_pure]
end
set_option maxRecDepth 100000 in
set_option maxHeartbeats 4000000 in
theorem rFromBools_any (A : Option Addr) (n c x : Nat) (s : Bool) (w : World) (h : B.Rd w A n x) (hn : n ≤ 1000) :
    Calls Tryz.prog 76 #[.slice A n c, .bool s] w (RetV w ⟨frN n x, s⟩) := by
  have O0 := ((Own.at1 w 26 #[.slice none 0 0, .bool false] (g := w.heap.size) (by simp)).alloc (.cells #[.slice none 0 0, .bool s] 26))
  have O1 := (Own.at1 (w.alloc (.cells #[.slice none 0 0, .bool false] 26)) 26 #[.slice none 0 0, .bool s] (g := w.heap.size + 1) (by simp))
  have BB := (below_new (below_new (Below.refl w.heap.size w) (.cells #[.slice none 0 0, .bool false] 26)) (.cells #[.slice none 0 0, .bool s] 26))
  have qO10 := O1.cell 0; have qO11 := O1.cell 1; have fO10 := O1.free 0; have fO11 := O1.free 1
  replace h := Lib.hid h
  go_enter Tryz.func76, Tryz.ntmps76
  go_wp2
  go_loopw [6] (fun i wr => ∃ (j : Nat) (A' : Option Addr) (c' : Nat), j ≤ n ∧ i = .int .i64 j ∧ Hid (Own wr w.heap.size 26 #[.slice none 0 0, .bool false]) ∧ Hid (Own wr (w.heap.size + 1) 26 #[.slice A' j c', .bool s]) ∧ Hid (Nb wr w.heap.size A' j c' (frN j x)) ∧ Hid (Below w.heap.size w wr)) (fun i _ => n - (intOf i).toNat)
  case atStart => exact ⟨0, none, 0, Nat.zero_le _, rfl, Lib.hid O0, Lib.hid O1, Lib.hid (Nb.nil _ _), Lib.hid BB⟩
  case round =>
    clear O0 O1 BB qO10 qO11 fO10 fO11
    obtain ⟨j, A', c', hj, rfl, H0, H1, HN, HB⟩ := hrel
    by_cases hlt : j < n
    · have d1 : (j : Int) < n := by omega
      obtain ⟨b1, o1, rfl, hb1, hc1⟩ := h.out.2 (by omega)
      have hS0 : owns w.heap.size #[.slice none 0 0, .bool false] wr.drew ∧ (rdb w (some ⟨b1, o1, none⟩) n x wr.drew ∧ blw w wr.drew) := ⟨H0.out, rdb.of h.out HB.out.drew, HB.out.drew⟩
      have hP1 : nbs w.heap.size A' j c' (frN j x) wr.drew := HN.out
      have hP2 : owns (w.heap.size + 1) #[.slice A' j c', .bool s] wr.drew := H1.out
      haveI : Over w (w.heap.size + 1) := ⟨by omega⟩
      haveI : Apart (w.heap.size + 1) w.heap.size := ⟨by omega⟩
      clear hc1 H0 H1 HN HB
      go_wp2
      refine region_k (by kernel_rfl) (fun u => owns w.heap.size #[.slice none 0 0, .bool false] u ∧ (rdb w (some ⟨b1, o1, none⟩) n x u ∧ blw w u)) [tru, tru, tru, tru, tru, tru, tru, tru, nbs w.heap.size A' j c' (frN j x), tru, owns (w.heap.size + 1) #[.slice A' j c', .bool s]] [isV (.pointer (some ⟨(w.heap.size + 1), 0, none⟩)), isV (.slice A' j c'), isV (.slice (some ⟨b1, o1, none⟩) n c), isV (.int .i64 j), isV (.pointer (some ⟨b1, o1 + j, none⟩)), isV (.bool (x.testBit j)), isV (.int .u8 (fromI (x.testBit j))), isOne w.heap.size (fromI (x.testBit j)), isNbL w.heap.size (j + 1) (frN j x ++ [(fromI (x.testBit j))]), isV (.pointer (some ⟨(w.heap.size + 1), 0, none⟩)), didL w.heap.size (w.heap.size + 1) (j + 1) (frN j x ++ [(fromI (x.testBit j))]) s] [some 15, some 16, some 17, some 18, some 19, some 20, some 21, some 22, some 23, some 24, none] [[], [0], [], [], [2, 3], [4], [5], [6], [1, 7, 6], [0, 1, 2, 3, 4, 5, 6, 7, 8], [9, 8, 8, 0, 1, 2, 3, 4, 5, 6, 7, 8]] [[], [0], [], [], [2, 3], [4], [5], [6], [1, 7], [], [9, 8]] [[], [], [], [], [], [], [], [], [7], [], []] [[], [], [], [], [], [], [], [], [7, 10], [], []] (by kernel_rfl) (by kernel_rfl) (by kernel_rfl) (by kernel_rfl) (by kernel_rfl) rfl (by kernel_rfl) (by kernel_rfl) (by kernel_rfl) hS0 (by
        intro U hU
        simp only [List.mem_cons, List.not_mem_nil, or_false] at hU
        rcases hU with rfl | rfl | rfl | rfl | rfl | rfl | rfl | rfl | rfl | rfl | rfl
        all_goals first | trivial | exact hP1 | exact hP2) ?_ ?_
      · refine ⟨?_, ?_, ?_, ?_, ?_, ?_, ?_, ?_, ?_, ?_, ?_, trivial⟩
        · intro a w' hS hO hF' hP K hK
          have ha := hO 5 (by rfl)
          refine if_ok (by rfl) ?_
          refine wp_fa0 _ rfl (ev ha) ?_
          exact hK _ w' (fun h => by cases h) (keepK_same hS) rfl
        · intro a w' hS hO hF' hP K hK
          have O := hP 10 _ (by rfl) rfl
          obtain ⟨_, f0, rfl⟩ := (hF' 0 rfl).1 15 _ rfl rfl
          refine if_ok (by rfl) ?_
          refine wp_ldS _ rfl (ev f0) (O.cell 0) ?_
          exact hK _ w' (fun h => by cases h) (keepK_same hS) rfl
        · intro a w' hS hO hF' hP K hK
          have ha := hO 0 (by rfl)
          refine if_ok (by rfl) ?_
          unfold Oper.wp execOp
          simp only [Sem.run_pure, ev ha]
          exact hK _ w' (fun h => by cases h) (keepK_same hS) rfl
        · intro a w' hS hO hF' hP K hK
          have ha := hO 6 (by rfl)
          refine if_ok (by rfl) ?_
          unfold Oper.wp execOp
          simp only [Sem.run_pure, ev ha]
          exact hK _ w' (fun h => by cases h) (keepK_same hS) rfl
        · intro a w' hS hO hF' hP K hK
          obtain ⟨_, f0, rfl⟩ := (hF' 2 rfl).1 17 _ rfl rfl
          obtain ⟨_, f1, rfl⟩ := (hF' 3 rfl).1 18 _ rfl rfl
          refine if_ok (by rfl) ?_
          refine wp_ixB _ _ rfl (ev f0) (ev f1) hlt ?_
          exact hK _ w' (fun h => by cases h) (keepK_same hS) rfl
        · intro a w' hS hO hF' hP K hK
          obtain ⟨_, f0, rfl⟩ := (hF' 4 rfl).1 19 _ rfl rfl
          refine if_ok (by rfl) ?_
          refine wp_ldB _ rfl (ev f0) (rdb_cell hS.2.1 hlt) ?_
          exact hK _ w' (fun h => by cases h) (keepK_same hS) rfl
        · intro a w' hS hO hF' hP K hK
          obtain ⟨_, f0, rfl⟩ := (hF' 5 rfl).1 20 _ rfl rfl
          refine if_ok (by rfl) ?_
          refine wp_calls rfl (enters_of Tryz.func117 (by kernel_rfl) rfl) (args := #[.bool (x.testBit j)]) (by simp [Act.eval, f0]) ?_
          refine (rfrom_any _ _).mono ?_
          rintro e w2 ⟨rfl, q, rfl⟩
          exact ⟨_, rfl, hK _ _ (fun h => by cases h) (keepK_below (below_drewN (Below.refl _ _) q) hS) rfl⟩
        · intro a w' hS hO hF' hP K hK
          obtain ⟨_, f0, rfl⟩ := (hF' 6 rfl).1 21 _ rfl rfl
          have hsz := hS.2.2.size
          refine if_ok (by rfl) ?_
          refine wp_bs1 _ rfl (ev f0) ?_
          exact hK _ _ (fun h => by cases h) (keepK_below (below_new (Below.refl _ _) _) hS) ⟨_, rfl, Own.new _ _ _, hsz⟩
        · intro a w' hS hO hF' hP K hK
          obtain ⟨_, f0, rfl⟩ := (hF' 1 rfl).1 16 _ rfl rfl
          obtain ⟨_, f1, g0, rfl, hO1, hg1⟩ := (hF' 7 rfl).1 22 _ rfl rfl
          have hN := hP 8 _ (by rfl) rfl
          have hsz := hS.2.2.size
          refine if_ok (by rfl) ?_
          refine wp_cat _ _ rfl rfl hsz (ev f0) hN (ev f1) (Rb.of_own hO1 (nnL_one (fromI_nn _)) rfl) (by omega) ?_
          intro A9 c9 w9 hN9 hg9
          exact hK _ w9 (fun h => by cases h) (keepK_grown hN.rowB hg9 hsz inferInstance ⟨inferInstance, inferInstance, inferInstance, inferInstance, inferInstance, inferInstance, inferInstance, inferInstance, inferInstance, inferInstance, trivial⟩ ⟨.inr inferInstance, .inr inferInstance, .inr inferInstance, .inr inferInstance, .inr inferInstance, .inr inferInstance, .inr inferInstance, .inl rfl, .inl rfl, .inr inferInstance, .inl rfl, trivial⟩ hS) ⟨A9, c9, rfl, hN9⟩
        · intro a w' hS hO hF' hP K hK
          have ha := hO 5 (by rfl)
          refine if_ok (by rfl) ?_
          refine wp_fa0 _ rfl (ev ha) ?_
          exact hK _ w' (fun h => by cases h) (keepK_same hS) rfl
        · intro a w' hS hO hF' hP K hK
          obtain ⟨_, f0, rfl⟩ := (hF' 9 rfl).1 24 _ rfl rfl
          obtain ⟨_, f1, A9, c9, rfl, hN⟩ := (hF' 8 rfl).1 23 _ rfl rfl
          have O := hP 10 _ (by rfl) rfl
          refine if_ok (by rfl) ?_
          refine wp_st0 _ _ rfl (ev f0) (ev f1) O ?_
          exact hK _ _ (fun _ => rfl) (keepK_store O inferInstance ⟨inferInstance, inferInstance, inferInstance, inferInstance, inferInstance, inferInstance, inferInstance, inferInstance, inferInstance, inferInstance, trivial⟩ ⟨inferInstance, inferInstance, inferInstance, inferInstance, inferInstance, inferInstance, inferInstance, inferInstance, inferInstance, inferInstance, trivial⟩ hS) ⟨A9, c9, O.row, hN.row O⟩
      · intro vs u hl hS hV
        match vs, hl, hV with
        | [v0, v1, v2, v3, v4, v5, v6, v7, v8, v9, v10], _, hV =>
          simp only [puts, Act.put, List.setIfInBounds_toArray, List.set_cons_zero, List.set_cons_succ]
          obtain ⟨A9, c9, OU, hN9⟩ := hV 10 _ rfl rfl
          have hbx := hS.2.2
          have h1 := hS.1
          clear hV hS
          go_wp2
          go_roundw
          case rel => exact ⟨j + 1, A9, c9, by omega, by go_num, Lib.hid h1, Lib.hid OU, Lib.hid (by rw [frN, tab_snoc]; exact hN9), Lib.hid hbx⟩
          case measure => simp [intOf]; omega
    · obtain rfl : j = n := by omega
      have g0 := H0.out.cell 0
      have g1 := H0.out.cell 1
      have g2 := H0.out.free 0
      have g3 := H0.out.free 1
      have k0 := H1.out.cell 0
      have k1 := H1.out.cell 1
      go_wp2
      exact ret_vec Tryz.results76 rfl rfl (H0.out.put2 _ _) (RetV.mk' (v := ⟨frN j x, s⟩) ((HN.out.setT H0.out (by decide) 0 _).setT (H0.out.put 0 _) (by decide) 1 _) (below_set2 HB.out (Nat.le_refl _) _ _))
end Go.Proofs.YtgojnpblhfbdpaaGreatDoor

namespace Go.Proofs.YtgojnpblhfbdpaaGreatDoor
open Go Go.RowKit

set_option maxRecDepth 100000 in
theorem num_snoc : ∀ (l : List Int) (b : Int), num (l ++ [b]) = num l + 2 ^ l.length * (b == 1).toNat
  | [], b => by
    simp only [List.nil_append, num, List.length_nil, Nat.pow_zero]
    by_cases h : b = 1
    · subst h; rfl
    · rw [if_neg h, show (b == 1) = false by simpa using h]; rfl
  | a :: l, b => by
    rw [List.cons_append, num, num_snoc l b, num, List.length_cons, Nat.pow_succ]
    generalize 2 ^ l.length = p
    generalize (b == 1).toNat = q
    rw [Nat.mul_add, Nat.mul_comm p 2, Nat.mul_assoc, Nat.add_assoc]
set_option maxRecDepth 100000 in
theorem take_snoc {l : List Int} {j : Nat} (h : j < l.length) : l.take (j + 1) = l.take j ++ [nth l j] := by
  rw [List.take_add_one, nth, List.getD_eq_getElem?_getD, List.getElem?_eq_getElem h]; rfl
set_option maxRecDepth 100000 in
theorem num_nextB {l : List Int} {j : Nat} (h : j < l.length) : num (l.take (j + 1)) = num (l.take j) + 2 ^ j * (nth l j == 1).toNat := by
  rw [take_snoc h, num_snoc, List.length_take, Nat.min_eq_left (by omega)]
set_option maxRecDepth 100000 in
set_option maxHeartbeats 2000000 in
theorem rBools_any (A : Option Addr) (n c : Nat) (s : Bool) (l : List Int) (w : World) (h : Rb w A n l) (hn : n ≤ 1000) :
    Calls Tryz.prog 57 #[.agg #[.slice A n c, .bool s]] w (B.RetN w n (num l)) := by
  have O0 := (Own.at1 w 26 #[.slice A n c, .bool s] (g := w.heap.size) (by simp))
  have BB := (below_new (Below.refl w.heap.size w) (.cells #[.slice A n c, .bool s] 26))
  have hl := h.len
  have hb0 := h.step BB
  have q0 := O0.cell 0
  replace hl := Lib.hid hl
  replace h := Lib.hid h
  go_enter Tryz.func57, Tryz.ntmps57
  go_wp2
  generalize (w.alloc (.cells #[.slice A n c, .bool s] 26)) = W0 at *
  go_loopw [3, 4] (fun r i wr => ∃ (j : Nat) (A' : Option Addr) (c' : Nat), j ≤ n ∧ i = .int .i64 j ∧ r = .slice A' j c' ∧ Hid (Own wr w.heap.size 26 #[.slice A n c, .bool s]) ∧ Hid (B.Nw wr W0.heap.size A' j c' (num (l.take j))) ∧ Hid (Below W0.heap.size W0 wr)) (fun _ i _ => n - (intOf i).toNat)
  case atStart => exact ⟨0, none, 0, Nat.zero_le _, rfl, rfl, Lib.hid O0, Lib.hid (B.Nw.nil _ _), Lib.hid (Below.refl _ _)⟩
  case round =>
    obtain ⟨j, A', c', hj, rfl, rfl, H0, HN, HB⟩ := hrel
    have p0 := H0.out.cell 0
    by_cases hlt : j < n
    · obtain ⟨b1, o1, rfl, hl1, hc1⟩ := (hb0.step HB.out).at_ hlt
      have i1 : (j : Int) < n := by omega
      have hnx := Lib.hid (num_nextB (l := l) (by rw [hl.out]; exact hlt))
      have hlt0 := O0.lt
      have HB1 := HB.out
      have HN1 := HN.out
      replace hb0 := Lib.hid hb0
      generalize hy : nth l j = y at *
      clear q0
      go_wp2_with (at_builtin; refine B.wpList_push rfl (.tmp 12) (.tmp 19) rfl rfl HB1 rfl HN1 _ rfl (y == 1) rfl (by omega) ?_; intro A9 c9 w9 hN9 hb9)
      go_roundw
      case rel => exact ⟨j + 1, A9, c9, by omega, by go_num, rfl, Lib.hid (O0.step hb9), Lib.hid (by rw [hnx.out]; exact hN9), Lib.hid hb9⟩
      case measure => simp [intOf]; omega
    · obtain rfl : j = n := by omega
      have e : l.take j = l := List.take_of_length_le (by rw [hl.out]; exact Nat.le_refl _)
      have HN1 := HN.out
      rw [e] at HN1
      clear hb0
      go_wp2
      go_ret
      exact ⟨_, _, rfl, HN1.mono BB.size, below_step BB HB.out⟩
end Go.Proofs.YtgojnpblhfbdpaaGreatDoor

namespace Go.Proofs.YtgojnpblhfbdpaaGreatDoor
open Go Go.RowKit

set_option maxRecDepth 100000 in
theorem vw_no {m : Int} (h : vwB m = false) : m < 1 ∨ (decide (m < 1) = false ∧ decide (128 < m) = true) := by
  unfold vwB at h
  by_cases h1 : m < 1
  · exact .inl h1
  · rw [show decide (1 ≤ m) = true by simp; omega, Bool.true_and] at h
    exact .inr ⟨by simpa using h1, by simp at h ⊢; omega⟩
set_option maxRecDepth 100000 in
set_option maxHeartbeats 2000000 in
theorem rFromInt_v (z m : Int) (s : Bool) (w : World) : Calls Tryz.prog 39 #[.int .i64 z, .int .i64 m, .bool s] w (RetE w (fromV z m s) (vwE m)) := by
  have O0 := (Own.at1 w 26 #[.slice none 0 0, .bool false] (g := w.heap.size) (by simp))
  have BB := (below_new (Below.refl w.heap.size w) (.cells #[.slice none 0 0, .bool false] 26))
  unfold fromV vwE
  have qO00 := O0.cell 0; have qO01 := O0.cell 1; have fO00 := O0.free 0; have fO01 := O0.free 1
  cases hv : vwB m
  · simp only [Bool.false_eq_true, if_false]
    rcases vw_no hv with h1 | ⟨h1, h2⟩
    · have d1 : decide (m < 1) = true := by simpa using h1
      clear hv h1
      go_enter Tryz.func39, Tryz.ntmps39
      go_wp2
      exact ret_vecE Tryz.results39 rfl rfl rfl O0 (RetE.mk' (v := nilV) (Nb.nil _ _) BB)
    · clear hv
      go_enter Tryz.func39, Tryz.ntmps39
      go_wp2
      exact ret_vecE Tryz.results39 rfl rfl rfl O0 (RetE.mk' (v := nilV) (Nb.nil _ _) BB)
  · simp only [if_true]
    obtain ⟨k, rfl, hk1, hk2⟩ := vw_of hv
    simp only [Int.toNat_natCast]
    have HF := Lib.hid (fun (u : World) => B.rFromInt_any z k u hk2)
    generalize B.fi z k = x at *
    have d1 : decide ((k : Int) < 1) = false := by simp; omega
    have d2 : decide ((128 : Int) < k) = false := by simp; omega
    clear hv
    go_enter Tryz.func39, Tryz.ntmps39
    go_wp2_with (first
      | (go_at_call 52; refine (HF.out _).mono ?_; rintro e w2 ⟨X2, x2, rfl, nn2, hb2⟩; replace BB := below_step BB hb2; replace O0 := O0.step hb2)
      | (go_at_call 76; refine (rFromBools_any X2 k x2 x s _ nn2.rd (by omega)).mono ?_; rintro e w9 ⟨A9, c9, rfl, n9, hb9⟩; simp only [frN_len] at n9 ⊢; have L1 := O0.lt; have W2 := O0.step hb9; have qW20 := W2.cell 0; have qW21 := W2.cell 1; have fW20 := W2.free 0; have fW21 := W2.free 1))
    exact ret_vecE Tryz.results39 rfl rfl rfl (W2.put2 _ _) (RetE.mk' (v := ⟨frN k x, s⟩) ((n9.far2 L1 _ _).mono BB.size) (below_set2 (below_step BB hb9) (Nat.le_refl _) _ _))
end Go.Proofs.YtgojnpblhfbdpaaGreatDoor

namespace Go.Proofs.YtgojnpblhfbdpaaGreatDoor
open Go Go.RowKit

end Go.Proofs.YtgojnpblhfbdpaaGreatDoor
