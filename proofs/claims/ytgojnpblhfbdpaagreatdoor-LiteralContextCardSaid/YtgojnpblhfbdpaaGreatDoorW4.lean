/-
  Contracts of the statements' own functions Own, int4. Conditions: at most a million bits.
-/
import Derived.Test.YtgojnpblhfbdpaaGreatDoorW3
import Derived.Test.YtgojnpblhfbdpaaGreatDoorW2
namespace Go.Proofs.YtgojnpblhfbdpaaGreatDoor
open Go Go.RowKit

set_option maxRecDepth 100000 in
set_option maxHeartbeats 2000000 in
theorem own_v (A : Option Addr) (n c : Nat) (s : Bool) (l : List Int) (w : World) (h : Rb w A n l) (hn : n ≤ 1000) :
    Calls Tryz.prog 19 #[.agg #[.slice A n c, .bool s]] w (RetV w ⟨l, s⟩) := by
  have O0 := ((Own.at1 w 26 #[.slice A n c, .bool s] (g := w.heap.size) (by simp)).alloc (.cells #[.slice none 0 0, .bool false] 26))
  have O1 := (Own.at1 (w.alloc (.cells #[.slice A n c, .bool s] 26)) 26 #[.slice none 0 0, .bool false] (g := w.heap.size + 1) (by simp))
  have BB := (below_new (below_new (Below.refl w.heap.size w) (.cells #[.slice A n c, .bool s] 26)) (.cells #[.slice none 0 0, .bool false] 26))
  have q0 := O0.cell 0; have q1 := O0.cell 1
  have hS0 : owns w.heap.size #[.slice A n c, .bool s] ((w.alloc (.cells #[.slice A n c, .bool s] 26)).alloc (.cells #[.slice none 0 0, .bool false] 26)).drew ∧ rdo w.heap.size A n l ((w.alloc (.cells #[.slice A n c, .bool s] 26)).alloc (.cells #[.slice none 0 0, .bool false] 26)).drew ∧ blw w ((w.alloc (.cells #[.slice A n c, .bool s] 26)).alloc (.cells #[.slice none 0 0, .bool false] 26)).drew := ⟨O0, rdo.of h BB.drew, BB.drew⟩
  have hP7 : owns (w.heap.size + 1) #[.slice none 0 0, .bool false] ((w.alloc (.cells #[.slice A n c, .bool s] 26)).alloc (.cells #[.slice none 0 0, .bool false] 26)).drew := O1
  clear O0 O1 BB q0 q1 h
  haveI : Over w (w.heap.size + 1) := ⟨by omega⟩
  haveI : Apart (w.heap.size + 1) w.heap.size := ⟨by omega⟩
  go_enter Tryz.func19, Tryz.ntmps19
  go_wp2
  refine region_k (by kernel_rfl) (fun u => owns w.heap.size #[.slice A n c, .bool s] u ∧ rdo w.heap.size A n l u ∧ blw w u) [tru, tru, tru, tru, tru, tru, tru, owns (w.heap.size + 1) #[.slice none 0 0, .bool false]] [isNil w.heap.size, isV (.pointer (some ⟨w.heap.size, 0, none⟩)), isV (.slice A n c), isNbL w.heap.size n l, isV (.pointer (some ⟨w.heap.size, 1, none⟩)), isV (.bool s), isN w.heap.size ⟨l, s⟩, didN w.heap.size (w.heap.size + 1) ⟨l, s⟩] [some 3, some 4, some 5, some 6, some 7, some 8, some 9, none] [[], [], [1], [0, 2], [], [4], [3, 5], [6, 3, 0, 1, 2, 3, 4, 5, 6]] [[], [], [1], [0, 2], [], [4], [3, 5], [6]] [[], [], [], [0], [], [], [], []] [[], [], [], [0, 6, 7], [], [], [], []] (by kernel_rfl) (by kernel_rfl) (by kernel_rfl) (by kernel_rfl) (by kernel_rfl) rfl (by kernel_rfl) (by kernel_rfl) (by kernel_rfl) hS0 (by
    intro U hU
    simp only [List.mem_cons, List.not_mem_nil, or_false] at hU
    rcases hU with rfl | rfl | rfl | rfl | rfl | rfl | rfl | rfl
    all_goals first | trivial | exact hP7) ?_ ?_
  · refine ⟨?_, ?_, ?_, ?_, ?_, ?_, ?_, ?_, trivial⟩
    · intro a w' hS hO hF' hP K hK
      refine if_ok (by rfl) ?_
      refine wp_bs0 rfl ?_
      exact hK _ _ (fun h => by cases h) (keepK_below (below_new (Below.refl _ _) _) hS) ⟨_, rfl, Nb.of_own (Own.new _ _ (ia [])) (fun _ h => by simp at h) rfl (by have := hS.2.2.size; omega) (Nat.zero_le _)⟩
    · intro a w' hS hO hF' hP K hK
      have ha := hO 1 (by rfl)
      refine if_ok (by rfl) ?_
      refine wp_fa0 _ rfl (ev ha) ?_
      exact hK _ w' (fun h => by cases h) (keepK_same hS) rfl
    · intro a w' hS hO hF' hP K hK
      obtain ⟨_, f0, rfl⟩ := (hF' 1 rfl).1 4 _ rfl rfl
      refine if_ok (by rfl) ?_
      refine wp_ldS _ rfl (ev f0) (hS.1.cell 0) ?_
      exact hK _ w' (fun h => by cases h) (keepK_same hS) rfl
    · intro a w' hS hO hF' hP K hK
      obtain ⟨_, f0, g0, rfl, hN⟩ := (hF' 0 rfl).1 3 _ rfl rfl
      obtain ⟨_, f1, rfl⟩ := (hF' 2 rfl).1 5 _ rfl rfl
      refine if_ok (by rfl) ?_
      refine wp_cat _ _ rfl rfl hS.2.2.size (ev f0) hN (ev f1) (hS.2.1.1) (by omega) ?_
      intro A9 c9 w9 hN9 hg9
      rw [Nat.zero_add] at *
      exact hK _ w9 (fun h => by cases h) (keepK_grown hN.rowB hg9 hS.2.2.size inferInstance ⟨inferInstance, inferInstance, inferInstance, inferInstance, inferInstance, inferInstance, inferInstance, trivial⟩ ⟨.inl rfl, .inr inferInstance, .inr inferInstance, .inl rfl, .inr inferInstance, .inr inferInstance, .inl rfl, .inl rfl, trivial⟩ hS) ⟨A9, c9, rfl, hN9⟩
    · intro a w' hS hO hF' hP K hK
      have ha := hO 1 (by rfl)
      refine if_ok (by rfl) ?_
      refine wp_fa1 _ rfl (ev ha) ?_
      exact hK _ w' (fun h => by cases h) (keepK_same hS) rfl
    · intro a w' hS hO hF' hP K hK
      obtain ⟨_, f0, rfl⟩ := (hF' 4 rfl).1 7 _ rfl rfl
      refine if_ok (by rfl) ?_
      refine wp_ldB _ rfl (ev f0) (hS.1.cell 1) ?_
      exact hK _ w' (fun h => by cases h) (keepK_same hS) rfl
    · intro a w' hS hO hF' hP K hK
      obtain ⟨_, f0, A9, c9, rfl, hN⟩ := (hF' 3 rfl).1 6 _ rfl rfl
      obtain ⟨_, f1, rfl⟩ := (hF' 5 rfl).1 8 _ rfl rfl
      have e := hN.len
      refine if_ok (by rfl) ?_
      refine wp_bld _ _ rfl (ev f0) (ev f1) ?_
      subst e
      exact hK _ w' (fun h => by cases h) (keepK_same hS) ⟨A9, c9, rfl, hN⟩
    · intro a w' hS hO hF' hP K hK
      have O := hP 7 _ (by rfl) rfl
      have ha := hO 2 (by rfl)
      obtain ⟨_, f1, A9, c9, rfl, hN⟩ := (hF' 6 rfl).1 9 _ rfl rfl
      refine if_ok (by rfl) ?_
      refine wp_store_row _ _ _ rfl (w.heap.size + 1) _ (ev ha) (ev f1) _ _ O vec_size rfl (by simp [Value.oneCell']) ?_
      exact hK _ _ (fun _ => rfl) (keepK_store O inferInstance ⟨inferInstance, inferInstance, inferInstance, inferInstance, inferInstance, inferInstance, inferInstance, trivial⟩ ⟨inferInstance, inferInstance, inferInstance, inferInstance, inferInstance, inferInstance, inferInstance, trivial⟩ hS) ⟨A9, c9, O.row, hN.row O⟩
  · intro vs u hl hS hV
    match vs, hl, hV with
    | [v0, v1, v2, v3, v4, v5, v6, v7], _, hV =>
      simp only [puts, Act.put, List.setIfInBounds_toArray, List.set_cons_zero, List.set_cons_succ]
      obtain ⟨A9, c9, OU, hN⟩ := hV 7 _ rfl rfl
      have hb9 := hS.2.2
      clear hV hS
      go_wp2
      exact ret_vec Tryz.results19 rfl rfl OU (RetV.mk' (v := ⟨l, s⟩) hN hb9)
set_option maxRecDepth 100000 in
theorem own_w (A : Option Addr) (n c : Nat) (s : Bool) (l : List Int) (w : World) (h : Rb w A n l) (hn : n ≤ 140) :
    Calls Tryz.prog 19 #[.agg #[.slice A n c, .bool s]] w (RetW w ⟨l, s⟩) := (own_v A n c s l w h (by omega)).mono fun _ _ ⟨A', c', e, hN, hB⟩ => ⟨A', _, c', e, hN.le, by have := h.len; simp only; omega, hN, hB⟩
end Go.Proofs.YtgojnpblhfbdpaaGreatDoor
