/-
  A store of one bit into a row of the call's own, for one operation of a region whose order is open. No conditions.
  Contracts of the reference's Check and Norm. Conditions: at most a million bits.
  Contracts of the reference's Norm. Conditions: at most a million bits.
  Contracts of the reference's Known, Truth and WithSign. Conditions: at most a million bits.
  Contracts of the reference's Truth, WithSign, single. Conditions: at most a million bits.
  Contracts of the reference's Leq. Conditions: at most a million bits.
  Contracts of the reference's Fill, Unknown. Conditions: at most a million bits.
-/
import Derived.Test.YtgojnpblhfbdpaaGreatDoorQm
import Derived.Test.YtgojnpblhfbdpaaGreatDoorQn

namespace Go.Proofs.YtgojnpblhfbdpaaGreatDoor
open Go Go.RowKit

theorem nnL_set {l : List Int} (h : nnL l) (p : Nat) {v : Int} (hv : 0 ≤ v) : nnL (l.set p v) := fun a ha => by
  rcases List.mem_or_eq_of_mem_set ha with h1 | rfl
  · exact h a h1
  · exact hv
theorem Nb.put {u : World} {B g n c p : Nat} {l : List Int} {v : Int} (h : Nb u B (some ⟨g, 0, none⟩) n c l) (_hp : p < n) (hv : 0 ≤ v) : Nb (u.setCell ⟨g, p, none⟩ (.int .u8 v)) B (some ⟨g, 0, none⟩) n c (l.set p v) := by
  refine ⟨by rw [List.length_set]; exact h.1, nnL_set h.2.1 p hv, by rw [← il_set, List.length_set]; exact h.2.2.1, ?_⟩
  rcases h.2.2.2 with ⟨e, h0⟩ | ⟨g', cap, cur, e, hB, hh, hc, hm, hs, ht⟩
  · simp only [Value.slice.injEq] at e
    exact absurd e.1 (by simp)
  · have e1 := e
    simp only [Value.slice.injEq, Option.some.injEq, Addr.mk.injEq, and_true] at e1
    obtain ⟨rfl, _, _⟩ := e1
    refine .inr ⟨g, cap, cur.setIfInBounds p (.int .u8 v), e, hB, Own.put (show Own u g _ cur from hh) p _, hc, hm, by simpa using hs, ?_⟩
    rw [Array.toList_setIfInBounds, List.take_set, ht, il_set]
/-- Something that a store of a bit at place p of block g leaves as it was. -/
class Sbt (g p : Nat) (U : World → Prop) : Prop where
  st : ∀ u v cs, Own u g 58 cs → U u → U (u.setCell ⟨g, p, none⟩ v)
class SbtV (g p : Nat) (V : Value → World → Prop) : Prop where
  st : ∀ q u v cs, Own u g 58 cs → V q u → V q (u.setCell ⟨g, p, none⟩ v)
theorem own_bit {u : World} {g h p : Nat} {v : Value} {T : TypeId} {cs cs' : Array Value} (O : Own u g 58 cs) (hT : T ≠ 58) (H : Own u h T cs') : Own (u.setCell ⟨g, p, none⟩ v) h T cs' :=
  Own.far H (p := ⟨g, p, none⟩) (fun e => by
    simp only at e
    subst e
    have h1 : u.heap[h]? = _ := O
    have h2 : u.heap[h]? = _ := H
    rw [h1] at h2
    simp at h2
    exact hT h2.2.symm) v
instance (g p : Nat) : Sbt g p tru := ⟨fun _ _ _ _ _ => trivial⟩
instance (g p h : Nat) (cs : Array Value) : Sbt g p (owns h cs) := ⟨fun _ _ _ O H => own_bit O (by decide) H⟩
instance (g p h : Nat) (T : TypeId) (cs : Array Value) [N : NotBit T] : Sbt g p (ownT h T cs) := ⟨fun _ _ _ O H => own_bit O N.ne H⟩
instance (W : World) (g p : Nat) [h : Over W g] : Sbt g p (blw W) := ⟨fun _ _ _ _ hb => below_set hb h.le _⟩
instance (g p B : Nat) : Sbt g p (szW B) := ⟨fun _ _ _ _ h => by unfold szW at *; simpa using h⟩
/-- The slice reads as l, and lies in another block than g. -/
def rdx (g : Nat) (A : Option Addr) (n : Nat) (l : List Int) : World → Prop := fun u => Rb u A n l ∧ ∀ b o, A = some ⟨b, o, none⟩ → 0 < n → b ≠ g
instance (g : Nat) (A : Option Addr) (n : Nat) (l : List Int) : Stb (rdx g A n l) := ⟨fun _ _ hb ⟨h, k⟩ => ⟨h.step hb, k⟩⟩
instance (g p : Nat) (A : Option Addr) (n : Nat) (l : List Int) : Sbt g p (rdx g A n l) := ⟨fun u v cs _ ⟨h, k⟩ => ⟨⟨h.1, h.2.1, fun hn => by
  obtain ⟨b, o, e, hlt, hc⟩ := h.2.2 hn
  have hne := k b o e hn
  refine ⟨b, o, e, by simpa using hlt, fun i hi => ?_⟩
  have h5 := hc i hi
  have h6 : (u.setCell ⟨g, p, none⟩ v).heap[b]? = u.heap[b]? := Below.heap_setCell u ⟨g, p, none⟩ v b hne
  unfold World.cell? at h5 ⊢
  simp only [h6]
  exact h5⟩, k⟩⟩
theorem rdx_cell {g : Nat} {u : World} {b o n k : Nat} {l : List Int} (h : rdx g (some ⟨b, o, none⟩) n l u) (hk : k < n) : u.cell? ⟨b, o + k, none⟩ = some (.int .u8 (nth l k)) := by
  obtain ⟨b', o', e, _, hc⟩ := h.1.at_ hk
  have e1 := Option.some.inj e
  simp only [Addr.mk.injEq, and_true] at e1
  obtain ⟨rfl, rfl⟩ := e1
  exact hc
/-- From place k on the row in block b reads as l. -/
def rdj (b n : Nat) (l : List Int) (k : Nat) : World → Prop := fun u => ∀ i, k ≤ i → i < n → u.cell? ⟨b, 0 + i, none⟩ = some (.int .u8 (nth l i))
instance (b n : Nat) (l : List Int) (k : Nat) : Stb (rdj b n l k) := ⟨fun _ _ hb h i h1 h2 => cell_step hb (h i h1 h2)⟩
instance (g b n : Nat) (l : List Int) (p : Nat) : Sbt g p (rdj b n l (p + 1)) := ⟨fun u v cs _ h i h1 h2 => by
  have hne : (⟨g, p, none⟩ : Addr) ≠ ⟨b, 0 + i, none⟩ := fun e => by
    simp only [Addr.mk.injEq, and_true] at e
    omega
  exact (World.cell?_setCell_other _ _ _ _ (by first | exact hne | exact Ne.symm hne)).trans (h i h1 h2)⟩
instance {g p : Nat} {U U' : World → Prop} [h : Sbt g p U] [h' : Sbt g p U'] : Sbt g p (fun u => U u ∧ U' u) := ⟨fun u v cs O ⟨x, y⟩ => ⟨h.st u v cs O x, h'.st u v cs O y⟩⟩
instance (g p : Nat) (x : Value) : SbtV g p (isV x) := ⟨fun _ _ _ _ _ h => h⟩
instance (g p : Nat) : SbtV g p anyV := ⟨fun _ _ _ _ _ h => h⟩
def SbPs (g p : Nat) : Nat → List (World → Prop) → Prop
  | _, [] => True
  | 0, _ :: l => SbPs g p l.length l
  | i + 1, U :: l => Sbt g p U ∧ SbPs g p i l
theorem sbPs_get {g p : Nat} : ∀ (l : List (World → Prop)) (i j : Nat), SbPs g p i l → j ≠ i → ∀ U, l[j]? = some U → Sbt g p U
  | [], _, _, _, _, U, h => by simp at h
  | X :: l, 0, 0, _, hj, _, _ => absurd rfl hj
  | X :: l, 0, j + 1, hs, _, U, h => by
    have hl : j < l.length := (List.getElem?_eq_some_iff.1 (by simpa using h)).1
    exact sbPs_get l l.length j hs (by omega) U (by simpa using h)
  | X :: l, i + 1, 0, hs, _, U, h => by simp at h; subst h; exact hs.1
  | X :: l, i + 1, j + 1, hs, hj, U, h => sbPs_get l i j hs.2 (by omega) U (by simpa using h)
def SbVs (g p : Nat) : Nat → List (Value → World → Prop) → Prop
  | _, [] => True
  | 0, _ :: l => SbVs g p l.length l
  | i + 1, V :: l => SbtV g p V ∧ SbVs g p i l
theorem sbVs_get {g p : Nat} : ∀ (l : List (Value → World → Prop)) (i j : Nat), SbVs g p i l → j ≠ i → ∀ U, l[j]? = some U → SbtV g p U
  | [], _, _, _, _, U, h => by simp at h
  | X :: l, 0, 0, _, hj, _, _ => absurd rfl hj
  | X :: l, 0, j + 1, hs, _, U, h => by
    have hl : j < l.length := (List.getElem?_eq_some_iff.1 (by simpa using h)).1
    exact sbVs_get l l.length j hs (by omega) U (by simpa using h)
  | X :: l, i + 1, 0, hs, _, U, h => by simp at h; subst h; exact hs.1
  | X :: l, i + 1, j + 1, hs, hj, U, h => sbVs_get l i j hs.2 (by omega) U (by simpa using h)
theorem keepK_bit {S : World → Prop} {PS : List (World → Prop)} {VS : List (Value → World → Prop)} {kl : List (List Nat)} {i g p : Nat} {w : World} {v : Value} {cs : Array Value} (O : Own w g 58 cs) (hS : Sbt g p S) (hP : SbPs g p i PS) (hV : SbVs g p i VS) (h : S w) : KeepK S PS VS kl i w (w.setCell ⟨g, p, none⟩ v) :=
  ⟨hS.st _ _ _ O h, fun j hj U hU h => (sbPs_get PS i j hP hj U hU).st _ _ _ O h, fun j hj _ V hV' q h => (sbVs_get VS i j hV hj V hV').st q _ _ _ O h⟩
section
variable {o : Oper} {a : Act} {w : World} {K : Act → World → Prop} {Q : Exit → Act → World → Prop}
theorem Nb.own1 {u : World} {B g n c : Nat} {l : List Int} (h : Nb u B (some ⟨g, 0, none⟩) n c l) (hn : 0 < n) : ∃ cs, Own u g 58 cs ∧ n ≤ cs.size := by
  obtain ⟨g', cur, e, _, hh, _, hs⟩ := h.own hn
  have e1 := Option.some.inj e
  simp only [Addr.mk.injEq, and_true] at e1
  subst e1
  exact ⟨cur, hh, hs⟩
theorem run_stU {g p B n c : Nat} {l : List Int} (hN : Nb w B (some ⟨g, 0, none⟩) n c l) (hp : p < n) (v : Int) : (Instr.storeAt 58 (.pointer (some ⟨g, p, none⟩)) (.int .u8 v)).run Tryz.prog w = .ok () (w.setCell ⟨g, p, none⟩ (.int .u8 v)) := by
  obtain ⟨b, o, e, _, hc⟩ := hN.rd.at_ hp
  have e1 := Option.some.inj e
  simp only [Addr.mk.injEq, and_true] at e1
  obtain ⟨rfl, rfl⟩ := e1
  rw [Nat.zero_add] at hc
  obtain ⟨cs, O, _⟩ := hN.own1 (by omega)
  have h2 := O.free p
  simp [go_sem, hc, h2]
theorem wp_stU (x y : Operand) (ho : o.op = .store 58 x y) {g p B n c : Nat} {l : List Int} {v : Int} (hx : a.eval x = .pointer (some ⟨g, p, none⟩)) (hy : a.eval y = .int .u8 v) (hN : Nb w B (some ⟨g, 0, none⟩) n c l) (hp : p < n)
    (h : K (a.put o.dst undef) (w.setCell ⟨g, p, none⟩ (.int .u8 v))) : o.wp Tryz.prog a w K Q := by
  refine wp_unit ?_ h
  unfold execOp
  simp only [ho, hx, hy, Sem.run_bind, run_stU hN hp, Result.andThen_ok, Sem.run_pure]
end
end Go.Proofs.YtgojnpblhfbdpaaGreatDoor

namespace Go.Proofs.YtgojnpblhfbdpaaGreatDoor
open Go Go.RowKit

set_option maxRecDepth 100000 in
theorem any_next {p : Int → Bool} {l : List Int} {j : Nat} (h : ∀ i, i < j → p (nth l i) = false) (hj : p (nth l j) = false) : ∀ i, i < j + 1 → p (nth l i) = false := fun i hi => by
  rcases Nat.lt_or_ge i j with h1 | h1
  · exact h i h1
  · obtain rfl : i = j := by omega
    exact hj
set_option maxRecDepth 100000 in
theorem any_all {p : Int → Bool} {l : List Int} {n : Nat} (hl : l.length = n) (h : ∀ i, i < n → p (nth l i) = false) : l.any p = false := by
  rw [List.any_eq_false]
  intro a ha
  obtain ⟨i, hi, rfl⟩ := List.getElem_of_mem ha
  have := h i (by omega)
  rw [nth, List.getD_eq_getElem?_getD, List.getElem?_eq_getElem hi] at this
  simpa using this
set_option maxRecDepth 100000 in
theorem any_hit {p : Int → Bool} {l : List Int} {i : Nat} (hi : i < l.length) (h : p (nth l i) = true) : l.any p = true := by
  rw [List.any_eq_true]
  refine ⟨l[i], List.getElem_mem hi, ?_⟩
  rw [nth, List.getD_eq_getElem?_getD, List.getElem?_eq_getElem hi] at h
  exact h
set_option maxRecDepth 100000 in
theorem ret_i64 {a b : Int} (h : a = b) : Ending.returned (.int .i64 a) = .returned (.int .i64 b) := by rw [h]
set_option maxRecDepth 100000 in
theorem badB_gt (y : Int) (h : 0 ≤ y) : badB y = decide (3 < y) := by
  unfold badB validB
  by_cases h : y ≤ 3
  · rw [decide_eq_true h, decide_eq_false (by omega)]; rfl
  · rw [decide_eq_false h, decide_eq_true (by omega)]; rfl
set_option maxRecDepth 100000 in
set_option maxHeartbeats 2000000 in
theorem rCheck_any (A : Option Addr) (n c : Nat) (s : Bool) (l : List Int) (w : World) (h : Rb w A n l) (hn : n ≤ 1000000) :
    Calls Tryz.prog 28 #[.agg #[.slice A n c, .bool s]] w fun e w' => e = .returned (.int .i64 (chk l)) ∧ Below w.heap.size w w' := by
  have hl := h.len
  by_cases h0 : n = 0
  · subst h0
    rw [chk_zero hl]
    clear h hl
    go_enter Tryz.func28, Tryz.ntmps28
    go_wp2
    go_ret
    exact ⟨rfl, below_new (Below.refl _ _) _⟩
  · have e0 : ((n : Int) == 0) = false := by simpa using h0
    by_cases h1 : 128 < n
    · rw [chk_long (by omega)]
      clear h hl
      have e1 : decide ((128 : Int) < n) = true := by simp; omega
      go_enter Tryz.func28, Tryz.ntmps28
      go_wp2
      go_ret
      exact ⟨rfl, below_new (Below.refl _ _) _⟩
    · have e1 : decide ((128 : Int) < n) = false := by simp; omega
      rw [chk_rest (by omega) (by omega)]
      obtain ⟨z, hz⟩ : ∃ z, (if l.any badB = true then (1 : Int) else 0) = z := ⟨_, rfl⟩
      rw [hz]
      replace hz := Lib.hid hz
      have O0 := (Own.at1 w 26 #[.slice A n c, .bool s] (g := w.heap.size) (by simp))
      have BB := (below_new (Below.refl w.heap.size w) (.cells #[.slice A n c, .bool s] 26))
      have q0 := O0.cell 0
      have hb0 := h.step BB
      go_enter Tryz.func28, Tryz.ntmps28
      go_wp2
      go_loopw [3] (fun i wr => ∃ j : Nat, j ≤ n ∧ i = .int .i64 j ∧ wr = (w.alloc (.cells #[.slice A n c, .bool s] 26)) ∧ Hid (∀ i, i < j → badB (nth l i) = false)) (fun i _ => n - (intOf i).toNat)
      case atStart => exact ⟨0, Nat.zero_le _, rfl, rfl, Lib.hid fun j hj => absurd hj (Nat.not_lt_zero _)⟩
      case round =>
        obtain ⟨j, hj, rfl, rfl, HT⟩ := hrel
        by_cases hlt : j < n
        · obtain ⟨b1, o1, rfl, hl1, hc1⟩ := hb0.at_ hlt
          have i0 : (0 : Int) ≤ j := by omega
          have i1 : (j : Int) < n := by omega
          have hy := hb0.nn.nth j
          cases ey : badB (nth l j)
          · have hnx := Lib.hid (any_next HT.out ey)
            rw [badB_gt _ hy] at ey
            replace h := Lib.hid h
            replace hb0 := Lib.hid hb0
            generalize nth l j = y at *
            go_wp2
            go_roundw
            case rel => exact ⟨j + 1, by omega, by go_num, trivial, hnx⟩
            case measure => simp [intOf]; omega
          · have hit := Lib.hid (any_hit (p := badB) (by rw [hl]; exact hlt) ey)
            rw [badB_gt _ hy] at ey
            replace h := Lib.hid h
            replace hb0 := Lib.hid hb0
            generalize nth l j = y at *
            go_wp2
            go_ret
            exact ⟨ret_i64 (by rw [← hz.out, hit.out]; rfl), BB⟩
        · obtain rfl : j = n := by omega
          have hzz := Lib.hid (any_all hl HT.out)
          clear h hb0
          go_wp2
          go_ret
          exact ⟨ret_i64 (by rw [← hz.out, hzz.out]; rfl), BB⟩
end Go.Proofs.YtgojnpblhfbdpaaGreatDoor

namespace Go.Proofs.YtgojnpblhfbdpaaGreatDoor
open Go Go.RowKit

set_option maxRecDepth 100000 in
set_option maxHeartbeats 2000000 in
theorem rNorm_any (A : Option Addr) (n c : Nat) (s : Bool) (l : List Int) (w : World) (h : Rb w A n l) (hn : n ≤ 1000000) :
    Calls Tryz.prog 104 #[.agg #[.slice A n c, .bool s]] w (RetV w (nrm ⟨l, s⟩)) := by
  have O0 := ((Own.at1 w 26 #[.slice A n c, .bool s] (g := w.heap.size) (by simp)).alloc (.cells #[.slice none 0 0, .bool false] 26))
  have O1 := (Own.at1 (w.alloc (.cells #[.slice A n c, .bool s] 26)) 26 #[.slice none 0 0, .bool false] (g := w.heap.size + 1) (by simp))
  have BB := (below_new (below_new (Below.refl w.heap.size w) (.cells #[.slice A n c, .bool s] 26)) (.cells #[.slice none 0 0, .bool false] 26))
  have HC := Lib.hid (rCheck_any A n c s l _ (h.step BB) hn)
  rcases nrm_cases ⟨l, s⟩ with ⟨e1, e2⟩ | ⟨e1, e2⟩
  · rw [e2]
    simp only at e1
    rw [e1] at HC
    clear e1 e2
    have q0 := O0.cell 0; have q1 := O0.cell 1
    have hrd := Lib.hid h
    clear h
    go_enter Tryz.func104, Tryz.ntmps104
    go_wp2_with (go_at_call 28; refine HC.out.mono ?_; rintro e w1 ⟨rfl, hb1⟩; replace BB := below_step BB hb1; replace O0 := O0.step hb1; replace O1 := O1.step hb1)
    have hS0 : owns w.heap.size #[.slice A n c, .bool s] w1.drew ∧ rdo w.heap.size A n l w1.drew ∧ blw w w1.drew := ⟨O0, rdo.of hrd.out BB.drew, BB.drew⟩
    have hP7 : owns (w.heap.size + 1) #[.slice none 0 0, .bool false] w1.drew := O1
    clear O0 O1 BB q0 q1
    haveI : Over w (w.heap.size + 1) := ⟨by omega⟩
    haveI : Apart (w.heap.size + 1) w.heap.size := ⟨by omega⟩
    refine region_k (by kernel_rfl) (fun u => owns w.heap.size #[.slice A n c, .bool s] u ∧ rdo w.heap.size A n l u ∧ blw w u) [tru, tru, tru, tru, tru, tru, tru, owns (w.heap.size + 1) #[.slice none 0 0, .bool false]] [isNil w.heap.size, isV (.pointer (some ⟨w.heap.size, 0, none⟩)), isV (.slice A n c), isNbL w.heap.size n l, isV (.pointer (some ⟨w.heap.size, 1, none⟩)), isV (.bool s), isN w.heap.size ⟨l, s⟩, didN w.heap.size (w.heap.size + 1) ⟨l, s⟩] [some 8, some 9, some 10, some 11, some 12, some 13, some 14, none] [[], [], [1], [0, 2], [], [4], [3, 5], [6, 3, 0, 1, 2, 3, 4, 5, 6]] [[], [], [1], [0, 2], [], [4], [3, 5], [6]] [[], [], [], [0], [], [], [], []] [[], [], [], [0, 6, 7], [], [], [], []] (by kernel_rfl) (by kernel_rfl) (by kernel_rfl) (by kernel_rfl) (by kernel_rfl) rfl (by kernel_rfl) (by kernel_rfl) (by kernel_rfl) hS0 (by
      intro U hU
      simp only [List.mem_cons, List.not_mem_nil, or_false] at hU
      rcases hU with rfl | rfl | rfl | rfl | rfl | rfl | rfl | rfl
      all_goals first | trivial | exact hP7) ?_ ?_
    · refine ⟨?_, ?_, ?_, ?_, ?_, ?_, ?_, ?_, trivial⟩
      · intro a w' hS hO hF' hP K hK
        refine if_ok (by rfl) ?_
        refine wp_bs0 rfl ?_
        exact hK _ _ (fun h => by cases h) (keepK_below (below_new (Below.refl _ _) _) hS) ⟨_, rfl, Nb.of_own (Own.new _ _ (ia [])) (fun _ h => by simp at h) rfl (by have := hS.2.2.size; omega) (Nat.zero_le _)⟩
      · intro a w' hS hO hF' hP K hK
        have ha := hO 1 (by rfl)
        refine if_ok (by rfl) ?_
        refine wp_fa0 _ rfl (ev ha) ?_
        exact hK _ w' (fun h => by cases h) (keepK_same hS) rfl
      · intro a w' hS hO hF' hP K hK
        obtain ⟨_, f0, rfl⟩ := (hF' 1 rfl).1 9 _ rfl rfl
        refine if_ok (by rfl) ?_
        refine wp_ldS _ rfl (ev f0) (hS.1.cell 0) ?_
        exact hK _ w' (fun h => by cases h) (keepK_same hS) rfl
      · intro a w' hS hO hF' hP K hK
        obtain ⟨_, f0, g0, rfl, hN⟩ := (hF' 0 rfl).1 8 _ rfl rfl
        obtain ⟨_, f1, rfl⟩ := (hF' 2 rfl).1 10 _ rfl rfl
        refine if_ok (by rfl) ?_
        refine wp_cat _ _ rfl rfl hS.2.2.size (ev f0) hN (ev f1) (hS.2.1.1) (by omega) ?_
        intro A9 c9 w9 hN9 hg9
        rw [Nat.zero_add] at *
        exact hK _ w9 (fun h => by cases h) (keepK_grown hN.rowB hg9 hS.2.2.size inferInstance ⟨inferInstance, inferInstance, inferInstance, inferInstance, inferInstance, inferInstance, inferInstance, trivial⟩ ⟨.inl rfl, .inr inferInstance, .inr inferInstance, .inl rfl, .inr inferInstance, .inr inferInstance, .inl rfl, .inl rfl, trivial⟩ hS) ⟨A9, c9, rfl, hN9⟩
      · intro a w' hS hO hF' hP K hK
        have ha := hO 1 (by rfl)
        refine if_ok (by rfl) ?_
        refine wp_fa1 _ rfl (ev ha) ?_
        exact hK _ w' (fun h => by cases h) (keepK_same hS) rfl
      · intro a w' hS hO hF' hP K hK
        obtain ⟨_, f0, rfl⟩ := (hF' 4 rfl).1 12 _ rfl rfl
        refine if_ok (by rfl) ?_
        refine wp_ldB _ rfl (ev f0) (hS.1.cell 1) ?_
        exact hK _ w' (fun h => by cases h) (keepK_same hS) rfl
      · intro a w' hS hO hF' hP K hK
        obtain ⟨_, f0, A9, c9, rfl, hN⟩ := (hF' 3 rfl).1 11 _ rfl rfl
        obtain ⟨_, f1, rfl⟩ := (hF' 5 rfl).1 13 _ rfl rfl
        have e := hN.len
        refine if_ok (by rfl) ?_
        refine wp_bld _ _ rfl (ev f0) (ev f1) ?_
        subst e
        exact hK _ w' (fun h => by cases h) (keepK_same hS) ⟨A9, c9, rfl, hN⟩
      · intro a w' hS hO hF' hP K hK
        have O := hP 7 _ (by rfl) rfl
        have ha := hO 2 (by rfl)
        obtain ⟨_, f1, A9, c9, rfl, hN⟩ := (hF' 6 rfl).1 14 _ rfl rfl
        refine if_ok (by rfl) ?_
        refine wp_store_row _ _ _ rfl (w.heap.size + 1) _ (ev ha) (ev f1) _ _ O vec_size rfl (by simp [Value.oneCell']) ?_
        exact hK _ _ (fun _ => rfl) (keepK_store O inferInstance ⟨inferInstance, inferInstance, inferInstance, inferInstance, inferInstance, inferInstance, inferInstance, trivial⟩ ⟨inferInstance, inferInstance, inferInstance, inferInstance, inferInstance, inferInstance, inferInstance, trivial⟩ hS) ⟨A9, c9, O.row, hN.row O⟩
    · intro vs u hl hS hV
      match vs, hl, hV with
      | [v0, v1, v2, v3, v4, v5, v6, v7], _, hV =>
        simp only [puts, Act.put, List.setIfInBounds_toArray, List.set_cons_zero, List.set_cons_succ]
        obtain ⟨A9, c9, OU, hN⟩ := hV 7 _ rfl rfl
        have hb9 := hS.2.2
        clear hV hS
        go_wp2
        exact ret_vec Tryz.results104 rfl rfl OU (RetV.mk' (v := ⟨l, s⟩) hN hb9)
  · rw [e2]
    simp only at e1
    have e3 : (chk l != 0) = true := by simpa using e1
    generalize chk l = z at *
    clear e1 e2 h
    go_enter Tryz.func104, Tryz.ntmps104
    go_wp2_with (go_at_call 28; refine HC.out.mono ?_; rintro e w1 ⟨rfl, hb1⟩; replace BB := below_step BB hb1; replace O0 := O0.step hb1; replace O1 := (O1.step hb1).alloc (.cells #[.int .u8 2] 58); have q10 := O1.cell 0; have q11 := O1.cell 1; have f10 := O1.free 0; have f11 := O1.free 1)
    have N9 := Nb.of_own (B := w.heap.size) (Own.new w1 58 (ia [2])) (fun a ha => by simp at ha; subst ha; decide) rfl BB.size (by decide)
    have BB9 := below_new BB (.cells #[.int .u8 2] 58)
    exact ret_vec Tryz.results104 rfl rfl (O1.put2 _ _) (RetV.mk' (v := one1 2) ((N9.setT O1 (by decide) 0 _).setT (O1.put 0 _) (by decide) 1 _) (below_set2 BB9 (Nat.le_succ _) _ _))
end Go.Proofs.YtgojnpblhfbdpaaGreatDoor

namespace Go.Proofs.YtgojnpblhfbdpaaGreatDoor
open Go Go.RowKit

set_option maxRecDepth 100000 in
theorem kn_all {l : List Int} {n : Nat} (hl : l.length = n) (h : ∀ i, i < n → knownB (nth l i) = true) : knL l = true := by
  unfold knL
  rw [List.all_eq_true]
  intro a ha
  obtain ⟨i, hi, rfl⟩ := List.getElem_of_mem ha
  have := h i (by omega)
  rwa [nth, List.getD_eq_getElem?_getD, List.getElem?_eq_getElem hi] at this
set_option maxRecDepth 100000 in
theorem kn_no {l : List Int} {i : Nat} (hi : i < l.length) (h : knownB (nth l i) = false) : knL l = false := by
  unfold knL
  rw [List.all_eq_false]
  refine ⟨l[i], List.getElem_mem hi, ?_⟩
  rw [nth, List.getD_eq_getElem?_getD, List.getElem?_eq_getElem hi] at h
  simpa using h
set_option maxRecDepth 100000 in
set_option maxHeartbeats 2000000 in
theorem rKnown_any (A : Option Addr) (n c : Nat) (s : Bool) (l : List Int) (w : World) (h : Rb w A n l) (hn : n ≤ 1000000) :
    Calls Tryz.prog 58 #[.agg #[.slice A n c, .bool s]] w fun e w' => e = .returned (.bool (kn ⟨l, s⟩)) ∧ Below w.heap.size w w' := by
  have O0 := (Own.at1 w 26 #[.slice A n c, .bool s] (g := w.heap.size) (by simp))
  have BB := (below_new (Below.refl w.heap.size w) (.cells #[.slice A n c, .bool s] 26))
  have HN := Lib.hid (rNorm_any A n c s l _ (h.step BB) hn)
  have hlen := nrm_len ⟨l, s⟩
  have hnn := nrm_nn (v := ⟨l, s⟩) h.nn
  unfold kn
  generalize nrm ⟨l, s⟩ = x at *
  obtain ⟨lx, sx⟩ := x
  simp only at *
  obtain ⟨N, hN⟩ : ∃ N, lx.length = N := ⟨_, rfl⟩
  rw [hN] at hlen
  replace hN := Lib.hid hN

  clear h hn
  go_enter Tryz.func58, Tryz.ntmps58
  go_wp2_with (go_at_call 104; refine HN.out.mono ?_; rintro e w1 ⟨A1, c1, rfl, n1, hb1⟩; simp only [hN.out] at n1 ⊢; replace BB := below_step BB hb1; replace O0 := O0.step hb1; have qO00 := O0.cell 0; have qO01 := O0.cell 1; have fO00 := O0.free 0; have fO01 := O0.free 1; have B1 := below_set2 BB (Nat.le_refl _) (.slice A1 N c1) (.bool sx); have U0 := O0.put2 (.slice A1 N c1) (.bool sx); have n2 := (n1.setT O0 (by decide) 0 (.slice A1 N c1)).setT (O0.put 0 _) (by decide) 1 (.bool sx); skip)
  have r2 := Lib.hid n2.rd
  clear n1 n2 O0 BB hb1
  replace B1 := Lib.hid B1
  generalize (w1.setCell ⟨w.heap.size, 0, none⟩ (.slice A1 N c1)).setCell ⟨w.heap.size, 1, none⟩ (.bool sx) = W0 at *
  go_loopw [3] (fun i wr => ∃ j : Nat, j ≤ N ∧ i = .int .i64 j ∧ Hid (Below W0.heap.size W0 wr) ∧ Hid (∀ i, i < j → knownB (nth lx i) = true)) (fun i _ => N - (intOf i).toNat)
  case atStart => exact ⟨0, Nat.zero_le _, rfl, Lib.hid (Below.refl _ _), Lib.hid fun j hj => absurd hj (Nat.not_lt_zero _)⟩
  case round =>
    obtain ⟨j, hj, rfl, HW, HT⟩ := hrel
    have p0 := (U0.step HW.out).cell 0
    by_cases hlt : j < N
    · obtain ⟨b1, o1, rfl, hl1, hc1⟩ := (r2.out.step HW.out).at_ hlt
      have i0 : (0 : Int) ≤ j := by omega
      have i1 : (j : Int) < N := by omega
      have hq := Lib.hid (fun (u : World) => rknown_any (nth lx j) u)
      replace U0 := Lib.hid U0
      cases ey : knownB (nth lx j)
      · have hno := Lib.hid (kn_no (by rw [hN.out]; exact hlt) ey)
        rw [ey] at hq
        clear ey hnn
        generalize nth lx j = y at *
        go_wp2_with (go_at_call 105; refine (hq.out _).mono ?_; rintro e w4 ⟨rfl, q, rfl⟩)
        go_ret
        exact ⟨ret_b hno.out.symm, below_step B1.out (below_drewN HW.out _)⟩
      · have hnx := Lib.hid (all_nextP (T := fun i => knownB (nth lx i) = true) HT.out ey)
        rw [ey] at hq
        clear ey hnn
        generalize nth lx j = y at *
        go_wp2_with (go_at_call 105; refine (hq.out _).mono ?_; rintro e w4 ⟨rfl, q, rfl⟩)
        go_roundw
        case rel => exact ⟨j + 1, by omega, by go_num, Lib.hid (below_drewN HW.out _), hnx⟩
        case measure => simp [intOf]; omega
    · obtain rfl : j = N := by omega
      have hl := Lib.hid (kn_all hN.out HT.out)
      clear hnn
      go_wp2
      go_ret
      exact ⟨ret_b hl.out.symm, below_step B1.out HW.out⟩
end Go.Proofs.YtgojnpblhfbdpaaGreatDoor

namespace Go.Proofs.YtgojnpblhfbdpaaGreatDoor
open Go Go.RowKit

/-- What the first k bits make from z on. -/
def redZ (z : Int) (f : Int → Int → Int) (l : List Int) : Nat → Int
  | 0 => z
  | k + 1 => f (redZ z f l k) (nth l k)
set_option maxRecDepth 100000 in
theorem redZ_redU {z : Int} {f : Int → Int → Int} {l : List Int} (h : f z (nth l 0) = bufI (nth l 0)) : ∀ k, redZ z f l (k + 1) = redU f l k
  | 0 => h
  | k + 1 => by rw [redZ, redZ_redU h k]; rfl
set_option maxRecDepth 100000 in
theorem redZ_nn {z : Int} {f : Int → Int → Int} (hz : 0 ≤ z) (hf : ∀ a b, 0 ≤ f a b) (l : List Int) : ∀ k, 0 ≤ redZ z f l k
  | 0 => hz
  | _ + 1 => hf _ _
set_option maxRecDepth 100000 in
theorem redZ_truth {l : List Int} {N : Nat} (hN : l.length = N) (h1 : 1 ≤ N) (hn : nnL l) : redZ 0 orI l N = redU orI l (l.length - 1) := by
  obtain ⟨k, rfl⟩ : ∃ k, N = k + 1 := ⟨N - 1, by omega⟩
  rw [redZ_redU (orI_zero (hn.nth 0)), hN]; rfl
end Go.Proofs.YtgojnpblhfbdpaaGreatDoor

namespace Go.Proofs.YtgojnpblhfbdpaaGreatDoor
open Go Go.RowKit

set_option maxRecDepth 100000 in
theorem ent_rnorm : Ent 104 := enters_of Tryz.func104 (by kernel_rfl) rfl
set_option maxRecDepth 100000 in
theorem quiet_more {P : Program} {f : FuncId} {args : Array Value} {w : World} {a n : Nat} {v : Value} (h : Calls P f args (w.drewN (a + n)) fun e w' => e = .returned v ∧ ∃ m, w' = (w.drewN (a + n)).drewN m) :
    Calls P f args (w.drewN (a + n)) fun e w'' => e = .returned v ∧ ∃ m, w'' = w.drewN (a + m) :=
  h.mono fun _ _ ⟨he, m, hm⟩ => ⟨he, n + m, by rw [hm, World.drewN_drewN, Nat.add_assoc]⟩
set_option maxRecDepth 100000 in
theorem leL_def (x y : List Int) (n : Nat) : leL x y n = (List.range n).all fun i => leqB (nth x i) (nth y i) := rfl
end Go.Proofs.YtgojnpblhfbdpaaGreatDoor

namespace Go.Proofs.YtgojnpblhfbdpaaGreatDoor
open Go Go.RowKit

set_option maxRecDepth 100000 in
theorem tab_next (f : Nat → Int) (n : Nat) : tab (n + 1) f = tab n f ++ [f n] := by simp [tab, List.range_succ]
set_option maxRecDepth 100000 in
theorem Own.catG {w w' : World} {B g : Nat} {T : TypeId} {cs : Array Value} {A : Option Addr} {n c : Nat} {l : List Int} (O : Own w g T cs) (hT : T ≠ 58) (hN : Nb w B A n c l) (hg : w.grownBy w' (Value.slice A n c).ownBlock) : Own w' g T cs := Own.grown O hg (rowB_ne hN.rowB hT O)
set_option maxRecDepth 100000 in
set_option maxHeartbeats 2000000 in
theorem rFill_any (b m : Int) (s : Bool) (w : World) (hb : 0 ≤ b) (hm : m ≤ 100000) : Calls Tryz.prog 78 #[.int .u8 b, .int .i64 m, .bool s] w (RetV w (allV b m.toNat s)) := by
  have O0 := ((Own.at1 w 26 #[.slice none 0 0, .bool false] (g := w.heap.size) (by simp)).alloc (.cells #[.slice none 0 0, .bool s] 26))
  have O1 := (Own.at1 (w.alloc (.cells #[.slice none 0 0, .bool false] 26)) 26 #[.slice none 0 0, .bool s] (g := w.heap.size + 1) (by simp))
  have BB := (below_new (below_new (Below.refl w.heap.size w) (.cells #[.slice none 0 0, .bool false] 26)) (.cells #[.slice none 0 0, .bool s] 26))
  obtain ⟨M, hM⟩ : ∃ M, m.toNat = M := ⟨_, rfl⟩
  rw [hM]
  unfold allV
  have qO10 := O1.cell 0; have qO11 := O1.cell 1; have fO10 := O1.free 0; have fO11 := O1.free 1
  go_enter Tryz.func78, Tryz.ntmps78
  go_wp2
  go_loopw [8] (fun i wr => ∃ (j : Nat) (A : Option Addr) (c : Nat), j ≤ M ∧ i = .int .i64 j ∧ Hid (Own wr w.heap.size 26 #[.slice none 0 0, .bool false]) ∧ Hid (Own wr (w.heap.size + 1) 26 #[.slice A j c, .bool s]) ∧ Hid (Nb wr w.heap.size A j c (tab j fun _ => b)) ∧ Hid (Below w.heap.size w wr)) (fun i _ => M - (intOf i).toNat)
  case atStart => exact ⟨0, none, 0, Nat.zero_le _, rfl, Lib.hid O0, Lib.hid O1, Lib.hid (Nb.nil _ _), Lib.hid BB⟩
  case round =>
    obtain ⟨j, A, c, hj, rfl, H0, H1, HN, HB⟩ := hrel
    have p0 := H1.out.cell 0
    have p1 := H1.out.cell 1
    have f0 := H1.out.free 0
    by_cases hlt : j < M
    · have d1 : decide ((j : Int) < m) = true := by simp; omega
      have hbs := HB.out.size
      have U1 := H1.out.alloc (.cells #[.int .u8 b] 58)
      have U0 := H0.out.alloc (.cells #[.int .u8 b] 58)
      have UN := HN.out.alloc (.cells #[.int .u8 b] 58)
      have RB : Rb (wr.alloc (.cells #[.int .u8 b] 58)) (some ⟨wr.heap.size, 0, none⟩) 1 [b] := Rb.of_own (Own.new wr _ _) (nnL_one hb) rfl
      have hB1 := below_new HB.out (.cells #[.int .u8 b] 58)
      have hsz := hB1.size
      replace HB := Lib.hid HB
      clear p1
      go_wp2_with (at_builtin; refine wpList_catG rfl (.tmp 17) (.tmp 19) rfl rfl hsz rfl UN rfl RB (by omega) ?_; intro A9 c9 w9 hN9 hg9; have V1 := U1.catG (by decide) UN hg9; have V0 := U0.catG (by decide) UN hg9; have hB9 := grown_ownV UN hg9 hB1; have v0 := V1.cell 0; have v1 := V1.free 0)
      go_roundw
      case rel => exact ⟨j + 1, A9, c9, by omega, by go_num, Lib.hid (V0.far (p := ⟨w.heap.size + 1, 0, none⟩) (by simp) _), Lib.hid (V1.put 0 _), Lib.hid (by rw [tab_next]; exact hN9.setT V1 (by decide) 0 _), Lib.hid (below_set hB9 (p := ⟨w.heap.size + 1, 0, none⟩) (by simp) _)⟩
      case measure => simp [intOf]; omega
    · obtain rfl : j = M := by omega
      have d1 : decide ((j : Int) < m) = false := by simp; omega
      have g0 := H0.out.cell 0
      have g1 := H0.out.cell 1
      have g2 := H0.out.free 0
      have g3 := H0.out.free 1
      go_wp2
      exact ret_vec Tryz.results78 rfl rfl (H0.out.put2 _ _) (RetV.mk' (v := ⟨tab j fun _ => b, s⟩) ((HN.out.setT H0.out (by decide) 0 _).setT (H0.out.put 0 _) (by decide) 1 _) (below_set2 HB.out (Nat.le_refl _) _ _))
end Go.Proofs.YtgojnpblhfbdpaaGreatDoor
