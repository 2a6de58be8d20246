/-
  Contracts of the program's Same and Leq, and of the library's Equal and EqualFunc at bits. No conditions.
  The law of a region whose order is open, once more, for operations after which what an earlier one has left need not hold any longer (an append after which the old row is spent). Conditions: as listed in 'region_k'.
  What stands through an append onto a row of the call's own, and the laws of append and of a store into a field, for one operation of a region whose order is open. No conditions.
  The law of a region whose order is open within a round of a loop over a function. Conditions: as listed in 'region_i'.
  Contracts of bits.Mul at small numbers. Conditions: the numbers are at most 1000.
  Laws of single operations, for regions whose order is open. Conditions: as listed.
-/
import Derived.Test.YtgojnpblhfbdpaaGreatDoorQh
import Derived.OrdersIn
import Derived.TacticsIn
import Derived.RangeFuncCalls
import Derived.IntWalk
import Derived.Laws.MathBits

namespace Go.Proofs.YtgojnpblhfbdpaaGreatDoor
open Go Go.RowKit

set_option maxRecDepth 100000 in
theorem eq_all {l k : List Int} {n : Nat} (h1 : l.length = n) (h2 : k.length = n) (h : ∀ j, j < n → nth l j = nth k j) : decide (l = k) = true := by
  simp only [decide_eq_true_eq]
  exact list_ext (h1.trans h2.symm) fun i hi => h i (by omega)
set_option maxRecDepth 100000 in
theorem eq_no {l k : List Int} {j : Nat} (h : nth l j ≠ nth k j) : decide (l = k) = false := by
  simp only [decide_eq_false_iff_not]
  rintro rfl; exact h rfl
set_option maxRecDepth 100000 in
theorem eq_len {l k : List Int} (h : l.length ≠ k.length) : decide (l = k) = false := by
  simp only [decide_eq_false_iff_not]
  rintro rfl; exact h rfl
set_option maxRecDepth 100000 in
theorem all_nextP {T : Nat → Prop} {j : Nat} (h : ∀ i, i < j → T i) (hj : T j) : ∀ i, i < j + 1 → T i := fun i hi => by
  rcases Nat.lt_or_ge i j with h1 | h1
  · exact h i h1
  · obtain rfl : i = j := by omega
    exact hj
set_option maxRecDepth 100000 in
set_option maxHeartbeats 2000000 in
theorem equal_any (A Y : Option Addr) (n m c d : Nat) (l k : List Int) (w : World) (h : Rb w A n l) (h' : Rb w Y m k) (hn : n ≤ 1000000) (hm : m ≤ 1000000) :
    Calls Tryz.prog 94 #[.slice A n c, .slice Y m d] w fun e w' => e = .returned (.bool (decide (l = k))) ∧ Below w.heap.size w w' := by
  by_cases e : n = m
  · subst e
    go_enter Tryz.func94, Tryz.ntmps94
    go_wp2
    go_loopw [13] (fun i wr => ∃ j : Nat, j ≤ n ∧ i = .int .i64 j ∧ Hid (Below w.heap.size w wr) ∧ Hid (∀ i, i < j → nth l i = nth k i)) (fun i _ => n - (intOf i).toNat)
    case atStart => exact ⟨0, Nat.zero_le _, rfl, Lib.hid (Below.refl _ _), Lib.hid fun j hj => absurd hj (Nat.not_lt_zero _)⟩
    case round =>
      obtain ⟨j, hj, rfl, HW, HT⟩ := hrel
      by_cases hlt : j < n
      · obtain ⟨b1, o1, rfl, hl1, hc1⟩ := (h.step HW.out).at_ hlt
        obtain ⟨b2, o2, rfl, hl2, hc2⟩ := (h'.step HW.out).at_ hlt
        have i0 : (0 : Int) ≤ j := by omega
        have i1 : (j : Int) < n := by omega
        replace h := Lib.hid h
        replace h' := Lib.hid h'
        by_cases ey : nth l j = nth k j
        · have hnx := Lib.hid (all_nextP (T := fun i => nth l i = nth k i) HT.out ey)
          rw [← ey] at hc2
          clear ey
          generalize nth l j = y at *
          go_wp2
          go_quiet (fail)
          all_goals go_wp2
          all_goals go_roundw
          case rel => exact ⟨j + 1, by omega, by go_num, Lib.hid (below_drewN HW.out _), hnx⟩
          case measure => simp [intOf]; omega
        · have hno := Lib.hid (eq_no ey)
          have e1 : (nth l j != nth k j) = true := by simpa using ey
          clear ey
          generalize nth l j = y at *
          generalize nth k j = z at *
          go_wp2
          go_quiet (fail)
          all_goals go_wp2
          all_goals go_ret
          all_goals exact ⟨ret_b hno.out.symm, below_drewN HW.out _⟩
      · obtain rfl : j = n := by omega
        have hl := Lib.hid (eq_all h.len h'.len HT.out)
        clear h h'
        go_wp2
        go_ret
        exact ⟨ret_b hl.out.symm, HW.out⟩
  · have d1 : ((n : Int) != m) = true := by simp; omega
    rw [eq_len (by rw [h.len, h'.len]; exact e)]
    clear h h' e
    go_enter Tryz.func94, Tryz.ntmps94
    go_wp2
    go_ret
    exact ⟨rfl, Below.refl _ _⟩
def leL (l k : List Int) (n : Nat) : Bool := (List.range n).all fun i => leqB (nth l i) (nth k i)
set_option maxRecDepth 100000 in
theorem leL_all {x y : List Int} {n : Nat} (h : ∀ j, j < n → leqB (nth x j) (nth y j) = true) : leL x y n = true := by
  unfold leL; rw [List.all_eq_true]; intro j hj; exact h j (List.mem_range.1 hj)
set_option maxRecDepth 100000 in
theorem leL_no {x y : List Int} {n k : Nat} (hk : k < n) (h : leqB (nth x k) (nth y k) = false) : leL x y n = false := by
  unfold leL; rw [List.all_eq_false]; exact ⟨k, List.mem_range.2 hk, by rw [h]; decide⟩
set_option maxRecDepth 100000 in
theorem ent_leq : Ent 73 := enters_of Tryz.func73 (by kernel_rfl) rfl
def eqF (n m : Nat) (l k : List Int) : Bool := n == m && leL l k n
set_option maxRecDepth 100000 in
set_option maxHeartbeats 2000000 in
theorem equalFunc_any (A Y : Option Addr) (n m c d : Nat) (l k : List Int) (w : World) (h : Rb w A n l) (h' : Rb w Y m k) (hn : n ≤ 1000000) (hm : m ≤ 1000000) :
    Calls Tryz.prog 72 #[.slice A n c, .slice Y m d, .func (.func 73) #[] #[]] w fun e w' => e = .returned (.bool (eqF n m l k)) ∧ Below w.heap.size w w' := by
  have eg := ent_leq
  unfold Ent at eg
  unfold eqF
  by_cases e : n = m
  · subst e
    rw [show (n == n) = true by simp, Bool.true_and]
    go_enter Tryz.func72, Tryz.ntmps72
    go_wp2
    go_loopw [17] (fun i wr => ∃ j : Nat, j ≤ n ∧ i = .int .i64 j ∧ Hid (Below w.heap.size w wr) ∧ Hid (∀ i, i < j → leqB (nth l i) (nth k i) = true)) (fun i _ => n - (intOf i).toNat)
    case atStart => exact ⟨0, Nat.zero_le _, rfl, Lib.hid (Below.refl _ _), Lib.hid fun j hj => absurd hj (Nat.not_lt_zero _)⟩
    case round =>
      obtain ⟨j, hj, rfl, HW, HT⟩ := hrel
      by_cases hlt : j < n
      · obtain ⟨b1, o1, rfl, hl1, hc1⟩ := (h.step HW.out).at_ hlt
        obtain ⟨b2, o2, rfl, hl2, hc2⟩ := (h'.step HW.out).at_ hlt
        have hq := Lib.hid (fun (u : World) => leq_any (nth l j) (nth k j) u)
        replace h := Lib.hid h
        replace h' := Lib.hid h'
        cases ey : leqB (nth l j) (nth k j)
        · have hno := Lib.hid (leL_no hlt ey)
          rw [ey] at hq
          clear ey
          generalize nth l j = y at *
          generalize nth k j = z at *
          go_wp2_with (go_at_call 73; refine (hq.out _).mono ?_; rintro e w4 ⟨rfl, q, rfl⟩)
          go_ret
          exact ⟨ret_b hno.out.symm, below_drewN HW.out _⟩
        · have hnx := Lib.hid (all_nextP (T := fun i => leqB (nth l i) (nth k i) = true) HT.out ey)
          rw [ey] at hq
          clear ey
          generalize nth l j = y at *
          generalize nth k j = z at *
          go_wp2_with (go_at_call 73; refine (hq.out _).mono ?_; rintro e w4 ⟨rfl, q, rfl⟩)
          go_roundw
          case rel => exact ⟨j + 1, by omega, by go_num, Lib.hid (below_drewN HW.out _), hnx⟩
          case measure => simp [intOf]; omega
      · obtain rfl : j = n := by omega
        have hl := Lib.hid (leL_all HT.out)
        clear h h'
        go_wp2
        go_ret
        exact ⟨ret_b hl.out.symm, HW.out⟩
  · have d1 : ((n : Int) != m) = true := by simp; omega
    rw [show (n == m) = false by simpa using e, Bool.false_and]
    clear h h' e
    go_enter Tryz.func72, Tryz.ntmps72
    go_wp2
    go_ret
    exact ⟨rfl, Below.refl _ _⟩
def sameV (a b : V) : Bool := a.s == b.s && decide (a.l = b.l)
set_option maxRecDepth 100000 in
set_option maxHeartbeats 2000000 in
theorem same_v (A Y : Option Addr) (n m c d : Nat) (s t : Bool) (l k : List Int) (w : World) (h : Rb w A n l) (h' : Rb w Y m k) (hn : n ≤ 1000000) (hm : m ≤ 1000000) : Calls Tryz.prog 51 #[.agg #[.slice A n c, .bool s], .agg #[.slice Y m d, .bool t]] w fun e w' => e = .returned (.bool (sameV ⟨l, s⟩ ⟨k, t⟩)) ∧ Below w.heap.size w w' := by
  have O0 := ((Own.at1 w 26 #[.slice A n c, .bool s] (g := w.heap.size) (by simp)).alloc (.cells #[.slice Y m d, .bool t] 26))
  have O1 := (Own.at1 (w.alloc (.cells #[.slice A n c, .bool s] 26)) 26 #[.slice Y m d, .bool t] (g := w.heap.size + 1) (by simp))
  have BB := (below_new (below_new (Below.refl w.heap.size w) (.cells #[.slice A n c, .bool s] 26)) (.cells #[.slice Y m d, .bool t] 26))
  have HE := Lib.hid (equal_any A Y n m c d l k _ (h.step BB) (h'.step BB) hn hm)
  unfold sameV
  simp only
  generalize decide (l = k) = z at *
  clear h h' O0 O1
  cases s <;> cases t
  all_goals
    go_enter Tryz.func51, Tryz.ntmps51
    go_wp2_with (go_at_call 94; refine HE.out.mono ?_; rintro e w1 ⟨rfl, hb1⟩)
    go_ret
    first | exact ⟨rfl, BB⟩ | exact ⟨rfl, below_step BB hb1⟩ | exact ⟨ret_b (by cases z <;> rfl), below_step BB hb1⟩
set_option maxRecDepth 100000 in
set_option maxHeartbeats 4000000 in
theorem leq_v (A Y : Option Addr) (n m c d : Nat) (s t : Bool) (l k : List Int) (w : World) (h : Rb w A n l) (h' : Rb w Y m k) : Calls Tryz.prog 35 #[.agg #[.slice A n c, .bool s], .agg #[.slice Y m d, .bool t]] w fun e w' => e = .returned (.bool (leqV ⟨l, s⟩ ⟨k, t⟩)) ∧ Below w.heap.size w w' := by
  have O0 := ((Own.at1 w 26 #[.slice A n c, .bool s] (g := w.heap.size) (by simp)).alloc (.cells #[.slice Y m d, .bool t] 26))
  have O1 := (Own.at1 (w.alloc (.cells #[.slice A n c, .bool s] 26)) 26 #[.slice Y m d, .bool t] (g := w.heap.size + 1) (by simp))
  have BB := (below_new (below_new (Below.refl w.heap.size w) (.cells #[.slice A n c, .bool s] 26)) (.cells #[.slice Y m d, .bool t] 26))
  have HA := Lib.hid (fun (u : World) (hb : Below w.heap.size w u) => operand_any A n c s l u (h.step hb))
  have HB := Lib.hid (fun (u : World) (hb : Below w.heap.size w u) => operand_any Y m d t k u (h'.step hb))
  have b1 := nrm_len ⟨l, s⟩
  have b2 := nrm_len ⟨k, t⟩
  have e0 : leqV ⟨l, s⟩ ⟨k, t⟩ = ((nrm ⟨l, s⟩).s == (nrm ⟨k, t⟩).s && eqF (nrm ⟨l, s⟩).l.length (nrm ⟨k, t⟩).l.length (nrm ⟨l, s⟩).l (nrm ⟨k, t⟩).l) := rfl
  rw [e0]
  clear e0
  generalize nrm ⟨l, s⟩ = x at *
  generalize nrm ⟨k, t⟩ = y at *
  obtain ⟨lx, sx⟩ := x
  obtain ⟨ly, sy⟩ := y
  simp only at *
  have HE := Lib.hid (fun (u : World) (A1 A2 : Option Addr) (c1 c2 : Nat) (r1 : Rb u A1 lx.length lx) (r2 : Rb u A2 ly.length ly) => equalFunc_any A1 A2 _ _ c1 c2 lx ly u r1 r2 (by omega) (by omega))
  generalize eqF lx.length ly.length lx ly = z at *
  clear h h' b1 b2
  cases sx <;> cases sy
  all_goals
    go_enter Tryz.func35, Tryz.ntmps35
    go_wp2
    haveI : Over w w.heap.size := ⟨Nat.le_refl _⟩
    haveI : Over w (w.heap.size + 1) := ⟨by omega⟩
    refine pair_region (x := ⟨lx, _⟩) (y := ⟨ly, _⟩) (fun u => blw w u) _ _ _ _ _ _ rfl ⟨rfl, rfl⟩ ⟨rfl, rfl⟩ ⟨rfl, rfl⟩ ⟨rfl, rfl⟩ ⟨rfl, rfl⟩ ⟨rfl, rfl⟩ rfl (by kernel_rfl) (by kernel_rfl) (by kernel_rfl) ⟨by kernel_rfl, by kernel_rfl⟩ (by kernel_rfl) rfl rfl (by omega) ent_operand ent_operand (below_drew BB) O0 O1 (fun u hS => HA.out u hS) (fun u hS => HB.out u hS) ?_
    intro v0 v1 v2 v3 u A1 c1 A2 c2 hb P0 r1 P1 r2
    simp only [Act.put, List.setIfInBounds_toArray, List.set_cons_zero, List.set_cons_succ]
    replace hb : Below w.heap.size w u := hb
    have qP00 := P0.cell 0
    have qP01 := P0.cell 1
    have qP10 := P1.cell 0
    have qP11 := P1.cell 1
    clear HA HB O0 O1 BB
    go_wp2_with (go_at_call 72; refine (HE.out _ A1 A2 c1 c2 r1 r2).mono ?_; rintro e w1 ⟨rfl, hb1⟩)
    go_ret
    first | exact ⟨rfl, hb⟩ | exact ⟨rfl, below_step hb hb1⟩ | exact ⟨ret_b (by cases z <;> rfl), below_step hb hb1⟩
set_option maxRecDepth 100000 in
set_option maxHeartbeats 4000000 in
theorem rSame_any (A Y : Option Addr) (n m c d : Nat) (s t : Bool) (l k : List Int) (w : World) (h : Rb w A n l) (h' : Rb w Y m k) (hn : n ≤ 1000000) (hm : m ≤ 1000000) : Calls Tryz.prog 16 #[.agg #[.slice A n c, .bool s], .agg #[.slice Y m d, .bool t]] w fun e w' => e = .returned (.bool (sameV ⟨l, s⟩ ⟨k, t⟩)) ∧ Below w.heap.size w w' := by
  have O0 := ((Own.at1 w 26 #[.slice A n c, .bool s] (g := w.heap.size) (by simp)).alloc (.cells #[.slice Y m d, .bool t] 26))
  have O1 := (Own.at1 (w.alloc (.cells #[.slice A n c, .bool s] 26)) 26 #[.slice Y m d, .bool t] (g := w.heap.size + 1) (by simp))
  have BB := (below_new (below_new (Below.refl w.heap.size w) (.cells #[.slice A n c, .bool s] 26)) (.cells #[.slice Y m d, .bool t] 26))
  unfold sameV
  simp only
  by_cases e : s = t ∧ n = m
  · obtain ⟨rfl, rfl⟩ := e
    rw [show (s == s) = true by simp, Bool.true_and]
    have r1 := h.step BB
    have r2 := h'.step BB
    clear h h'
    go_enter Tryz.func16, Tryz.ntmps16
    go_wp2
    generalize ((w.alloc (.cells #[.slice A n c, .bool s] 26)).alloc (.cells #[.slice Y n d, .bool s] 26)) = W0 at *
    go_loopw [5] (fun i wr => ∃ j : Nat, j ≤ n ∧ i = .int .i64 j ∧ Hid (Below W0.heap.size W0 wr) ∧ Hid (∀ i, i < j → nth l i = nth k i)) (fun i _ => n - (intOf i).toNat)
    case atStart => exact ⟨0, Nat.zero_le _, rfl, Lib.hid (Below.refl _ _), Lib.hid fun j hj => absurd hj (Nat.not_lt_zero _)⟩
    case round =>
      obtain ⟨j, hj, rfl, HW, HT⟩ := hrel
      have p0 := (O0.step HW.out).cell 0
      have p2 := (O1.step HW.out).cell 0
      by_cases hlt : j < n
      · obtain ⟨b1, o1, rfl, hl1, hc1⟩ := (r1.step HW.out).at_ hlt
        obtain ⟨b2, o2, rfl, hl2, hc2⟩ := (r2.step HW.out).at_ hlt
        have i0 : (0 : Int) ≤ j := by omega
        have i1 : (j : Int) < n := by omega
        replace r1 := Lib.hid r1
        replace r2 := Lib.hid r2
        replace O0 := Lib.hid O0
        replace O1 := Lib.hid O1
        replace BB := Lib.hid BB
        simp only [List.getElem?_toArray, List.getElem?_cons_zero] at p0 p2
        by_cases ey : nth l j = nth k j
        · have hnx := Lib.hid (all_nextP (T := fun i => nth l i = nth k i) HT.out ey)
          rw [← ey] at hc2
          clear ey
          generalize nth l j = y at *
          go_wp2
          go_quiet (fail)
          all_goals go_wp2
          all_goals go_roundw
          case rel => exact ⟨j + 1, by omega, by go_num, Lib.hid (below_drewN HW.out _), hnx⟩
          case measure => simp [intOf]; omega
        · have hno := Lib.hid (eq_no ey)
          have e1 : (nth l j != nth k j) = true := by simpa using ey
          clear ey
          generalize nth l j = y at *
          generalize nth k j = z at *
          go_wp2
          go_quiet (fail)
          all_goals go_wp2
          all_goals go_ret
          all_goals exact ⟨ret_b hno.out.symm, below_step BB.out (below_drewN HW.out _)⟩
      · obtain rfl : j = n := by omega
        have hl := Lib.hid (eq_all r1.len r2.len HT.out)
        clear r1 r2
        go_wp2
        go_ret
        exact ⟨ret_b hl.out.symm, below_step BB HW.out⟩
  · have e' : (s == t && decide (l = k)) = false := by
      cases hs : s == t
      · rfl
      · have : s = t := by simpa using hs
        rw [eq_len (by rw [h.len, h'.len]; intro x; exact e ⟨this, x⟩)]; rfl
    rw [e']
    clear h h' e' O0 O1
    by_cases hs : s = t
    · subst hs
      have hnm : n ≠ m := fun x => e ⟨rfl, x⟩
      have d1 : ((n : Int) != m) = true := by simp; omega
      clear e
      go_enter Tryz.func16, Tryz.ntmps16
      go_wp2
      go_ret
      exact ⟨rfl, BB⟩
    · clear e
      cases s <;> cases t
      · exact absurd rfl hs
      · clear hs
        go_enter Tryz.func16, Tryz.ntmps16
        go_wp2
        go_ret
        exact ⟨rfl, BB⟩
      · clear hs
        go_enter Tryz.func16, Tryz.ntmps16
        go_wp2
        go_ret
        exact ⟨rfl, BB⟩
      · exact absurd rfl hs
end Go.Proofs.YtgojnpblhfbdpaaGreatDoor

namespace Go.Proofs.YtgojnpblhfbdpaaGreatDoor
open Go Go.RowKit

section
variable {P : Program} {ops : Array Oper} {Q : Exit → Act → World → Prop}
/-- What operation i leaves as it was. -/
def KeepK (S : World → Prop) (PS : List (World → Prop)) (VS : List (Value → World → Prop)) (kl : List (List Nat)) (i : Nat) (w w' : World) : Prop :=
  S w' ∧ (∀ j, j ≠ i → ∀ U, PS[j]? = some U → U w → U w') ∧ (∀ j, j ≠ i → (kl.getD i []).contains j = false → ∀ V, VS[j]? = some V → ∀ v, V v w → V v w')
/-- No operation that writes slot k has run when operation i runs. -/
def oldB (ds : List (Option Tmp)) (dps : List (List Nat)) (i k : Nat) : Bool := (List.range ds.length).all fun j => !(ds.getD j none == some k) || beforeB dps i j
/-- One operation's obligation. -/
def StepK (P : Program) (Q : Exit → Act → World → Prop) (a0 : Act) (S : World → Prop) (PS : List (World → Prop)) (VS : List (Value → World → Prop)) (ds : List (Option Tmp)) (dps us kq : List (List Nat)) (i : Nat) (o : Oper) : Prop :=
  ∀ (a : Act) (w : World), S w → (∀ k, oldB ds dps i k = true → a.tmps[k]? = a0.tmps[k]?) → (∀ j, (us.getD i []).contains j = true → Fact VS ds j a w) → (∀ j U, beforeB dps i j = true → PS[j]? = some U → U w) → ∀ K : Act → World → Prop,
    (∀ v w', (o.dst = none → v = undef) → KeepK S PS VS kq i w w' → (VS.getD i fun _ _ => True) v w' → K (a.put o.dst v) w') → if Region.wanted o (yieldD ds a.tmps) = true then o.wp P a w K Q else K (a.put o.dst undef) w
def StepsK (P : Program) (Q : Exit → Act → World → Prop) (a0 : Act) (S : World → Prop) (PS : List (World → Prop)) (VS : List (Value → World → Prop)) (ds : List (Option Tmp)) (dps us kq : List (List Nat)) : Nat → List Oper → Prop
  | _, [] => True
  | i, o :: r => StepK P Q a0 S PS VS ds dps us kq i o ∧ StepsK P Q a0 S PS VS ds dps us kq (i + 1) r
theorem stepsK_get {a0 : Act} {S : World → Prop} {PS : List (World → Prop)} {VS : List (Value → World → Prop)} {ds : List (Option Tmp)} {dps us kq : List (List Nat)} : ∀ (l : List Oper) (k : Nat), StepsK P Q a0 S PS VS ds dps us kq k l → ∀ (i : Nat) (o : Oper), l[i]? = some o → StepK P Q a0 S PS VS ds dps us kq (k + i) o
  | [], _, _, i, o, h => by simp at h
  | x :: l, k, hs, 0, o, h => by simp at h; subst h; exact hs.1
  | x :: l, k, hs, i + 1, o, h => by
    have := stepsK_get l (k + 1) hs.2 i o (by simpa using h)
    rwa [show k + 1 + i = k + (i + 1) by omega] at this
structure RK (ops : Array Oper) (a0 : Act) (S : World → Prop) (PS : List (World → Prop)) (VS : List (Value → World → Prop)) (ds : List (Option Tmp)) (dps kl : List (List Nat)) (L : Array Bool) (a : Act) (w : World) : Prop where
  lsz : L.size = ops.size
  tsz : a.tmps.size = a0.tmps.size
  dfr : a.defers = a0.defers
  s : S w
  olds : ∀ k, (∀ j, ds.getD j none = some k → j < ds.length → L.getD j false = false) → a.tmps[k]? = a0.tmps[k]?
  facts : ∀ j, L.getD j false = true → (∀ i, L.getD i false = true → (kl.getD i []).contains j = false) → Fact VS ds j a w
  closed : ∀ j, L.getD j false = true → ∀ d, (dps.getD j []).contains d = true → L.getD d false = true
  pres : ∀ j U, L.getD j false = false → PS[j]? = some U → U w
theorem region_k {id : Nat} {a0 : Act} {W : World} (hm : P.follows .mixedOrders = true) (S : World → Prop) (PS : List (World → Prop)) (VS : List (Value → World → Prop)) (ds : List (Option Tmp)) (dps us kl kq : List (List Nat))
    (hds : ops.toList.map (·.dst) = ds) (hdps : ops.toList.map depsO = dps) (hus : ((List.range us.length).all fun i => (us.getD i []).all fun j => (dps.getD i []).contains j) = true) (hkl : ((List.range kl.length).all fun i => (kl.getD i []).all fun j => (List.range us.length).all fun k => !(us.getD k []).contains j || (k == i || (dps.getD i []).contains k)) = true) (hkq : ((List.range kq.length).all fun i => (kq.getD i []).all fun j => (kl.getD i []).contains j || beforeB dps i j) = true) (hVS : VS.length = ds.length) (hdis : distinctD ds = true) (hin : insideD ds a0.tmps.size = true)
    (hac : ((List.range ops.size).all fun i => ((ops[i]?).map (·.after.all fun e => decide (e.on < i))).getD true) = true)
    (hS0 : S W.drew) (hP0 : ∀ U ∈ PS, U W.drew)
    (hstep : StepsK P Q a0 S PS VS ds dps us kq 0 ops.toList)
    (hfin : ∀ (vs : List Value) (w : World), vs.length = ds.length → S w → (∀ (j : Nat) (V : Value → World → Prop), (kl.all fun l => !l.contains j) = true → VS[j]? = some V → V (vs.getD j undef) w) → Q .normal (puts a0 ds vs) w) :
    (Code.region id ops true).wp P Q a0 W := by
  have hlen : ds.length = ops.size := by rw [← hds]; simp
  have dsat : ∀ i (o : Oper), ops[i]? = some o → ds[i]? = some o.dst := fun i o ho => by
    rw [← hds, List.getElem?_map, Array.getElem?_toList, ho]; rfl
  have dpat : ∀ i (o : Oper), ops[i]? = some o → dps.getD i [] = depsO o := fun i o ho => by
    rw [← hdps, List.getD_eq_getElem?_getD, List.getElem?_map, Array.getElem?_toList, ho]; rfl
  refine wp_region_any hm (wpAny_inv (I := RK ops a0 S PS VS ds dps kl) (fun L a w i hi I => ?_) (fun L a w hr I => ?_) (fun L a w I => I.lsz) _ _ _ _ (by simp [List.countP_replicate]) ?_)
  · obtain ⟨hun, o, ho, hdep⟩ := mem_ready.1 hi
    have hio := (Array.getElem?_eq_some_iff.1 ho).1
    have hLi : i < L.size := by rw [I.lsz]; exact hio
    have hun' : L.getD i false = false := by simpa [hLi] using hun
    have hdone : ∀ j, (dps.getD i []).contains j = true → L.getD j false = true := by
      intro j hj
      rw [dpat i o ho] at hj
      have hj' : j ∈ depsO o := by simpa using hj
      obtain ⟨e, he, rfl⟩ := List.mem_map.1 hj'
      obtain ⟨he, hb⟩ := List.mem_filter.1 he
      exact hdep e (by simpa using he) hb
    have husd : ∀ i j, (us.getD i []).contains j = true → (dps.getD i []).contains j = true := by
      intro i j hj
      by_cases hi : i < us.length
      · exact List.all_eq_true.1 (List.all_eq_true.1 hus i (List.mem_range.2 hi)) j (by simpa using hj)
      · rw [List.getD_eq_getElem?_getD, List.getElem?_eq_none (by omega)] at hj
        simp at hj
    have hnk : ∀ i j, L.getD i false = false → (us.getD i []).contains j = true → ∀ i', L.getD i' false = true → (kl.getD i' []).contains j = false := by
      intro i j hi hj i' hi'
      cases hc : (kl.getD i' []).contains j with
      | false => rfl
      | true =>
        exfalso
        have hil : i < us.length := by
          rcases Nat.lt_or_ge i us.length with h | h
          · exact h
          · rw [List.getD_eq_getElem?_getD, List.getElem?_eq_none h] at hj
            simp at hj
        have hil' : i' < kl.length := by
          rcases Nat.lt_or_ge i' kl.length with h | h
          · exact h
          · rw [List.getD_eq_getElem?_getD, List.getElem?_eq_none h] at hc
            simp at hc
        have h1 := List.all_eq_true.1 (List.all_eq_true.1 (List.all_eq_true.1 hkl i' (List.mem_range.2 hil')) j (by simpa using hc)) i (List.mem_range.2 hil)
        rw [hj] at h1
        simp only [Bool.not_true, Bool.false_or, Bool.or_eq_true] at h1
        rcases h1 with h1 | h1
        · have : i = i' := by simpa using h1
          rw [this, hi'] at hi; cases hi
        · rw [I.closed i' hi' i h1] at hi; cases hi
    have hpre : ∀ j U, beforeB dps i j = true → PS[j]? = some U → U w := by
      intro j U hb hU
      refine I.pres j U ?_ hU
      unfold beforeB at hb
      rcases Bool.or_eq_true _ _ ▸ hb with h | h
      · have : j = i := by simpa using h
        subst this; exact hun'
      · cases hc : L.getD j false with
        | false => rfl
        | true => rw [I.closed j hc i h] at hun'; cases hun'
    have hs := stepsK_get ops.toList 0 hstep i o (by simpa using ho)
    rw [Nat.zero_add] at hs
    have hold : ∀ k, oldB ds dps i k = true → a.tmps[k]? = a0.tmps[k]? := fun k hk => I.olds k fun j hj hjl => by
      have h1 := List.all_eq_true.1 hk j (List.mem_range.2 hjl)
      rw [hj] at h1
      have hb : beforeB dps i j = true := by simpa using h1
      unfold beforeB at hb
      rcases Bool.or_eq_true _ _ ▸ hb with h | h
      · have : j = i := by simpa using h
        subst this; exact hun'
      · cases hc : L.getD j false with
        | false => rfl
        | true => rw [I.closed j hc i h] at hun'; cases hun'
    have hs := hs a w I.s hold (fun j hj => I.facts j (hdone j (husd i j hj)) (hnk i j hun' hj)) hpre (RK ops a0 S PS VS ds dps kl (L.setIfInBounds i true)) (fun v w' hv0 hK hV => by
      refine ⟨by simpa using I.lsz, (put_size a o.dst v).trans I.tsz, (put_defers' a o.dst v).trans I.dfr, hK.1, fun k hk => ?_, fun j hj hnkl => ?_, fun j hj d hd => ?_, fun j U hj hU => ?_⟩
      · rw [put_other]
        · refine I.olds k fun j hj hjl => ?_
          have h1 := hk j hj hjl
          by_cases hji : j = i
          · subst hji; exact hun'
          · rwa [getD_set_ne false (Ne.symm hji)] at h1
        · intro e
          have h1 := hk i (by rw [List.getD_eq_getElem?_getD, dsat i o ho, e]; rfl) (by rw [hlen]; exact hio)
          simp [hLi] at h1
      · by_cases hji : j = i
        · subst hji
          have hvl : j < VS.length := by rw [hVS, hlen]; exact hio
          have hV' : VS[j] v w' := by simpa [hvl] using hV
          refine ⟨fun d V e1 e2 => ?_, fun V e1 e2 => ?_⟩
          · rw [dsat j o ho] at e1
            have hd : o.dst = some d := by simpa using e1
            rw [List.getElem?_eq_getElem hvl] at e2
            obtain rfl : VS[j] = V := by simpa using e2
            refine ⟨v, ?_, hV'⟩
            have hdl : d < a.tmps.size := by
              rw [I.tsz]
              have h1 := List.all_eq_true.1 hin _ (List.mem_of_getElem? (dsat j o ho))
              rw [hd] at h1
              simpa using h1
            rw [hd]
            exact put_self a d v hdl
          · rw [dsat j o ho] at e1
            have hd : o.dst = none := by simpa using e1
            rw [List.getElem?_eq_getElem hvl] at e2
            obtain rfl : VS[j] = V := by simpa using e2
            rw [← hv0 hd]
            exact hV'
        · rw [getD_set_ne false (Ne.symm hji)] at hj
          have hki : (kl.getD i []).contains j = false := hnkl i (by simp [hLi])
          have hkqi : (kq.getD i []).contains j = false := by
            cases hc : (kq.getD i []).contains j with
            | false => rfl
            | true =>
              exfalso
              have hil : i < kq.length := by
                rcases Nat.lt_or_ge i kq.length with h | h
                · exact h
                · rw [List.getD_eq_getElem?_getD, List.getElem?_eq_none h] at hc
                  simp at hc
              have h1 := List.all_eq_true.1 (List.all_eq_true.1 hkq i (List.mem_range.2 hil)) j (by simpa using hc)
              rw [hki, Bool.false_or] at h1
              unfold beforeB at h1
              rcases Bool.or_eq_true _ _ ▸ h1 with h | h
              · exact hji (by simpa using h)
              · rw [I.closed j hj i h] at hun'; cases hun'
          have hf := I.facts j hj (fun i' hi' => hnkl i' (by
            by_cases e : i' = i
            · subst e; simp [hLi]
            · rw [getD_set_ne false (Ne.symm e)]; exact hi'))
          refine ⟨fun d V e1 e2 => ?_, fun V e1 e2 => hK.2.2 j hji hkqi V e2 _ (hf.2 V e1 e2)⟩
          obtain ⟨v', h1, h2⟩ := hf.1 d V e1 e2
          refine ⟨v', ?_, hK.2.2 j hji hkqi V e2 _ h2⟩
          rw [put_other]
          · exact h1
          · intro e
            exact distinctD_spec hdis (by rw [dsat i o ho, e]) e1 (Ne.symm hji) rfl
      · by_cases hdi : d = i
        · subst hdi; simp [hLi]
        · rw [getD_set_ne false (Ne.symm hdi)]
          by_cases hji : j = i
          · subst hji; exact hdone d hd
          · rw [getD_set_ne false (Ne.symm hji)] at hj
            exact I.closed j hj d hd
      · by_cases hji : j = i
        · subst hji; simp [hLi] at hj
        · rw [getD_set_ne false (Ne.symm hji)] at hj
          exact hK.2.1 j hji U hU (I.pres j U hj hU))
    unfold wpOp
    rw [ho]
    rw [yieldD_eq hds]
    simp only
    split
    · rename_i hw
      rw [if_pos hw] at hs
      exact .inl hs
    · rename_i hw
      rw [if_neg hw] at hs
      exact hs
  · have hl := all_listed hac I.lsz hr
    have hF : ∀ j, j < ds.length → (kl.all fun l => !l.contains j) = true → Fact VS ds j a w := fun j hj hk => I.facts j (hl j (by omega)) (fun i' _ => by
      by_cases h : i' < kl.length
      · have h1 := List.all_eq_true.1 hk _ (List.getElem_mem h)
        rw [List.getD_eq_getElem?_getD, List.getElem?_eq_getElem h]
        simpa using h1
      · rw [List.getD_eq_getElem?_getD, List.getElem?_eq_none (by omega)]; rfl)
    have e := puts_eq a ds (ds.map fun d => match d with | some d => a.tmps.getD d undef | none => undef) a0 (by simp) I.tsz I.dfr (fun d hd k hk => by
      have h1 := List.all_eq_true.1 hin _ hd
      rw [hk] at h1
      simpa using h1) (fun j d hd => by
      rw [List.getElem?_map, hd]
      have hj := (List.getElem?_eq_some_iff.1 hd).1
      have hdl : d < a.tmps.size := by
        rw [I.tsz]
        have h1 := List.all_eq_true.1 hin _ (List.mem_of_getElem? hd)
        simpa using h1
      simp only [Option.map_some]
      rw [Array.getD_eq_getD_getElem?, Array.getElem?_eq_getElem hdl]; rfl) (fun k hk => I.olds k (fun j hj hjl => by
      exfalso
      apply hk
      rw [List.getD_eq_getElem?_getD, List.getElem?_eq_getElem hjl] at hj
      simp only [Option.getD_some] at hj
      rw [← hj]
      exact List.getElem_mem hjl))
    rw [e]
    refine hfin _ w (by simp) I.s (fun j V hkj hV => ?_)
    have hj : j < ds.length := by rw [← hVS]; exact (List.getElem?_eq_some_iff.1 hV).1
    have hf := hF j hj hkj
    rw [List.getD_eq_getElem?_getD, List.getElem?_map]
    have hdj := List.getElem?_eq_getElem hj
    rw [hdj]
    simp only [Option.map_some, Option.getD_some]
    cases hc : ds[j] with
    | none => rw [hc] at hdj; exact hf.2 V hdj hV
    | some d =>
      rw [hc] at hdj
      obtain ⟨v, hv, hVv⟩ := hf.1 d V hdj hV
      simp only
      rw [Array.getD_eq_getD_getElem?, hv]; exact hVv
  · have hr : ∀ j, (Array.replicate ops.size false).getD j false = false := by
      intro j
      by_cases h : j < ops.size <;> simp [h]
    refine ⟨by simp, rfl, rfl, hS0, fun _ _ => rfl, fun j hj _ => ?_, fun j hj => ?_, fun j U _ hU => hP0 U (List.mem_of_getElem? hU)⟩
    · rw [hr] at hj; cases hj
    · rw [hr] at hj; cases hj
end
end Go.Proofs.YtgojnpblhfbdpaaGreatDoor

namespace Go.Proofs.YtgojnpblhfbdpaaGreatDoor
open Go Go.RowKit

theorem keepK_same {S : World → Prop} {PS : List (World → Prop)} {VS : List (Value → World → Prop)} {kl : List (List Nat)} {i : Nat} {w : World} (h : S w) : KeepK S PS VS kl i w w := ⟨h, fun _ _ _ _ h => h, fun _ _ _ _ _ _ h => h⟩
theorem keepK_below {S : World → Prop} {PS : List (World → Prop)} {VS : List (Value → World → Prop)} {kl : List (List Nat)} {i : Nat} {w w' : World} [s : Stb S] [p : StPs PS] [q : StVs VS] (hb : Below w.heap.size w w') (h : S w) : KeepK S PS VS kl i w w' :=
  ⟨s.st _ _ hb h, fun _ _ U hU h => (p.st U (List.mem_of_getElem? hU)).st _ _ hb h, fun _ _ _ V hV v h => (q.st V (List.mem_of_getElem? hV)).st v _ _ hb h⟩
theorem keepK_store {S : World → Prop} {PS : List (World → Prop)} {VS : List (Value → World → Prop)} {kl : List (List Nat)} {i g : Nat} {w : World} {X : Option Addr} {a b : Nat} {s : Bool} {cs : Array Value} (O : Own w g 26 #[.slice X a b, .bool s]) (hS : Sst g S) (hP : SsPs g i PS) (hV : SsVs g i VS) (h : S w) : KeepK S PS VS kl i w (w.setRow g cs) :=
  ⟨hS.st _ _ _ _ _ _ O h, fun j hj U hU h => (ssPs_get PS i j hP hj U hU).st _ _ _ _ _ _ O h, fun j hj _ V hV' v h => (ssVs_get VS i j hV hj V hV').st v _ _ _ _ _ _ O h⟩
/-- A row that may grow: its block lies behind B and holds bits. -/
def RowB (B : Nat) (u : World) (row : Option Nat) : Prop := ∀ k, row = some k → B ≤ k ∧ ∃ cs, Own u k 58 cs
class Sgr (B : Nat) (U : World → Prop) : Prop where
  st : ∀ u u' row, RowB B u row → u.grownBy u' row → B ≤ u.heap.size → U u → U u'
class SgV (B : Nat) (V : Value → World → Prop) : Prop where
  st : ∀ v u u' row, RowB B u row → u.grownBy u' row → B ≤ u.heap.size → V v u → V v u'
class NotBit (T : TypeId) : Prop where
  ne : T ≠ 58
instance : NotBit 26 := ⟨by decide⟩
instance : NotBit 4 := ⟨by decide⟩
instance : NotBit 3 := ⟨by decide⟩
theorem rowB_ne {B : Nat} {u : World} {row : Option Nat} (hr : RowB B u row) {g : Nat} {T : TypeId} {cs : Array Value} (hT : T ≠ 58) (O : Own u g T cs) : some g ≠ row := by
  rintro rfl
  obtain ⟨_, cs', O'⟩ := hr g rfl
  have h1 : u.heap[g]? = _ := O
  have h2 : u.heap[g]? = _ := O'
  rw [h1] at h2
  simp at h2
  exact hT h2.2
instance (B : Nat) : Sgr B tru := ⟨fun _ _ _ _ _ _ _ => trivial⟩
instance (B g : Nat) (cs : Array Value) : Sgr B (owns g cs) := ⟨fun _ _ _ hr hg _ O => Own.grown O hg (rowB_ne hr (by decide) O)⟩
instance (B g : Nat) (T : TypeId) (cs : Array Value) [h : NotBit T] : Sgr B (ownT g T cs) := ⟨fun _ _ _ hr hg _ O => Own.grown O hg (rowB_ne hr h.ne O)⟩
class LeB (W : World) (B : Nat) : Prop where
  le : W.heap.size ≤ B
instance (W : World) (B : Nat) [h : LeB W B] : Sgr B (blw W) := ⟨fun _ _ _ hr hg hB hb => Below.grown hb hg (Nat.le_trans h.le hB) fun k hk => Nat.le_trans h.le (hr k hk).1⟩
/-- The slice reads as l, and lies in a block below B. -/
def rdo (B : Nat) (A : Option Addr) (n : Nat) (l : List Int) : World → Prop := fun u => Rb u A n l ∧ ∀ b o, A = some ⟨b, o, none⟩ → 0 < n → b < B
theorem rdo.of {w u : World} {A : Option Addr} {n : Nat} {l : List Int} (h : Rb w A n l) (hb : Below w.heap.size w u) : rdo w.heap.size A n l u := ⟨h.step hb, fun b o e hn => by
  obtain ⟨b', o', e', hlt, _⟩ := h.2.2 hn
  rw [e] at e'
  simp only [Option.some.injEq, Addr.mk.injEq, and_true] at e'
  rw [e'.1]; exact hlt⟩
instance (B : Nat) (A : Option Addr) (n : Nat) (l : List Int) : Stb (rdo B A n l) := ⟨fun _ _ hb ⟨h, k⟩ => ⟨h.step hb, k⟩⟩
instance (g B : Nat) (A : Option Addr) (n : Nat) (l : List Int) : Sst g (rdo B A n l) := ⟨fun _ _ _ _ _ _ O ⟨h, k⟩ => ⟨h.row O, k⟩⟩
theorem grown_cell {u u' : World} {row : Option Nat} (hg : u.grownBy u' row) {b o : Nat} {v : Value} (hr : some b ≠ row) (h : u.cell? ⟨b, o, none⟩ = some v) : u'.cell? ⟨b, o, none⟩ = some v := by
  have e : u'.heap[b]? = u.heap[b]? := hg.block b (cell_lt h) hr
  unfold World.cell? at h ⊢
  simp only [e]
  exact h
instance (B : Nat) (A : Option Addr) (n : Nat) (l : List Int) : Sgr B (rdo B A n l) := ⟨fun u u' row hr hg _ ⟨h, k⟩ => ⟨⟨h.1, h.2.1, fun hn => by
  obtain ⟨b, o, e, hlt, hc⟩ := h.2.2 hn
  have hne : some b ≠ row := fun x => by have := (hr b x.symm).1; have := k b o e hn; omega
  exact ⟨b, o, e, Nat.lt_of_lt_of_le hlt hg.size, fun i hi => grown_cell hg hne (hc i hi)⟩⟩, k⟩⟩
instance (B B' : Nat) : Sgr B (szW B') := ⟨fun _ _ _ _ hg _ h => Nat.le_trans h hg.size⟩
instance {B : Nat} {U U' : World → Prop} [h : Sgr B U] [h' : Sgr B U'] : Sgr B (fun u => U u ∧ U' u) := ⟨fun u u' r hr hg hB ⟨x, y⟩ => ⟨h.st u u' r hr hg hB x, h'.st u u' r hr hg hB y⟩⟩
instance (B : Nat) (x : Value) : SgV B (isV x) := ⟨fun _ _ _ _ _ _ _ h => h⟩
instance (B : Nat) : SgV B anyV := ⟨fun _ _ _ _ _ _ _ h => h⟩
def SgPs (B : Nat) : Nat → List (World → Prop) → Prop
  | _, [] => True
  | 0, _ :: l => SgPs B l.length l
  | i + 1, U :: l => Sgr B U ∧ SgPs B i l
theorem sgPs_get {B : Nat} : ∀ (l : List (World → Prop)) (i j : Nat), SgPs B i l → j ≠ i → ∀ U, l[j]? = some U → Sgr B U
  | [], _, _, _, _, U, h => by simp at h
  | X :: l, 0, 0, _, hj, _, _ => absurd rfl hj
  | X :: l, 0, j + 1, hs, _, U, h => by
    have hl : j < l.length := (List.getElem?_eq_some_iff.1 (by simpa using h)).1
    exact sgPs_get l l.length j hs (by omega) U (by simpa using h)
  | X :: l, i + 1, 0, hs, _, U, h => by simp at h; subst h; exact hs.1
  | X :: l, i + 1, j + 1, hs, hj, U, h => sgPs_get l i j hs.2 (by omega) U (by simpa using h)
/-- All the values' conditions but those in k. -/
def SgVs (B : Nat) (k : List Nat) : Nat → List (Value → World → Prop) → Prop
  | _, [] => True
  | i, V :: l => (k.contains i = true ∨ SgV B V) ∧ SgVs B k (i + 1) l
theorem sgVs_get {B : Nat} {k : List Nat} : ∀ (l : List (Value → World → Prop)) (i j : Nat), SgVs B k i l → k.contains (i + j) = false → ∀ V, l[j]? = some V → SgV B V
  | [], _, _, _, _, V, h => by simp at h
  | X :: l, i, 0, hs, hk, V, h => by
    simp at h; subst h
    rcases hs.1 with h1 | h1
    · rw [Nat.add_zero] at hk; rw [hk] at h1; cases h1
    · exact h1
  | X :: l, i, j + 1, hs, hk, V, h => sgVs_get l (i + 1) j hs.2 (by rw [show i + 1 + j = i + (j + 1) by omega]; exact hk) V (by simpa using h)
theorem keepK_grown {S : World → Prop} {PS : List (World → Prop)} {VS : List (Value → World → Prop)} {kl : List (List Nat)} {i B : Nat} {w w' : World} {row : Option Nat} (hr : RowB B w row) (hg : w.grownBy w' row) (hB : B ≤ w.heap.size) (hS : Sgr B S) (hP : SgPs B i PS) (hV : SgVs B (i :: kl.getD i []) 0 VS) (h : S w) : KeepK S PS VS kl i w w' :=
  ⟨hS.st _ _ _ hr hg hB h, fun j hj U hU h => (sgPs_get PS i j hP hj U hU).st _ _ _ hr hg hB h, fun j hj hk V hV' v h => (sgVs_get VS 0 j hV (by rw [Nat.zero_add]; simp only [List.contains_cons, Bool.or_eq_false_iff]; exact ⟨by simpa using hj, hk⟩) V hV').st v _ _ _ hr hg hB h⟩
theorem Nb.rowB {w : World} {B : Nat} {A : Option Addr} {n c : Nat} {l : List Int} (h : Nb w B A n c l) : RowB B w (Value.slice A n c).ownBlock := by
  intro k hk
  rcases h.2.2.2 with ⟨e, h0⟩ | ⟨g, cap, cur, e, hB, hh, _⟩
  · rw [e] at hk; simp [Value.ownBlock] at hk
  · rw [e] at hk
    have : g = k := by simpa [Value.ownBlock] using hk
    subst this
    exact ⟨hB, cur, hh⟩
theorem wp_cat {B : Nat} {o : Oper} {a : Act} {w : World} {K : Act → World → Prop} {Q : Exit → Act → World → Prop} (s x : Operand)
    (ho : o.op = .call { callee := .builtin .append, args := #[s, x], argTypes := #[24, 24] }) (hty : o.type = 24) (hbase : B ≤ w.heap.size)
    {A : Option Addr} {n c : Nat} {l : List Int} (hs : a.eval s = .slice A n c) (hv : Nb w B A n c l) {X : Option Addr} {m d : Nat} {y : List Int} (hx : a.eval x = .slice X m d) (hr : Rb w X m y) (hn : n + m ≤ 1000000)
    (h : ∀ A' c' w', Nb w' B A' (n + m) c' (l ++ y) → w.grownBy w' (Value.slice A n c).ownBlock → K (a.put o.dst (.slice A' (n + m) c')) w') : o.wp Tryz.prog a w K Q := by
  obtain ⟨A', c', w', hrun, h2, h3⟩ := run_catV (d := d) hbase hv hr hn
  unfold Oper.wp execOp
  simp only [ho, hty, resolve, invoke, builtin, Sem.run_bind, Sem.run_pure, Result.andThen_ok, List.map_toArray, List.map_cons, List.map_nil, hs, hx, hrun]
  exact h A' c' w' h2 h3
theorem set0_row {w : World} {g : Nat} {T : TypeId} {x y : Value} (O : Own w g T #[x, y]) (v : Value) : w.setCell ⟨g, 0, none⟩ v = w.setRow g #[v, y] := by
  have h1 := O.put 0 v
  have h2 := Own.row (cs := #[v, y]) O
  have e : (w.setCell ⟨g, 0, none⟩ v).heap = (w.setRow g #[v, y]).heap := by
    apply Array.ext_getElem?
    intro k
    by_cases hk : k = g
    · subst hk
      have h1' : (w.setCell ⟨k, 0, none⟩ v).heap[k]? = _ := h1
      have h2' : (w.setRow k #[v, y]).heap[k]? = _ := h2
      rw [h1', h2']; simp
    · rw [Below.heap_setCell w ⟨g, 0, none⟩ v k hk]
      simp only [World.setRow, Array.getElem?_modify]
      rw [if_neg (fun e => hk e.symm)]
  unfold World.setRow at e ⊢
  unfold World.setCell at e ⊢
  simp only at e
  rw [e]
/-- A row of one bit, just made. -/
def isOne (B : Nat) (b : Int) : Value → World → Prop := fun v u => ∃ g, v = .slice (some ⟨g, 0, none⟩) 1 1 ∧ Own u g 58 (ia [b]) ∧ B ≤ g
instance (B : Nat) (b : Int) : StV (isOne B b) := ⟨fun _ _ _ hb ⟨g, h1, h2, h3⟩ => ⟨g, h1, h2.step hb, h3⟩⟩
def isNil (B : Nat) : Value → World → Prop := fun v u => ∃ g, v = .slice (some ⟨g, 0, none⟩) 0 0 ∧ Nb u B (some ⟨g, 0, none⟩) 0 0 []
instance (B : Nat) : StV (isNil B) := ⟨fun _ _ _ hb ⟨g, h1, h2⟩ => ⟨g, h1, h2.step hb⟩⟩
def isNbL (B n : Nat) (l : List Int) : Value → World → Prop := fun v u => ∃ A c, v = .slice A n c ∧ Nb u B A n c l
instance (B n : Nat) (l : List Int) : StV (isNbL B n l) := ⟨fun _ _ _ hb ⟨A, c, h1, h2⟩ => ⟨A, c, h1, h2.step hb⟩⟩
theorem own_row_bit {w : World} {g h : Nat} {X : Option Addr} {a b : Nat} {s : Bool} {cs cs' : Array Value} (H : Own w h 58 cs') (O : Own w g 26 #[.slice X a b, .bool s]) : Own (w.setRow g cs) h 58 cs' := Own.rowFar H (fun e => by
  subst e
  have h5 : w.heap[g]? = _ := H
  have h6 : w.heap[g]? = _ := O
  rw [h5] at h6
  simp at h6)
instance (g B : Nat) (b : Int) : SsV g (isOne B b) := ⟨fun _ _ _ _ _ _ _ O ⟨h, h1, h2, h3⟩ => ⟨h, h1, own_row_bit h2 O, h3⟩⟩
instance (g B : Nat) : SsV g (isNil B) := ⟨fun _ _ _ _ _ _ _ O ⟨h, h1, h2⟩ => ⟨h, h1, h2.row O⟩⟩
instance (g B n : Nat) (l : List Int) : SsV g (isNbL B n l) := ⟨fun _ _ _ _ _ _ _ O ⟨A, c, h1, h2⟩ => ⟨A, c, h1, h2.row O⟩⟩
/-- The row that a variable holds, in its own right. -/
def nbs (B : Nat) (A : Option Addr) (n c : Nat) (l : List Int) : World → Prop := fun u => Nb u B A n c l
instance (B : Nat) (A : Option Addr) (n c : Nat) (l : List Int) : Stb (nbs B A n c l) := ⟨fun _ _ hb h => Nb.step h hb⟩
instance (g B : Nat) (A : Option Addr) (n c : Nat) (l : List Int) : Sst g (nbs B A n c l) := ⟨fun _ _ _ _ _ _ O h => Nb.row h O⟩
end Go.Proofs.YtgojnpblhfbdpaaGreatDoor

namespace Go.Proofs.YtgojnpblhfbdpaaGreatDoor
open Go Go.RowKit

theorem norow_v {P : Program} {s : Sem Value} {w w' : World} {r} {args : Array Value} : ((do let x ← s; pure (Next.value x)) : Sem Next).run P w ≠ .ok (.row r args) w' := by
  rw [Sem.run_bind]
  cases s.run P w <;> simp [Result.andThen]
theorem norow_u {P : Program} {s : Sem Unit} {w w' : World} {r} {args : Array Value} : ((do s; pure Next.skip) : Sem Next).run P w ≠ .ok (.row r args) w' := by
  rw [Sem.run_bind]
  cases s.run P w <;> simp [Result.andThen]
theorem wpIn_of_wp {P : Program} {l N : Nat} {o : Oper} {a : Act} {w : World} {K : Act → World → Prop} {Q : Exit → Act → World → Prop} (hnd : ∀ c, o.op ≠ .defer c) (hrow : ∀ r args w', (execOp a.eval o).run P w ≠ .ok (.row r args) w') (h : o.wp P a w K Q) : o.wpIn (Fence.wide.inRound l) N P a w K Q := by
  unfold Oper.wpIn
  unfold Oper.wp at h
  rw [show (Fence.wide.inRound l).round = some l from rfl, Oper.semAt_some _ _ _ hnd]
  refine ⟨fun _ _ => trivial, ?_⟩
  revert hrow h
  generalize (execOp a.eval o).run P w = r
  intro hrow h
  cases r with
  | ok x w' =>
    cases x
    case enter f args =>
      refine ⟨fun e => (by cases e), CallsIn.inRound l (callsIn_wide.2 ?_)⟩
      refine Calls.mono h ?_
      intro e w'' he
      cases e <;> exact he
    case row r args => exact absurd rfl (hrow _ _ _)
    case round => exact h.elim
    all_goals exact h
  | halt x w' => cases x <;> simp only [Oper.upon, Oper.uponIn] at h ⊢ <;> exact h
section
variable {P : Program} {ops : Array Oper} {Q : Exit → Act → World → Prop}
section
variable {F : Fence} {N : Nat}
theorem wpAnyIn_inv {md : Region.Mode} {I : Array Bool → Act → World → Prop} (hs : ∀ listed a w i, i ∈ Region.ready md ops listed → I listed a w → wpOpIn F N P ops Q i (I (listed.setIfInBounds i true)) a w)
    (he : ∀ listed a w, Region.ready md ops listed = [] → I listed a w → Q .normal a w) (hz : ∀ listed a w, I listed a w → listed.size = ops.size) : ∀ (fuel : Nat) (listed : Array Bool) (a : Act) (w : World), (listed.toList.countP (! ·)) ≤ fuel → I listed a w → wpAnyIn F N P md ops Q fuel listed a w
  | 0, listed, a, w, hc, hI => by
    have hr : Region.ready md ops listed = [] := by
      rw [List.eq_nil_iff_forall_not_mem]
      intro i hi
      obtain ⟨h0, o, ho, _⟩ := mem_ready.1 hi
      have hlt : i < listed.size := by rw [hz _ _ _ hI]; exact (Array.getElem?_eq_some_iff.1 ho).1
      have : 0 < listed.toList.countP (! ·) := List.countP_pos_iff.2 ⟨listed[i], by simp, by simpa [hlt] using h0⟩
      omega
    exact ⟨hr, he _ _ _ hr hI⟩
  | fuel + 1, listed, a, w, hc, hI => ⟨fun hr => he _ _ _ hr hI, fun i hi => wpOpIn_mono (fun a' w' h' => wpAnyIn_inv hs he hz fuel _ a' w' (by
      obtain ⟨h0, o, ho, _⟩ := mem_ready.1 hi
      have hlt : i < listed.size := by rw [hz _ _ _ hI]; exact (Array.getElem?_eq_some_iff.1 ho).1
      have h0' : listed[i] = false := by simpa [hlt] using h0
      have e : (!listed.toList[i]'(by simpa using hlt)) = true := by simpa using h0'
      rw [Array.toList_setIfInBounds, List.countP_set (p := (! ·)) (l := listed.toList) (i := i) (a := true) (by simpa using hlt), if_pos e, if_neg (by simp)]
      omega) h') (hs _ _ _ i hi hI)⟩

end
/-- One operation's obligation. -/
def StepI (l₀ N : Nat) (P : Program) (Q : Exit → Act → World → Prop) (a0 : Act) (S : World → Prop) (PS : List (World → Prop)) (VS : List (Value → World → Prop)) (ds : List (Option Tmp)) (dps us kq : List (List Nat)) (i : Nat) (o : Oper) : Prop :=
  ∀ (a : Act) (w : World), S w → (∀ k, oldB ds dps i k = true → a.tmps[k]? = a0.tmps[k]?) → (∀ j, (us.getD i []).contains j = true → Fact VS ds j a w) → (∀ j U, beforeB dps i j = true → PS[j]? = some U → U w) → ∀ K : Act → World → Prop,
    (∀ v w', (o.dst = none → v = undef) → KeepK S PS VS kq i w w' → (VS.getD i fun _ _ => True) v w' → K (a.put o.dst v) w') → if Region.wanted o (yieldD ds a.tmps) = true then o.wpIn (Fence.wide.inRound l₀) N P a w K Q else K (a.put o.dst undef) w
def StepsI (l₀ N : Nat) (P : Program) (Q : Exit → Act → World → Prop) (a0 : Act) (S : World → Prop) (PS : List (World → Prop)) (VS : List (Value → World → Prop)) (ds : List (Option Tmp)) (dps us kq : List (List Nat)) : Nat → List Oper → Prop
  | _, [] => True
  | i, o :: r => StepI l₀ N P Q a0 S PS VS ds dps us kq i o ∧ StepsI l₀ N P Q a0 S PS VS ds dps us kq (i + 1) r
theorem stepsI_get {l₀ N : Nat} {a0 : Act} {S : World → Prop} {PS : List (World → Prop)} {VS : List (Value → World → Prop)} {ds : List (Option Tmp)} {dps us kq : List (List Nat)} : ∀ (l : List Oper) (k : Nat), StepsI l₀ N P Q a0 S PS VS ds dps us kq k l → ∀ (i : Nat) (o : Oper), l[i]? = some o → StepI l₀ N P Q a0 S PS VS ds dps us kq (k + i) o
  | [], _, _, i, o, h => by simp at h
  | x :: l, k, hs, 0, o, h => by simp at h; subst h; exact hs.1
  | x :: l, k, hs, i + 1, o, h => by
    have := stepsI_get l (k + 1) hs.2 i o (by simpa using h)
    rwa [show k + 1 + i = k + (i + 1) by omega] at this
theorem region_i {l₀ N id : Nat} {a0 : Act} {W : World} (hm : P.follows .mixedOrders = true) (S : World → Prop) (PS : List (World → Prop)) (VS : List (Value → World → Prop)) (ds : List (Option Tmp)) (dps us kl kq : List (List Nat))
    (hds : ops.toList.map (·.dst) = ds) (hdps : ops.toList.map depsO = dps) (hus : ((List.range us.length).all fun i => (us.getD i []).all fun j => (dps.getD i []).contains j) = true) (hkl : ((List.range kl.length).all fun i => (kl.getD i []).all fun j => (List.range us.length).all fun k => !(us.getD k []).contains j || (k == i || (dps.getD i []).contains k)) = true) (hkq : ((List.range kq.length).all fun i => (kq.getD i []).all fun j => (kl.getD i []).contains j || beforeB dps i j) = true) (hVS : VS.length = ds.length) (hdis : distinctD ds = true) (hin : insideD ds a0.tmps.size = true)
    (hac : ((List.range ops.size).all fun i => ((ops[i]?).map (·.after.all fun e => decide (e.on < i))).getD true) = true)
    (hS0 : S W.drew) (hP0 : ∀ U ∈ PS, U W.drew)
    (hstep : StepsI l₀ N P Q a0 S PS VS ds dps us kq 0 ops.toList)
    (hfin : ∀ (vs : List Value) (w : World), vs.length = ds.length → S w → (∀ (j : Nat) (V : Value → World → Prop), (kl.all fun l => !l.contains j) = true → VS[j]? = some V → V (vs.getD j undef) w) → Q .normal (puts a0 ds vs) w) :
    (Code.region id ops true).wpIn (Fence.wide.inRound l₀) N P Q a0 W := by
  have hlen : ds.length = ops.size := by rw [← hds]; simp
  have dsat : ∀ i (o : Oper), ops[i]? = some o → ds[i]? = some o.dst := fun i o ho => by
    rw [← hds, List.getElem?_map, Array.getElem?_toList, ho]; rfl
  have dpat : ∀ i (o : Oper), ops[i]? = some o → dps.getD i [] = depsO o := fun i o ho => by
    rw [← hdps, List.getD_eq_getElem?_getD, List.getElem?_map, Array.getElem?_toList, ho]; rfl
  refine wpIn_region_any hm (wpAnyIn_inv (I := RK ops a0 S PS VS ds dps kl) (fun L a w i hi I => ?_) (fun L a w hr I => ?_) (fun L a w I => I.lsz) _ _ _ _ (by simp [List.countP_replicate]) ?_)
  · obtain ⟨hun, o, ho, hdep⟩ := mem_ready.1 hi
    have hio := (Array.getElem?_eq_some_iff.1 ho).1
    have hLi : i < L.size := by rw [I.lsz]; exact hio
    have hun' : L.getD i false = false := by simpa [hLi] using hun
    have hdone : ∀ j, (dps.getD i []).contains j = true → L.getD j false = true := by
      intro j hj
      rw [dpat i o ho] at hj
      have hj' : j ∈ depsO o := by simpa using hj
      obtain ⟨e, he, rfl⟩ := List.mem_map.1 hj'
      obtain ⟨he, hb⟩ := List.mem_filter.1 he
      exact hdep e (by simpa using he) hb
    have husd : ∀ i j, (us.getD i []).contains j = true → (dps.getD i []).contains j = true := by
      intro i j hj
      by_cases hi : i < us.length
      · exact List.all_eq_true.1 (List.all_eq_true.1 hus i (List.mem_range.2 hi)) j (by simpa using hj)
      · rw [List.getD_eq_getElem?_getD, List.getElem?_eq_none (by omega)] at hj
        simp at hj
    have hnk : ∀ i j, L.getD i false = false → (us.getD i []).contains j = true → ∀ i', L.getD i' false = true → (kl.getD i' []).contains j = false := by
      intro i j hi hj i' hi'
      cases hc : (kl.getD i' []).contains j with
      | false => rfl
      | true =>
        exfalso
        have hil : i < us.length := by
          rcases Nat.lt_or_ge i us.length with h | h
          · exact h
          · rw [List.getD_eq_getElem?_getD, List.getElem?_eq_none h] at hj
            simp at hj
        have hil' : i' < kl.length := by
          rcases Nat.lt_or_ge i' kl.length with h | h
          · exact h
          · rw [List.getD_eq_getElem?_getD, List.getElem?_eq_none h] at hc
            simp at hc
        have h1 := List.all_eq_true.1 (List.all_eq_true.1 (List.all_eq_true.1 hkl i' (List.mem_range.2 hil')) j (by simpa using hc)) i (List.mem_range.2 hil)
        rw [hj] at h1
        simp only [Bool.not_true, Bool.false_or, Bool.or_eq_true] at h1
        rcases h1 with h1 | h1
        · have : i = i' := by simpa using h1
          rw [this, hi'] at hi; cases hi
        · rw [I.closed i' hi' i h1] at hi; cases hi
    have hpre : ∀ j U, beforeB dps i j = true → PS[j]? = some U → U w := by
      intro j U hb hU
      refine I.pres j U ?_ hU
      unfold beforeB at hb
      rcases Bool.or_eq_true _ _ ▸ hb with h | h
      · have : j = i := by simpa using h
        subst this; exact hun'
      · cases hc : L.getD j false with
        | false => rfl
        | true => rw [I.closed j hc i h] at hun'; cases hun'
    have hs := stepsI_get ops.toList 0 hstep i o (by simpa using ho)
    rw [Nat.zero_add] at hs
    have hold : ∀ k, oldB ds dps i k = true → a.tmps[k]? = a0.tmps[k]? := fun k hk => I.olds k fun j hj hjl => by
      have h1 := List.all_eq_true.1 hk j (List.mem_range.2 hjl)
      rw [hj] at h1
      have hb : beforeB dps i j = true := by simpa using h1
      unfold beforeB at hb
      rcases Bool.or_eq_true _ _ ▸ hb with h | h
      · have : j = i := by simpa using h
        subst this; exact hun'
      · cases hc : L.getD j false with
        | false => rfl
        | true => rw [I.closed j hc i h] at hun'; cases hun'
    have hs := hs a w I.s hold (fun j hj => I.facts j (hdone j (husd i j hj)) (hnk i j hun' hj)) hpre (RK ops a0 S PS VS ds dps kl (L.setIfInBounds i true)) (fun v w' hv0 hK hV => by
      refine ⟨by simpa using I.lsz, (put_size a o.dst v).trans I.tsz, (put_defers' a o.dst v).trans I.dfr, hK.1, fun k hk => ?_, fun j hj hnkl => ?_, fun j hj d hd => ?_, fun j U hj hU => ?_⟩
      · rw [put_other]
        · refine I.olds k fun j hj hjl => ?_
          have h1 := hk j hj hjl
          by_cases hji : j = i
          · subst hji; exact hun'
          · rwa [getD_set_ne false (Ne.symm hji)] at h1
        · intro e
          have h1 := hk i (by rw [List.getD_eq_getElem?_getD, dsat i o ho, e]; rfl) (by rw [hlen]; exact hio)
          simp [hLi] at h1
      · by_cases hji : j = i
        · subst hji
          have hvl : j < VS.length := by rw [hVS, hlen]; exact hio
          have hV' : VS[j] v w' := by simpa [hvl] using hV
          refine ⟨fun d V e1 e2 => ?_, fun V e1 e2 => ?_⟩
          · rw [dsat j o ho] at e1
            have hd : o.dst = some d := by simpa using e1
            rw [List.getElem?_eq_getElem hvl] at e2
            obtain rfl : VS[j] = V := by simpa using e2
            refine ⟨v, ?_, hV'⟩
            have hdl : d < a.tmps.size := by
              rw [I.tsz]
              have h1 := List.all_eq_true.1 hin _ (List.mem_of_getElem? (dsat j o ho))
              rw [hd] at h1
              simpa using h1
            rw [hd]
            exact put_self a d v hdl
          · rw [dsat j o ho] at e1
            have hd : o.dst = none := by simpa using e1
            rw [List.getElem?_eq_getElem hvl] at e2
            obtain rfl : VS[j] = V := by simpa using e2
            rw [← hv0 hd]
            exact hV'
        · rw [getD_set_ne false (Ne.symm hji)] at hj
          have hki : (kl.getD i []).contains j = false := hnkl i (by simp [hLi])
          have hkqi : (kq.getD i []).contains j = false := by
            cases hc : (kq.getD i []).contains j with
            | false => rfl
            | true =>
              exfalso
              have hil : i < kq.length := by
                rcases Nat.lt_or_ge i kq.length with h | h
                · exact h
                · rw [List.getD_eq_getElem?_getD, List.getElem?_eq_none h] at hc
                  simp at hc
              have h1 := List.all_eq_true.1 (List.all_eq_true.1 hkq i (List.mem_range.2 hil)) j (by simpa using hc)
              rw [hki, Bool.false_or] at h1
              unfold beforeB at h1
              rcases Bool.or_eq_true _ _ ▸ h1 with h | h
              · exact hji (by simpa using h)
              · rw [I.closed j hj i h] at hun'; cases hun'
          have hf := I.facts j hj (fun i' hi' => hnkl i' (by
            by_cases e : i' = i
            · subst e; simp [hLi]
            · rw [getD_set_ne false (Ne.symm e)]; exact hi'))
          refine ⟨fun d V e1 e2 => ?_, fun V e1 e2 => hK.2.2 j hji hkqi V e2 _ (hf.2 V e1 e2)⟩
          obtain ⟨v', h1, h2⟩ := hf.1 d V e1 e2
          refine ⟨v', ?_, hK.2.2 j hji hkqi V e2 _ h2⟩
          rw [put_other]
          · exact h1
          · intro e
            exact distinctD_spec hdis (by rw [dsat i o ho, e]) e1 (Ne.symm hji) rfl
      · by_cases hdi : d = i
        · subst hdi; simp [hLi]
        · rw [getD_set_ne false (Ne.symm hdi)]
          by_cases hji : j = i
          · subst hji; exact hdone d hd
          · rw [getD_set_ne false (Ne.symm hji)] at hj
            exact I.closed j hj d hd
      · by_cases hji : j = i
        · subst hji; simp [hLi] at hj
        · rw [getD_set_ne false (Ne.symm hji)] at hj
          exact hK.2.1 j hji U hU (I.pres j U hj hU))
    unfold wpOpIn
    rw [ho]
    rw [yieldD_eq hds]
    simp only
    split
    · rename_i hw
      rw [if_pos hw] at hs
      exact hs
    · rename_i hw
      rw [if_neg hw] at hs
      exact ⟨fun _ _ => trivial, hs⟩
  · have hl := all_listed hac I.lsz hr
    have hF : ∀ j, j < ds.length → (kl.all fun l => !l.contains j) = true → Fact VS ds j a w := fun j hj hk => I.facts j (hl j (by omega)) (fun i' _ => by
      by_cases h : i' < kl.length
      · have h1 := List.all_eq_true.1 hk _ (List.getElem_mem h)
        rw [List.getD_eq_getElem?_getD, List.getElem?_eq_getElem h]
        simpa using h1
      · rw [List.getD_eq_getElem?_getD, List.getElem?_eq_none (by omega)]; rfl)
    have e := puts_eq a ds (ds.map fun d => match d with | some d => a.tmps.getD d undef | none => undef) a0 (by simp) I.tsz I.dfr (fun d hd k hk => by
      have h1 := List.all_eq_true.1 hin _ hd
      rw [hk] at h1
      simpa using h1) (fun j d hd => by
      rw [List.getElem?_map, hd]
      have hj := (List.getElem?_eq_some_iff.1 hd).1
      have hdl : d < a.tmps.size := by
        rw [I.tsz]
        have h1 := List.all_eq_true.1 hin _ (List.mem_of_getElem? hd)
        simpa using h1
      simp only [Option.map_some]
      rw [Array.getD_eq_getD_getElem?, Array.getElem?_eq_getElem hdl]; rfl) (fun k hk => I.olds k (fun j hj hjl => by
      exfalso
      apply hk
      rw [List.getD_eq_getElem?_getD, List.getElem?_eq_getElem hjl] at hj
      simp only [Option.getD_some] at hj
      rw [← hj]
      exact List.getElem_mem hjl))
    rw [e]
    refine hfin _ w (by simp) I.s (fun j V hkj hV => ?_)
    have hj : j < ds.length := by rw [← hVS]; exact (List.getElem?_eq_some_iff.1 hV).1
    have hf := hF j hj hkj
    rw [List.getD_eq_getElem?_getD, List.getElem?_map]
    have hdj := List.getElem?_eq_getElem hj
    rw [hdj]
    simp only [Option.map_some, Option.getD_some]
    cases hc : ds[j] with
    | none => rw [hc] at hdj; exact hf.2 V hdj hV
    | some d =>
      rw [hc] at hdj
      obtain ⟨v, hv, hVv⟩ := hf.1 d V hdj hV
      simp only
      rw [Array.getD_eq_getD_getElem?, hv]; exact hVv
  · have hr : ∀ j, (Array.replicate ops.size false).getD j false = false := by
      intro j
      by_cases h : j < ops.size <;> simp [h]
    refine ⟨by simp, rfl, rfl, hS0, fun _ _ => rfl, fun j hj _ => ?_, fun j hj => ?_, fun j U _ hU => hP0 U (List.mem_of_getElem? hU)⟩
    · rw [hr] at hj; cases hj
    · rw [hr] at hj; cases hj
end
end Go.Proofs.YtgojnpblhfbdpaaGreatDoor

namespace Go.Proofs.YtgojnpblhfbdpaaGreatDoor
open Go Go.RowKit

set_option maxRecDepth 100000 in
theorem mul64_any (x y : Nat) (hx : x ≤ 1000) (hy : y ≤ 1000) (w : World) :
    Calls Tryz.prog 191 #[.int .u64 x, .int .u64 y] w fun e w' => e = .returned (.tuple #[.int .u64 0, .int .u64 ((x * y : Nat) : Int)]) ∧ w' = w := by
  have e1 : bits .and .u64 (x : Int) 4294967295 = x := by rw [and_low32 _ (by omega) (by omega)]; omega
  have e2 : bits .and .u64 (y : Int) 4294967295 = y := by rw [and_low32 _ (by omega) (by omega)]; omega
  have d1 : (x : Int) / 4294967296 = 0 := by omega
  have d2 : (y : Int) / 4294967296 = 0 := by omega
  have hp : x * y ≤ 1000 * 1000 := Nat.mul_le_mul hx hy
  have hm : (x : Int) * y = ((x * y : Nat) : Int) := by push_cast; rfl
  generalize x * y = p at *
  have wp : IntKind.u64.wrap (p : Int) = p := by simp [IntKind.wrap, IntKind.signed, IntKind.bits]; omega
  have d3 : (p : Int) / 4294967296 = 0 := by omega
  have w0 : IntKind.u64.wrap 0 = 0 := by decide
  have b0 : bits .and .u64 0 4294967295 = 0 := by decide
  have d0 : (0 : Int) / 4294967296 = 0 := by decide
  go_enter Tryz.func191, Tryz.ntmps191
  go_wp2
  try simp only [e1, e2, d1, d2, hm, wp, Int.mul_zero, Int.zero_mul, Int.add_zero, Int.zero_add, w0, d3, b0, d0]
  go_ret2
  exact ⟨rfl, rfl⟩
set_option maxRecDepth 100000 in
theorem mul_any (x y : Nat) (hx : x ≤ 1000) (hy : y ≤ 1000) (w : World) :
    Calls Tryz.prog 161 #[.int .u64 x, .int .u64 y] w fun e w' => e = .returned (.tuple #[.int .u64 0, .int .u64 ((x * y : Nat) : Int)]) ∧ w' = w := by
  have H := mul64_any x y hx hy w
  go_enter Tryz.func161, Tryz.ntmps161
  go_wp2_with (go_at_call 191; refine H.mono ?_; rintro e w1 ⟨rfl, rfl⟩)
  go_ret2
  exact ⟨rfl, rfl⟩
end Go.Proofs.YtgojnpblhfbdpaaGreatDoor

namespace Go.Proofs.YtgojnpblhfbdpaaGreatDoor
open Go Go.RowKit

theorem Nb.setT {u : World} {B : Nat} {A : Option Addr} {n c : Nat} {l : List Int} {g : Nat} {T : TypeId} {cs : Array Value} (h : Nb u B A n c l) (O : Own u g T cs) (hT : T ≠ 58) (i : Nat) (q : Value) : Nb (u.setCell ⟨g, i, none⟩ q) B A n c l := by
  refine ⟨h.1, h.2.1, h.2.2.1, h.2.2.2.imp id fun ⟨k, cap, cur, h1, h2, h3, h4⟩ => ⟨k, cap, cur, h1, h2, ?_, h4⟩⟩
  refine Own.far h3 (p := ⟨g, i, none⟩) (fun e => ?_) q
  simp only at e
  subst e
  have h5 : u.heap[k]? = _ := O
  rw [h5] at h3
  simp at h3
  exact hT h3.2
section
variable {o : Oper} {a : Act} {w : World} {K : Act → World → Prop} {Q : Exit → Act → World → Prop}
theorem wp_val {w' : World} {q : Value} (hrun : (execOp a.eval o).run Tryz.prog w = .ok (.value q) w') (h : K (a.put o.dst q) w') : o.wp Tryz.prog a w K Q := by
  unfold Oper.wp; rw [hrun]; exact h
theorem wp_unit {w' : World} (hrun : (execOp a.eval o).run Tryz.prog w = .ok .skip w') (h : K (a.put o.dst undef) w') : o.wp Tryz.prog a w K Q := by
  unfold Oper.wp; rw [hrun]; exact h
theorem run_fa0 (g : Nat) (W : World) : (Instr.fieldAt 26 (.pointer (some ⟨g, 0, none⟩)) 0).run Tryz.prog W = .ok (.pointer (some ⟨g, 0, none⟩)) W := by simp [go_sem]
theorem run_fa1 (g : Nat) (W : World) : (Instr.fieldAt 26 (.pointer (some ⟨g, 0, none⟩)) 1).run Tryz.prog W = .ok (.pointer (some ⟨g, 1, none⟩)) W := by simp [go_sem]
theorem wp_fa0 (x : Operand) (ho : o.op = .fieldAddr 26 x 0) {g : Nat} (hx : a.eval x = .pointer (some ⟨g, 0, none⟩)) (h : K (a.put o.dst (.pointer (some ⟨g, 0, none⟩))) w) : o.wp Tryz.prog a w K Q := by
  refine wp_val ?_ h
  unfold execOp
  simp only [ho, hx, Sem.run_bind, run_fa0, Result.andThen_ok, Sem.run_pure]
theorem wp_fa1 (x : Operand) (ho : o.op = .fieldAddr 26 x 1) {g : Nat} (hx : a.eval x = .pointer (some ⟨g, 0, none⟩)) (h : K (a.put o.dst (.pointer (some ⟨g, 1, none⟩))) w) : o.wp Tryz.prog a w K Q := by
  refine wp_val ?_ h
  unfold execOp
  simp only [ho, hx, Sem.run_bind, run_fa1, Result.andThen_ok, Sem.run_pure]
theorem run_ldS {p : Addr} {A : Option Addr} {n c : Nat} (h1 : w.cell? p = some (.slice A n c)) : (Instr.loadAt 24 (.pointer (some p))).run Tryz.prog w = .ok (.slice A n c) w := by simp [go_sem, h1]
theorem wp_ldS (x : Operand) (ho : o.op = .load 24 x) {p : Addr} (hx : a.eval x = .pointer (some p)) {A : Option Addr} {n c : Nat} (hc : w.cell? p = some (.slice A n c)) (h : K (a.put o.dst (.slice A n c)) w) : o.wp Tryz.prog a w K Q := by
  refine wp_val ?_ h
  unfold execOp
  simp only [ho, hx, Sem.run_bind, run_ldS hc, Result.andThen_ok, Sem.run_pure]
theorem run_ldB {p : Addr} {b : Bool} (h1 : w.cell? p = some (.bool b)) : (Instr.loadAt 4 (.pointer (some p))).run Tryz.prog w = .ok (.bool b) w := by simp [go_sem, h1]
theorem wp_ldB (x : Operand) (ho : o.op = .load 4 x) {p : Addr} (hx : a.eval x = .pointer (some p)) {b : Bool} (hc : w.cell? p = some (.bool b)) (h : K (a.put o.dst (.bool b)) w) : o.wp Tryz.prog a w K Q := by
  refine wp_val ?_ h
  unfold execOp
  simp only [ho, hx, Sem.run_bind, run_ldB hc, Result.andThen_ok, Sem.run_pure]
theorem run_ldU {p : Addr} {b : Int} (h1 : w.cell? p = some (.int .u8 b)) : (Instr.loadAt 58 (.pointer (some p))).run Tryz.prog w = .ok (.int .u8 b) w := by simp [go_sem, h1]
theorem wp_ldU (x : Operand) (ho : o.op = .load 58 x) {p : Addr} (hx : a.eval x = .pointer (some p)) {b : Int} (hc : w.cell? p = some (.int .u8 b)) (h : K (a.put o.dst (.int .u8 b)) w) : o.wp Tryz.prog a w K Q := by
  refine wp_val ?_ h
  unfold execOp
  simp only [ho, hx, Sem.run_bind, run_ldU hc, Result.andThen_ok, Sem.run_pure]
theorem run_ix (b p n c k : Nat) (hk : k < n) (W : World) : (Instr.indexAt 24 (.slice (some ⟨b, p, none⟩) n c) (.int .i64 k)).run Tryz.prog W = .ok (.pointer (some ⟨b, p + k, none⟩)) W := by
  have i1 : (k : Int) < n := by omega
  have i0 : (0 : Int) ≤ k := by omega
  simp [go_sem, i0, i1]
theorem wp_ix (x y : Operand) (ho : o.op = .indexAddr 24 x y) {b p n c k : Nat} (hx : a.eval x = .slice (some ⟨b, p, none⟩) n c) (hy : a.eval y = .int .i64 k) (hk : k < n) (h : K (a.put o.dst (.pointer (some ⟨b, p + k, none⟩))) w) : o.wp Tryz.prog a w K Q := by
  refine wp_val ?_ h
  unfold execOp
  simp only [ho, hx, hy, Sem.run_bind, run_ix _ _ _ _ _ hk, Result.andThen_ok, Sem.run_pure]
theorem run_bs0 (W : World) : (Instr.buildSlice 24 0 #[]).run Tryz.prog W = .ok (.slice (some ⟨W.heap.size, 0, none⟩) 0 0) (W.alloc (.cells #[] 58)) := by kernel_rfl
theorem wp_bs0 (ho : o.op = .buildSlice 24 0 #[]) (h : K (a.put o.dst (.slice (some ⟨w.heap.size, 0, none⟩) 0 0)) (w.alloc (.cells #[] 58))) : o.wp Tryz.prog a w K Q := by
  refine wp_val ?_ h
  unfold execOp
  have := run_bs0 w
  simp only [ho, Sem.run_bind, Array.map_empty, this, Result.andThen_ok, Sem.run_pure]
theorem run_bs1 (b : Int) (W : World) : (Instr.buildSlice 24 1 #[(0, .int .u8 b)]).run Tryz.prog W = .ok (.slice (some ⟨W.heap.size, 0, none⟩) 1 1) (W.alloc (.cells #[.int .u8 b] 58)) := by kernel_rfl
theorem wp_bs1 (x : Operand) (ho : o.op = .buildSlice 24 1 #[(0, x)]) {b : Int} (hx : a.eval x = .int .u8 b) (h : K (a.put o.dst (.slice (some ⟨w.heap.size, 0, none⟩) 1 1)) (w.alloc (.cells #[.int .u8 b] 58))) : o.wp Tryz.prog a w K Q := by
  refine wp_val ?_ h
  unfold execOp
  have := run_bs1 b w
  simp only [ho, Sem.run_bind, List.map_toArray, List.map_cons, List.map_nil, hx, this, Result.andThen_ok, Sem.run_pure]
theorem run_bld (A : Option Addr) (n c : Nat) (s : Bool) (W : World) : (Instr.build 26 #[(0, .slice A n c), (1, .bool s)]).run Tryz.prog W = .ok (.agg #[.slice A n c, .bool s]) W := by kernel_rfl
theorem wp_bld (x y : Operand) (ho : o.op = .build 26 #[(0, x), (1, y)]) {A : Option Addr} {n c : Nat} {s : Bool} (hx : a.eval x = .slice A n c) (hy : a.eval y = .bool s) (h : K (a.put o.dst (.agg #[.slice A n c, .bool s])) w) : o.wp Tryz.prog a w K Q := by
  refine wp_val ?_ h
  unfold execOp
  simp only [ho, Sem.run_bind, List.map_toArray, List.map_cons, List.map_nil, hx, hy, run_bld, Result.andThen_ok, Sem.run_pure]
theorem run_bld0 (A : Option Addr) (n c : Nat) (W : World) : (Instr.build 26 #[(0, .slice A n c)]).run Tryz.prog W = .ok (.agg #[.slice A n c, .bool false]) W := by kernel_rfl
theorem wp_bld0 (x : Operand) (ho : o.op = .build 26 #[(0, x)]) {A : Option Addr} {n c : Nat} (hx : a.eval x = .slice A n c) (h : K (a.put o.dst (.agg #[.slice A n c, .bool false])) w) : o.wp Tryz.prog a w K Q := by
  refine wp_val ?_ h
  unfold execOp
  simp only [ho, Sem.run_bind, List.map_toArray, List.map_cons, List.map_nil, hx, run_bld0, Result.andThen_ok, Sem.run_pure]
theorem wp_mv (x : Operand) (ho : o.op = .move x) {q : Value} (hx : a.eval x = q) (h : K (a.put o.dst q) w) : o.wp Tryz.prog a w K Q := by
  refine wp_val ?_ h
  unfold execOp
  simp only [ho, Sem.run_pure, hx]
theorem wp_len (x : Operand) (ho : o.op = .call { callee := .builtin .len, args := #[x], argTypes := #[24] }) {A : Option Addr} {n c : Nat} (hx : a.eval x = .slice A n c) (h : K (a.put o.dst (.int .i64 n)) w) : o.wp Tryz.prog a w K Q := by
  refine wp_val ?_ h
  unfold execOp
  simp only [ho, resolve, invoke, builtin, Sem.run_bind, Sem.run_pure, Result.andThen_ok, List.map_toArray, List.map_cons, List.map_nil, hx]
  simp [go_sem]
/-- A store of a row into the first field of a variable of the call's own. -/
theorem run_st0 {g : Nat} {x y : Value} (O : Own w g 26 #[x, y]) (A : Option Addr) (n c : Nat) : (Instr.storeAt 24 (.pointer (some ⟨g, 0, none⟩)) (.slice A n c)).run Tryz.prog w = .ok () (w.setRow g #[.slice A n c, y]) := by
  have h1 := O.cell 0
  have h2 := O.free 0
  rw [← set0_row O]
  simp [go_sem, h1, h2]
theorem wp_st0 (x y : Operand) (ho : o.op = .store 24 x y) {g : Nat} (hx : a.eval x = .pointer (some ⟨g, 0, none⟩)) {A : Option Addr} {n c : Nat} (hy : a.eval y = .slice A n c) {p q : Value} (O : Own w g 26 #[p, q])
    (h : K (a.put o.dst undef) (w.setRow g #[.slice A n c, q])) : o.wp Tryz.prog a w K Q := by
  refine wp_unit ?_ h
  unfold execOp
  simp only [ho, hx, hy, Sem.run_bind, run_st0 O, Result.andThen_ok, Sem.run_pure]
end
theorem wpList_catG {ops : Array Oper} {rest : List Oper} {o : Oper} {a : Act} {w : World} {Q : Exit → Act → World → Prop} (hgd : o.guard = none) (s x : Operand)
    (ho : o.op = .call { callee := .builtin .append, args := #[s, x], argTypes := #[24, 24] }) (hty : o.type = 24)
    {B : Nat} (hb : B ≤ w.heap.size) {A : Option Addr} {n c : Nat} {l : List Int} (hs : a.eval s = .slice A n c) (hv : Nb w B A n c l) {X : Option Addr} {m d : Nat} {y : List Int} (hx : a.eval x = .slice X m d) (hr : Rb w X m y) (hn : n + m ≤ 1000000)
    (h : ∀ A' c' w', Nb w' B A' (n + m) c' (l ++ y) → w.grownBy w' (Value.slice A n c).ownBlock → wpList Tryz.prog ops Q rest (a.put o.dst (.slice A' (n + m) c')) w') : wpList Tryz.prog ops Q (o :: rest) a w := by
  refine wpList_plain hgd fun K hK => ?_
  obtain ⟨A', c', w', hrun, h2, h3⟩ := run_catV (d := d) hb hv hr hn
  unfold Oper.wp execOp
  simp only [ho, hty, resolve, invoke, builtin, Sem.run_bind, Sem.run_pure, Result.andThen_ok, List.map_toArray, List.map_cons, List.map_nil, hs, hx, hrun]
  exact hK _ _ (h A' c' w' h2 h3)
/-- The variable g holds a vector whose bits lie in a row of the call's own. -/
def didL (B g n : Nat) (l : List Int) (s : Bool) : Value → World → Prop := fun _ u => ∃ A c, Own u g 26 #[.slice A n c, .bool s] ∧ Nb u B A n c l
instance (B g n : Nat) (l : List Int) (s : Bool) : StV (didL B g n l s) := ⟨fun _ _ _ hb ⟨A, c, h1, h2⟩ => ⟨A, c, h1.step hb, h2.step hb⟩⟩
theorem run_addg (x y : Operand) (p q : Int) (W : World) : (do eqGuard .add 3 x y (.int .i64 p) (.int .i64 q); binOp .add 3 (.int .i64 p) (.int .i64 q) : Sem Value).run Tryz.prog W = .ok (.int .i64 (IntKind.i64.wrap (p + q))) W := by
  kernel_rfl
theorem run_subg (x y : Operand) (p q : Int) (W : World) : (do eqGuard .sub 3 x y (.int .i64 p) (.int .i64 q); binOp .sub 3 (.int .i64 p) (.int .i64 q) : Sem Value).run Tryz.prog W = .ok (.int .i64 (IntKind.i64.wrap (p - q))) W := by
  kernel_rfl
section
variable {o : Oper} {a : Act} {w : World} {K : Act → World → Prop} {Q : Exit → Act → World → Prop}
theorem wp_add (x y : Operand) (t2 : TypeId) (ho : o.op = .binOp .add 3 x y t2) {p q : Int} (hx : a.eval x = .int .i64 p) (hy : a.eval y = .int .i64 q)
    (h : K (a.put o.dst (.int .i64 (IntKind.i64.wrap (p + q)))) w) : o.wp Tryz.prog a w K Q := by
  have h1 := run_addg x y p q w
  unfold Oper.wp execOp
  simp only [ho, hx, hy]
  simp only [Sem.run_bind, Sem.run_pure] at h1 ⊢
  rw [h1]
  exact h
theorem wp_sub (x y : Operand) (t2 : TypeId) (ho : o.op = .binOp .sub 3 x y t2) {p q : Int} (hx : a.eval x = .int .i64 p) (hy : a.eval y = .int .i64 q)
    (h : K (a.put o.dst (.int .i64 (IntKind.i64.wrap (p - q)))) w) : o.wp Tryz.prog a w K Q := by
  have h1 := run_subg x y p q w
  unfold Oper.wp execOp
  simp only [ho, hx, hy]
  simp only [Sem.run_bind, Sem.run_pure] at h1 ⊢
  rw [h1]
  exact h
end
end Go.Proofs.YtgojnpblhfbdpaaGreatDoor
