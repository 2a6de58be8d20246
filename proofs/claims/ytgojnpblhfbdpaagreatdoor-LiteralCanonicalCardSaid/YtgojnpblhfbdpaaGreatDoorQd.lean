/-
  A region whose order is open, operation by operation, stores included: each operation is shown once, out of what the operations that it waits for have left and of what those that wait for it have not yet changed; whatever order is drawn, all of it holds at the end. Conditions: as listed in 'region_w'.
  What stands through a region whose order is open: conditions on worlds and values that new memory, and a store into a variable of the call's own, leave alone. No conditions.
  Contracts of the program's balance. No conditions.
-/
import Derived.Test.YtgojnpblhfbdpaaGreatDoorQb
import Derived.Orders
import Derived.Laws.Tables
import Derived.Laws.Rows
import Derived.Test.YtgojnpblhfbdpaaGreatDoorQc

namespace Go.Proofs.YtgojnpblhfbdpaaGreatDoor
open Go Go.RowKit

section
variable {P : Program} {ops : Array Oper} {Q : Exit → Act → World → Prop}
/-- An invariant of whatever order. -/
theorem wpAny_inv {md : Region.Mode} {I : Array Bool → Act → World → Prop} (hs : ∀ listed a w i, i ∈ Region.ready md ops listed → I listed a w → wpOp P ops Q i (I (listed.setIfInBounds i true)) a w)
    (he : ∀ listed a w, Region.ready md ops listed = [] → I listed a w → Q .normal a w) (hz : ∀ listed a w, I listed a w → listed.size = ops.size) : ∀ (fuel : Nat) (listed : Array Bool) (a : Act) (w : World), (listed.toList.countP (! ·)) ≤ fuel → I listed a w → wpAny P md ops Q fuel listed a w
  | 0, listed, a, w, hc, hI => by
    have hr : Region.ready md ops listed = [] := by
      rw [List.eq_nil_iff_forall_not_mem]
      intro i hi
      obtain ⟨h0, o, ho, _⟩ := mem_ready.1 hi
      have hlt : i < listed.size := by rw [hz _ _ _ hI]; exact (Array.getElem?_eq_some_iff.1 ho).1
      have : 0 < listed.toList.countP (! ·) := List.countP_pos_iff.2 ⟨listed[i], by simp, by simpa [hlt] using h0⟩
      omega
    exact ⟨hr, he _ _ _ hr hI⟩
  | fuel + 1, listed, a, w, hc, hI => ⟨fun hr => he _ _ _ hr hI, fun i hi => wpOp_mono (fun a' w' h' => wpAny_inv hs he hz fuel _ a' w' (by
      obtain ⟨h0, o, ho, _⟩ := mem_ready.1 hi
      have hlt : i < listed.size := by rw [hz _ _ _ hI]; exact (Array.getElem?_eq_some_iff.1 ho).1
      have h0' : listed[i] = false := by simpa [hlt] using h0
      have e : (!listed.toList[i]'(by simpa using hlt)) = true := by simpa using h0'
      rw [Array.toList_setIfInBounds, List.countP_set (p := (! ·)) (l := listed.toList) (i := i) (a := true) (by simpa using hlt), if_pos e, if_neg (by simp)]
      omega) h') (hs _ _ _ i hi hI)⟩
/-- Where nothing may come up, all has come up. -/
theorem all_listed {md : Region.Mode} (hac : ((List.range ops.size).all fun i => ((ops[i]?).map (·.after.all fun e => decide (e.on < i))).getD true) = true) {L : Array Bool} (hL : L.size = ops.size) (hr : Region.ready md ops L = []) : ∀ i, i < ops.size → L.getD i false = true := by
  intro i
  induction i using Nat.strongRecOn with
  | _ i ih =>
    intro hi
    have hil : i < L.size := by omega
    cases hc : L.getD i false with
    | true => rfl
    | false =>
      exfalso
      have : i ∈ Region.ready md ops L := by
        rw [mem_ready]
        refine ⟨by simp [hil] at hc ⊢; exact hc, ops[i], by simp [hi], fun e he _ => ?_⟩
        have h1 := List.all_eq_true.1 hac i (List.mem_range.2 hi)
        rw [Array.getElem?_eq_getElem hi] at h1
        simp only [Option.map_some, Option.getD_some] at h1
        have h2 := of_decide_eq_true ((Array.all_eq_true_iff_forall_mem.1 h1) e he)
        exact ih e.on h2 (by omega)
      rw [hr] at this
      cases this
/-- What operation j has left. -/
def Fact (VS : List (Value → World → Prop)) (ds : List (Option Tmp)) (j : Nat) (a : Act) (w : World) : Prop :=
  (∀ d V, ds[j]? = some (some d) → VS[j]? = some V → ∃ v, a.tmps[d]? = some v ∧ V v w) ∧ (∀ V, ds[j]? = some none → VS[j]? = some V → V undef w)
def yieldD (ds : List (Option Tmp)) (tmps : Array Value) (j : Nat) : Option Bool :=
  match ((ds[j]?).bind id).bind (tmps[·]?) with
  | some (.bool b) => some b
  | _ => none
theorem yieldD_eq {ds : List (Option Tmp)} (hds : ops.toList.map (·.dst) = ds) (tmps : Array Value) : yielded ops tmps = yieldD ds tmps := by
  funext j
  unfold yielded yieldD
  rw [← hds]
  have e : ((ops.toList.map (·.dst))[j]?).bind id = (ops[j]?).bind (·.dst) := by
    rw [List.getElem?_map, Array.getElem?_toList]
    cases ops[j]? <;> rfl
  rw [e]
  rfl
def depsO (o : Oper) : List Nat := (o.after.toList.filter (Region.binds .any ·)).map (·.on)
def beforeB (dps : List (List Nat)) (i j : Nat) : Bool := j == i || (dps.getD j []).contains i
/-- What operation i leaves as it was. -/
def Keep (S : World → Prop) (PS : List (World → Prop)) (VS : List (Value → World → Prop)) (i : Nat) (w w' : World) : Prop :=
  S w' ∧ (∀ j, j ≠ i → ∀ U, PS[j]? = some U → U w → U w') ∧ (∀ j, j ≠ i → ∀ V, VS[j]? = some V → ∀ v, V v w → V v w')
/-- One operation's obligation. -/
def StepW (P : Program) (Q : Exit → Act → World → Prop) (a0 : Act) (S : World → Prop) (PS : List (World → Prop)) (VS : List (Value → World → Prop)) (ds : List (Option Tmp)) (dps : List (List Nat)) (i : Nat) (o : Oper) : Prop :=
  ∀ (a : Act) (w : World), S w → (∀ k, ds.contains (some k) = false → a.tmps[k]? = a0.tmps[k]?) → (∀ j, (dps.getD i []).contains j = true → Fact VS ds j a w) → (∀ j U, beforeB dps i j = true → PS[j]? = some U → U w) → ∀ K : Act → World → Prop,
    (∀ v w', (o.dst = none → v = undef) → Keep S PS VS i w w' → (VS.getD i fun _ _ => True) v w' → K (a.put o.dst v) w') → if Region.wanted o (yieldD ds a.tmps) = true then o.wp P a w K Q else K (a.put o.dst undef) w
def StepsW (P : Program) (Q : Exit → Act → World → Prop) (a0 : Act) (S : World → Prop) (PS : List (World → Prop)) (VS : List (Value → World → Prop)) (ds : List (Option Tmp)) (dps : List (List Nat)) : Nat → List Oper → Prop
  | _, [] => True
  | i, o :: r => StepW P Q a0 S PS VS ds dps i o ∧ StepsW P Q a0 S PS VS ds dps (i + 1) r
theorem stepsW_get {a0 : Act} {S : World → Prop} {PS : List (World → Prop)} {VS : List (Value → World → Prop)} {ds : List (Option Tmp)} {dps : List (List Nat)} : ∀ (l : List Oper) (k : Nat), StepsW P Q a0 S PS VS ds dps k l → ∀ (i : Nat) (o : Oper), l[i]? = some o → StepW P Q a0 S PS VS ds dps (k + i) o
  | [], _, _, i, o, h => by simp at h
  | x :: l, k, hs, 0, o, h => by simp at h; subst h; exact hs.1
  | x :: l, k, hs, i + 1, o, h => by
    have := stepsW_get l (k + 1) hs.2 i o (by simpa using h)
    rwa [show k + 1 + i = k + (i + 1) by omega] at this
def puts : Act → List (Option Tmp) → List Value → Act
  | a, d :: ds, v :: vs => puts (a.put d v) ds vs
  | a, _, _ => a
theorem put_size (a : Act) (d : Option Tmp) (v : Value) : (a.put d v).tmps.size = a.tmps.size := by
  cases d <;> simp [Act.put]
theorem put_defers' (a : Act) (d : Option Tmp) (v : Value) : (a.put d v).defers = a.defers := by
  cases d <;> rfl
theorem put_other (a : Act) (d : Option Tmp) (v : Value) (k : Nat) (h : d ≠ some k) : (a.put d v).tmps[k]? = a.tmps[k]? := by
  cases d with
  | none => rfl
  | some d => exact Array.getElem?_setIfInBounds_ne (fun e => h (by rw [e]))
theorem put_self (a : Act) (d : Nat) (v : Value) (h : d < a.tmps.size) : (a.put (some d) v).tmps[d]? = some v := by
  simp only [Act.put]
  rw [Array.getElem?_setIfInBounds_self_of_lt h]
theorem puts_eq (a : Act) : ∀ (ds : List (Option Tmp)) (vs : List Value) (a0 : Act), vs.length = ds.length → a.tmps.size = a0.tmps.size → a.defers = a0.defers → (∀ d ∈ ds, ∀ k : Nat, d = some k → k < a0.tmps.size) →
    (∀ (j d : Nat), ds[j]? = some (some d) → a.tmps[d]? = vs[j]?) → (∀ k : Nat, some k ∉ ds → a.tmps[k]? = a0.tmps[k]?) → a = puts a0 ds vs
  | [], vs, a0, _, hz, hd, _, _, ho => by
    obtain ⟨t, d⟩ := a
    obtain ⟨t0, d0⟩ := a0
    simp only at hz hd ho
    subst hd
    have : t = t0 := Array.ext_getElem? fun k => ho k (by simp)
    subst this
    cases vs <;> rfl
  | d :: ds, [], a0, hl, _, _, _, _, _ => by simp at hl
  | d :: ds, v :: vs, a0, hl, hz, hd, hin, hv, ho => by
    rw [puts]
    refine puts_eq a ds vs (a0.put d v) (by simpa using hl) (by rw [put_size]; exact hz) (by rw [put_defers']; exact hd) (fun e he k hk => by rw [put_size]; exact hin e (List.mem_cons_of_mem _ he) k hk) (fun j e he => hv (j + 1) e (by simpa using he)) (fun k hk => ?_)
    by_cases e : d = some k
    · subst e
      rw [put_self _ _ _ (hin _ (List.mem_cons_self ..) k rfl)]
      exact hv 0 k rfl
    · rw [put_other _ _ _ _ e]
      exact ho k (fun hm => by (rcases List.mem_cons.1 hm with h | h; exact e h.symm; exact hk h))
structure RW (ops : Array Oper) (a0 : Act) (S : World → Prop) (PS : List (World → Prop)) (VS : List (Value → World → Prop)) (ds : List (Option Tmp)) (dps : List (List Nat)) (L : Array Bool) (a : Act) (w : World) : Prop where
  lsz : L.size = ops.size
  tsz : a.tmps.size = a0.tmps.size
  dfr : a.defers = a0.defers
  s : S w
  olds : ∀ k, ds.contains (some k) = false → a.tmps[k]? = a0.tmps[k]?
  facts : ∀ j, L.getD j false = true → Fact VS ds j a w
  closed : ∀ j, L.getD j false = true → ∀ d, (dps.getD j []).contains d = true → L.getD d false = true
  pres : ∀ j U, L.getD j false = false → PS[j]? = some U → U w
def distinctD (ds : List (Option Tmp)) : Bool :=
  (List.range ds.length).all fun i => (List.range ds.length).all fun j => i == j || match ds[i]?, ds[j]? with
    | some (some a), some (some b) => a != b
    | _, _ => true
def insideD (ds : List (Option Tmp)) (n : Nat) : Bool := ds.all fun d => match d with
  | some d => decide (d < n)
  | none => true
theorem distinctD_spec {ds : List (Option Tmp)} (h : distinctD ds = true) {i j : Nat} {a b : Tmp} (hi : ds[i]? = some (some a)) (hj : ds[j]? = some (some b)) (hne : i ≠ j) : a ≠ b := by
  have hil := (List.getElem?_eq_some_iff.1 hi).1
  have hjl := (List.getElem?_eq_some_iff.1 hj).1
  have h1 := List.all_eq_true.1 (List.all_eq_true.1 h i (List.mem_range.2 hil)) j (List.mem_range.2 hjl)
  rw [hi, hj] at h1
  simpa [hne] using h1
theorem region_w {id : Nat} {a0 : Act} {W : World} (hm : P.follows .mixedOrders = true) (S : World → Prop) (PS : List (World → Prop)) (VS : List (Value → World → Prop)) (ds : List (Option Tmp)) (dps : List (List Nat))
    (hds : ops.toList.map (·.dst) = ds) (hdps : ops.toList.map depsO = dps) (hVS : VS.length = ds.length) (hdis : distinctD ds = true) (hin : insideD ds a0.tmps.size = true)
    (hac : ((List.range ops.size).all fun i => ((ops[i]?).map (·.after.all fun e => decide (e.on < i))).getD true) = true)
    (hS0 : S W.drew) (hP0 : ∀ U ∈ PS, U W.drew)
    (hstep : StepsW P Q a0 S PS VS ds dps 0 ops.toList)
    (hfin : ∀ (vs : List Value) (w : World), vs.length = ds.length → S w → (∀ (j : Nat) (V : Value → World → Prop), VS[j]? = some V → V (vs.getD j undef) w) → Q .normal (puts a0 ds vs) w) :
    (Code.region id ops true).wp P Q a0 W := by
  have hlen : ds.length = ops.size := by rw [← hds]; simp
  have dsat : ∀ i (o : Oper), ops[i]? = some o → ds[i]? = some o.dst := fun i o ho => by
    rw [← hds, List.getElem?_map, Array.getElem?_toList, ho]; rfl
  have dpat : ∀ i (o : Oper), ops[i]? = some o → dps.getD i [] = depsO o := fun i o ho => by
    rw [← hdps, List.getD_eq_getElem?_getD, List.getElem?_map, Array.getElem?_toList, ho]; rfl
  refine wp_region_any hm (wpAny_inv (I := RW ops a0 S PS VS ds dps) (fun L a w i hi I => ?_) (fun L a w hr I => ?_) (fun L a w I => I.lsz) _ _ _ _ (by simp [List.countP_replicate]) ?_)
  · obtain ⟨hun, o, ho, hdep⟩ := mem_ready.1 hi
    have hio := (Array.getElem?_eq_some_iff.1 ho).1
    have hLi : i < L.size := by rw [I.lsz]; exact hio
    have hun' : L.getD i false = false := by simpa [hLi] using hun
    have hdone : ∀ j, (dps.getD i []).contains j = true → L.getD j false = true := by
      intro j hj
      rw [dpat i o ho] at hj
      have hj' : j ∈ depsO o := by simpa using hj
      obtain ⟨e, he, rfl⟩ := List.mem_map.1 hj'
      obtain ⟨he, hb⟩ := List.mem_filter.1 he
      exact hdep e (by simpa using he) hb
    have hpre : ∀ j U, beforeB dps i j = true → PS[j]? = some U → U w := by
      intro j U hb hU
      refine I.pres j U ?_ hU
      unfold beforeB at hb
      rcases Bool.or_eq_true _ _ ▸ hb with h | h
      · have : j = i := by simpa using h
        subst this; exact hun'
      · cases hc : L.getD j false with
        | false => rfl
        | true => rw [I.closed j hc i h] at hun'; cases hun'
    have hs := stepsW_get ops.toList 0 hstep i o (by simpa using ho)
    rw [Nat.zero_add] at hs
    have hs := hs a w I.s I.olds (fun j hj => I.facts j (hdone j hj)) hpre (RW ops a0 S PS VS ds dps (L.setIfInBounds i true)) (fun v w' hv0 hK hV => by
      refine ⟨by simpa using I.lsz, (put_size a o.dst v).trans I.tsz, (put_defers' a o.dst v).trans I.dfr, hK.1, fun k hk => ?_, fun j hj => ?_, fun j hj d hd => ?_, fun j U hj hU => ?_⟩
      · rw [put_other]
        · exact I.olds k hk
        · intro e
          have h1 := List.mem_of_getElem? (dsat i o ho)
          rw [e] at h1
          have : ds.contains (some k) = true := by simpa using h1
          rw [this] at hk; cases hk
      · by_cases hji : j = i
        · subst hji
          have hvl : j < VS.length := by rw [hVS, hlen]; exact hio
          have hV' : VS[j] v w' := by simpa [hvl] using hV
          refine ⟨fun d V e1 e2 => ?_, fun V e1 e2 => ?_⟩
          · rw [dsat j o ho] at e1
            have hd : o.dst = some d := by simpa using e1
            rw [List.getElem?_eq_getElem hvl] at e2
            obtain rfl : VS[j] = V := by simpa using e2
            refine ⟨v, ?_, hV'⟩
            have hdl : d < a.tmps.size := by
              rw [I.tsz]
              have h1 := List.all_eq_true.1 hin _ (List.mem_of_getElem? (dsat j o ho))
              rw [hd] at h1
              simpa using h1
            rw [hd]
            exact put_self a d v hdl
          · rw [dsat j o ho] at e1
            have hd : o.dst = none := by simpa using e1
            rw [List.getElem?_eq_getElem hvl] at e2
            obtain rfl : VS[j] = V := by simpa using e2
            rw [← hv0 hd]
            exact hV'
        · rw [getD_set_ne false (Ne.symm hji)] at hj
          have hf := I.facts j hj
          refine ⟨fun d V e1 e2 => ?_, fun V e1 e2 => hK.2.2 j hji V e2 _ (hf.2 V e1 e2)⟩
          obtain ⟨v', h1, h2⟩ := hf.1 d V e1 e2
          refine ⟨v', ?_, hK.2.2 j hji V e2 _ h2⟩
          rw [put_other]
          · exact h1
          · intro e
            exact distinctD_spec hdis (by rw [dsat i o ho, e]) e1 (Ne.symm hji) rfl
      · by_cases hdi : d = i
        · subst hdi; simp [hLi]
        · rw [getD_set_ne false (Ne.symm hdi)]
          by_cases hji : j = i
          · subst hji; exact hdone d hd
          · rw [getD_set_ne false (Ne.symm hji)] at hj
            exact I.closed j hj d hd
      · by_cases hji : j = i
        · subst hji; simp [hLi] at hj
        · rw [getD_set_ne false (Ne.symm hji)] at hj
          exact hK.2.1 j hji U hU (I.pres j U hj hU))
    unfold wpOp
    rw [ho]
    rw [yieldD_eq hds]
    simp only
    split
    · rename_i hw
      rw [if_pos hw] at hs
      exact .inl hs
    · rename_i hw
      rw [if_neg hw] at hs
      exact hs
  · have hl := all_listed hac I.lsz hr
    have hF : ∀ j, j < ds.length → Fact VS ds j a w := fun j hj => I.facts j (hl j (by omega))
    have e := puts_eq a ds (ds.map fun d => match d with | some d => a.tmps.getD d undef | none => undef) a0 (by simp) I.tsz I.dfr (fun d hd k hk => by
      have h1 := List.all_eq_true.1 hin _ hd
      rw [hk] at h1
      simpa using h1) (fun j d hd => by
      rw [List.getElem?_map, hd]
      have hj := (List.getElem?_eq_some_iff.1 hd).1
      obtain ⟨v, hv, _⟩ := (hF j hj).1 d _ hd (List.getElem?_eq_getElem (by omega))
      simp only [Option.map_some]
      rw [Array.getD_eq_getD_getElem?, hv]; rfl) (fun k hk => I.olds k (by simpa using hk))
    rw [e]
    refine hfin _ w (by simp) I.s (fun j V hV => ?_)
    have hj : j < ds.length := by rw [← hVS]; exact (List.getElem?_eq_some_iff.1 hV).1
    have hf := hF j hj
    rw [List.getD_eq_getElem?_getD, List.getElem?_map]
    have hdj := List.getElem?_eq_getElem hj
    rw [hdj]
    simp only [Option.map_some, Option.getD_some]
    cases hc : ds[j] with
    | none => rw [hc] at hdj; exact hf.2 V hdj hV
    | some d =>
      rw [hc] at hdj
      obtain ⟨v, hv, hVv⟩ := hf.1 d V hdj hV
      simp only
      rw [Array.getD_eq_getD_getElem?, hv]; exact hVv
  · have hr : ∀ j, (Array.replicate ops.size false).getD j false = false := by
      intro j
      by_cases h : j < ops.size <;> simp [h]
    refine ⟨by simp, rfl, rfl, hS0, fun _ _ => rfl, fun j hj => ?_, fun j hj => ?_, fun j U _ hU => hP0 U (List.mem_of_getElem? hU)⟩
    · rw [hr] at hj; cases hj
    · rw [hr] at hj; cases hj
end
end Go.Proofs.YtgojnpblhfbdpaaGreatDoor

namespace Go.Proofs.YtgojnpblhfbdpaaGreatDoor
open Go Go.RowKit

theorem wp_calls {P : Program} {Q : Exit → Act → World → Prop} {o : Oper} {a : Act} {w : World} {K : Act → World → Prop} {F : FuncId} {xs : Array Operand} {ats : Array TypeId} {args : Array Value} (ho : o.op = .call { callee := .value (.func F), args := xs, argTypes := ats })
    (hin : ∀ args u, (callFunc F args).run P u = .ok (.enter F args) u) (hx : xs.map a.eval = args) (h : Calls P F args w fun e w' => ∃ v, e = .returned v ∧ K (a.put o.dst v) w') : o.wp P a w K Q := by
  unfold Oper.wp
  obtain ⟨dst, op, ty, pos, after, guard⟩ := o
  simp only at ho
  subst ho
  rw [execOp_call_go, hin, Oper.upon_enter, hx, show (#[] ++ args ++ #[] : Array Value) = args by simp]
  refine h.mono ?_
  rintro e w' ⟨v, rfl, hk⟩
  exact hk
theorem ev {a : Act} {d : Tmp} {v : Value} (h : a.tmps[d]? = some v) : a.eval (.tmp d) = v := by simp [Act.eval, h]
theorem yieldD_of {ds : List (Option Tmp)} {tmps : Array Value} {j : Nat} {d : Tmp} {b : Bool} (hd : ds[j]? = some (some d)) (h : tmps[d]? = some (.bool b)) : yieldD ds tmps j = some b := by
  simp [yieldD, hd, h]
theorem if_ok {o : Oper} {y : Nat → Option Bool} {X Y : Prop} (hg : o.guard = none) (h : X) : if Region.wanted o y = true then X else Y := by
  rw [if_pos (by simp [Region.wanted, hg])]
  exact h
theorem if_wanted {o : Oper} {y : Nat → Option Bool} {X Y : Prop} {j : Nat} {b : Bool} (hg : o.guard = some (j, b)) (hy : y j = some b) (h : X) : if Region.wanted o y = true then X else Y := by
  rw [if_pos (by simp [Region.wanted, hg, hy])]
  exact h
theorem if_unwanted {o : Oper} {y : Nat → Option Bool} {X Y : Prop} {j : Nat} {b : Bool} (hg : o.guard = some (j, b)) (hy : y j = some (!b)) (h : Y) : if Region.wanted o y = true then X else Y := by
  rw [if_neg (by cases b <;> simp [Region.wanted, hg, hy])]
  exact h
theorem below_row {w b : World} (h : Below w.heap.size w b) {g : Nat} (hg : w.heap.size ≤ g) (cs : Array Value) : Below w.heap.size w (b.setRow g cs) :=
  ⟨h.os, h.tape, h.output, by simpa [World.setRow] using h.size, fun k hk => by
    rw [← h.block k hk]
    simp only [World.setRow, Array.getElem?_modify]
    rw [if_neg (by omega)]⟩
theorem Own.row {w : World} {g : Nat} {t : TypeId} {old cs : Array Value} (h : Own w g t old) : Own (w.setRow g cs) g t cs := setRow_heap w g old cs t (0, 0) h
theorem Own.rowFar {w : World} {g k : Nat} {t : TypeId} {old cs : Array Value} (h : Own w g t old) (hk : k ≠ g) : Own (w.setRow k cs) g t old := by
  unfold Own at *
  rw [← h]
  simp only [World.setRow, Array.getElem?_modify]
  rw [if_neg hk]
theorem cell_row {w : World} {g b o : Nat} {cs : Array Value} (h : b ≠ g) : (w.setRow g cs).cell? ⟨b, o, none⟩ = w.cell? ⟨b, o, none⟩ := by
  have e : (w.setRow g cs).heap[b]? = w.heap[b]? := by
    simp only [World.setRow, Array.getElem?_modify]
    rw [if_neg (Ne.symm h)]
  unfold World.cell?
  simp only [e]
theorem Rb.row {w : World} {g n : Nat} {A X : Option Addr} {a b : Nat} {s : Bool} {T : TypeId} {l : List Int} {cs : Array Value} (h : Rb w A n l) (O : Own w g T #[.slice X a b, .bool s]) : Rb (w.setRow g cs) A n l :=
  ⟨h.1, h.2.1, fun hn => by
    obtain ⟨b', o, e, hlt, hc⟩ := h.2.2 hn
    have hne : b' ≠ g := by
      rintro rfl
      have h0 := hc 0 hn
      rw [O.cell] at h0
      rcases o with _ | _ | o <;> simp at h0
    exact ⟨b', o, e, by simpa [World.setRow] using hlt, fun i hi => (cell_row hne).trans (hc i hi)⟩⟩
theorem cell_set1 {w : World} {g i b o : Nat} {v : Value} (h : b ≠ g) : (w.setCell ⟨g, i, none⟩ v).cell? ⟨b, o, none⟩ = w.cell? ⟨b, o, none⟩ := by
  have e := Below.heap_setCell w ⟨g, i, none⟩ v b h
  unfold World.cell?
  simp only [e]
theorem Rb.set1 {w : World} {g n i : Nat} {A X : Option Addr} {a b : Nat} {s : Bool} {T : TypeId} {l : List Int} (h : Rb w A n l) (O : Own w g T #[.slice X a b, .bool s]) (v : Value) : Rb (w.setCell ⟨g, i, none⟩ v) A n l :=
  ⟨h.1, h.2.1, fun hn => by
    obtain ⟨b', o, e, hlt, hc⟩ := h.2.2 hn
    have hne : b' ≠ g := by
      rintro rfl
      have h0 := hc 0 hn
      rw [O.cell] at h0
      rcases o with _ | _ | o <;> simp at h0
    exact ⟨b', o, e, by simpa [World.setCell] using hlt, fun i hi => (cell_set1 hne).trans (hc i hi)⟩⟩
theorem Rb.set2 {w : World} {g n : Nat} {A X : Option Addr} {a b : Nat} {s : Bool} {T : TypeId} {l : List Int} (h : Rb w A n l) (O : Own w g T #[.slice X a b, .bool s]) (v u : Value) : Rb ((w.setCell ⟨g, 0, none⟩ v).setCell ⟨g, 1, none⟩ u) A n l :=
  ⟨h.1, h.2.1, fun hn => by
    obtain ⟨b', o, e, hlt, hc⟩ := h.2.2 hn
    have hne : b' ≠ g := by
      rintro rfl
      have h0 := hc 0 hn
      rw [O.cell] at h0
      rcases o with _ | _ | o <;> simp at h0
    exact ⟨b', o, e, by simpa [World.setCell] using hlt, fun i hi => (cell_set1 hne).trans ((cell_set1 hne).trans (hc i hi))⟩⟩
/-! Conditions on worlds, and on values, that new memory leaves alone. -/
class Stb (U : World → Prop) : Prop where
  st : ∀ u u', Below u.heap.size u u' → U u → U u'
class StV (V : Value → World → Prop) : Prop where
  st : ∀ v u u', Below u.heap.size u u' → V v u → V v u'
def tru : World → Prop := fun _ => True
def owns (g : Nat) (cs : Array Value) : World → Prop := fun u => Own u g 26 cs
def isV (x : Value) : Value → World → Prop := fun v _ => v = x
def anyV : Value → World → Prop := fun _ _ => True
/-- The value is a vector that reads as y. -/
def isR (y : V) : Value → World → Prop := fun v u => ∃ A c, v = .agg #[.slice A y.l.length c, .bool y.s] ∧ Rb u A y.l.length y.l
/-- .. in a row made behind block B. -/
def isN (B : Nat) (y : V) : Value → World → Prop := fun v u => ∃ A c, v = .agg #[.slice A y.l.length c, .bool y.s] ∧ Nb u B A y.l.length c y.l
/-- The variable g holds the vector y. -/
def did (g : Nat) (y : V) : Value → World → Prop := fun _ u => ∃ A c, Own u g 26 #[.slice A y.l.length c, .bool y.s] ∧ Rb u A y.l.length y.l
def didN (B g : Nat) (y : V) : Value → World → Prop := fun _ u => ∃ A c, Own u g 26 #[.slice A y.l.length c, .bool y.s] ∧ Nb u B A y.l.length c y.l
instance : Stb tru := ⟨fun _ _ _ _ => trivial⟩
instance (g : Nat) (cs : Array Value) : Stb (owns g cs) := ⟨fun _ _ hb h => Own.step h hb⟩
instance (x : Value) : StV (isV x) := ⟨fun _ _ _ _ h => h⟩
instance : StV anyV := ⟨fun _ _ _ _ h => h⟩
instance (y : V) : StV (isR y) := ⟨fun _ _ _ hb ⟨A, c, h1, h2⟩ => ⟨A, c, h1, h2.step hb⟩⟩
instance (B : Nat) (y : V) : StV (isN B y) := ⟨fun _ _ _ hb ⟨A, c, h1, h2⟩ => ⟨A, c, h1, h2.step hb⟩⟩
instance (g : Nat) (y : V) : StV (did g y) := ⟨fun _ _ _ hb ⟨A, c, h1, h2⟩ => ⟨A, c, h1.step hb, h2.step hb⟩⟩
instance (B g : Nat) (y : V) : StV (didN B g y) := ⟨fun _ _ _ hb ⟨A, c, h1, h2⟩ => ⟨A, c, h1.step hb, h2.step hb⟩⟩
instance {U U' : World → Prop} [h : Stb U] [h' : Stb U'] : Stb (fun u => U u ∧ U' u) := ⟨fun u u' hb ⟨a, b⟩ => ⟨h.st u u' hb a, h'.st u u' hb b⟩⟩
class StPs (l : List (World → Prop)) : Prop where
  st : ∀ U ∈ l, Stb U
class StVs (l : List (Value → World → Prop)) : Prop where
  st : ∀ U ∈ l, StV U
instance : StPs [] := ⟨fun _ h => by cases h⟩
instance : StVs [] := ⟨fun _ h => by cases h⟩
instance {U : World → Prop} {l : List (World → Prop)} [h : Stb U] [h' : StPs l] : StPs (U :: l) := ⟨fun X hX => by
  rcases List.mem_cons.1 hX with rfl | hX
  · exact h
  · exact h'.st X hX⟩
instance {U : Value → World → Prop} {l : List (Value → World → Prop)} [h : StV U] [h' : StVs l] : StVs (U :: l) := ⟨fun X hX => by
  rcases List.mem_cons.1 hX with rfl | hX
  · exact h
  · exact h'.st X hX⟩
theorem keep_same {S : World → Prop} {PS : List (World → Prop)} {VS : List (Value → World → Prop)} {i : Nat} {w : World} (h : S w) : Keep S PS VS i w w := ⟨h, fun _ _ _ _ h => h, fun _ _ _ _ _ h => h⟩
theorem keep_below {S : World → Prop} {PS : List (World → Prop)} {VS : List (Value → World → Prop)} {i : Nat} {w w' : World} [s : Stb S] [p : StPs PS] [q : StVs VS] (hb : Below w.heap.size w w') (h : S w) : Keep S PS VS i w w' :=
  ⟨s.st _ _ hb h, fun _ _ U hU h => (p.st U (List.mem_of_getElem? hU)).st _ _ hb h, fun _ _ V hV v h => (q.st V (List.mem_of_getElem? hV)).st v _ _ hb h⟩

/-! .. and that a store into the variable g leaves alone. -/
class Sst (g : Nat) (U : World → Prop) : Prop where
  st : ∀ u X a b s cs, Own u g 26 #[.slice X a b, .bool s] → U u → U (u.setRow g cs)
class SsV (g : Nat) (V : Value → World → Prop) : Prop where
  st : ∀ v u X a b s cs, Own u g 26 #[.slice X a b, .bool s] → V v u → V v (u.setRow g cs)
class Apart (g h : Nat) : Prop where
  ne : g ≠ h
instance (g : Nat) : Sst g tru := ⟨fun _ _ _ _ _ _ _ _ => trivial⟩
instance (g h : Nat) (cs : Array Value) [A : Apart g h] : Sst g (owns h cs) := ⟨fun _ _ _ _ _ _ _ O => Own.rowFar O A.ne⟩
instance (g : Nat) (x : Value) : SsV g (isV x) := ⟨fun _ _ _ _ _ _ _ _ h => h⟩
instance (g : Nat) : SsV g anyV := ⟨fun _ _ _ _ _ _ _ _ h => h⟩
instance (g : Nat) (y : V) : SsV g (isR y) := ⟨fun _ _ _ _ _ _ _ O ⟨A, c, h1, h2⟩ => ⟨A, c, h1, h2.row O⟩⟩
instance (g h : Nat) (y : V) [A : Apart g h] : SsV g (did h y) := ⟨fun _ _ _ _ _ _ _ O ⟨X, c, h1, h2⟩ => ⟨X, c, h1.rowFar A.ne, h2.row O⟩⟩
theorem Nb.row {w : World} {g n B c : Nat} {A X : Option Addr} {a b : Nat} {s : Bool} {l : List Int} {cs : Array Value} (h : Nb w B A n c l) (O : Own w g 26 #[.slice X a b, .bool s]) : Nb (w.setRow g cs) B A n c l :=
  ⟨h.1, h.2.1, h.2.2.1, h.2.2.2.imp id fun ⟨g', cap, cur, h1, h2, h3, h4⟩ => ⟨g', cap, cur, h1, h2, Own.rowFar h3 (fun e => by
    subst e
    have h5 : w.heap[g]? = _ := h3
    have h6 : w.heap[g]? = _ := O
    rw [h5] at h6
    simp at h6), h4⟩⟩
instance (g B : Nat) (y : V) : SsV g (isN B y) := ⟨fun _ _ _ _ _ _ _ O ⟨A, c, h1, h2⟩ => ⟨A, c, h1, h2.row O⟩⟩
instance (g B h : Nat) (y : V) [A : Apart g h] : SsV g (didN B h y) := ⟨fun _ _ _ _ _ _ _ O ⟨X, c, h1, h2⟩ => ⟨X, c, h1.rowFar A.ne, h2.row O⟩⟩
instance {g : Nat} {U U' : World → Prop} [h : Sst g U] [h' : Sst g U'] : Sst g (fun u => U u ∧ U' u) := ⟨fun u X a b s cs O ⟨x, y⟩ => ⟨h.st u X a b s cs O x, h'.st u X a b s cs O y⟩⟩
/-- All but the i-th. -/
def SsPs (g : Nat) : Nat → List (World → Prop) → Prop
  | _, [] => True
  | 0, _ :: l => SsPs g l.length l
  | i + 1, U :: l => Sst g U ∧ SsPs g i l
def SsVs (g : Nat) : Nat → List (Value → World → Prop) → Prop
  | _, [] => True
  | 0, _ :: l => SsVs g l.length l
  | i + 1, U :: l => SsV g U ∧ SsVs g i l
theorem ssPs_get {g : Nat} : ∀ (l : List (World → Prop)) (i j : Nat), SsPs g i l → j ≠ i → ∀ U, l[j]? = some U → Sst g U
  | [], _, _, _, _, U, h => by simp at h
  | X :: l, 0, 0, _, hj, _, _ => absurd rfl hj
  | X :: l, 0, j + 1, hs, _, U, h => by
    have hl : j < l.length := (List.getElem?_eq_some_iff.1 (by simpa using h)).1
    exact ssPs_get l l.length j hs (by omega) U (by simpa using h)
  | X :: l, i + 1, 0, hs, _, U, h => by simp at h; subst h; exact hs.1
  | X :: l, i + 1, j + 1, hs, hj, U, h => ssPs_get l i j hs.2 (by omega) U (by simpa using h)
theorem ssVs_get {g : Nat} : ∀ (l : List (Value → World → Prop)) (i j : Nat), SsVs g i l → j ≠ i → ∀ U, l[j]? = some U → SsV g U
  | [], _, _, _, _, U, h => by simp at h
  | X :: l, 0, 0, _, hj, _, _ => absurd rfl hj
  | X :: l, 0, j + 1, hs, _, U, h => by
    have hl : j < l.length := (List.getElem?_eq_some_iff.1 (by simpa using h)).1
    exact ssVs_get l l.length j hs (by omega) U (by simpa using h)
  | X :: l, i + 1, 0, hs, _, U, h => by simp at h; subst h; exact hs.1
  | X :: l, i + 1, j + 1, hs, hj, U, h => ssVs_get l i j hs.2 (by omega) U (by simpa using h)
theorem keep_store {S : World → Prop} {PS : List (World → Prop)} {VS : List (Value → World → Prop)} {i g : Nat} {w : World} {X : Option Addr} {a b : Nat} {s : Bool} {cs : Array Value} (O : Own w g 26 #[.slice X a b, .bool s]) (hS : Sst g S) (hP : SsPs g i PS) (hV : SsVs g i VS) (h : S w) : Keep S PS VS i w (w.setRow g cs) :=
  ⟨hS.st _ _ _ _ _ _ O h, fun j hj U hU h => (ssPs_get PS i j hP hj U hU).st _ _ _ _ _ _ O h, fun j hj V hV' v h => (ssVs_get VS i j hV hj V hV').st v _ _ _ _ _ _ O h⟩
theorem put_none (a : Act) (v : Value) : a.put none v = a := rfl
theorem vec_size : (Tryz.prog.info? 26).map (·.size) = some 2 := by kernel_rfl

/-- 'x, y = f(x), g(y)' over two variables of the call's own, whatever order is drawn. -/
theorem pair_region {ops : Array Oper} {Q : Exit → Act → World → Prop} {id : Nat} {a0 : Act} {W : World} {sa sb d0 d1 d2 d3 : Tmp} {F G : FuncId} {ga gb : Nat} {ats bts : Array TypeId} {X Y : Option Addr} {n c m d : Nat} {s t : Bool} {x y : V} (S : World → Prop) [Stb S] [Sst ga S] [Sst gb S]
    (o0 o1 o2 o3 o4 o5 : Oper) (hops : ops = #[o0, o1, o2, o3, o4, o5])
    (g0 : o0.op = .load 26 (.tmp sa) ∧ o0.guard = none) (g1 : o1.op = .call { callee := .value (.func F), args := #[.tmp d0], argTypes := ats } ∧ o1.guard = none)
    (g2 : o2.op = .load 26 (.tmp sb) ∧ o2.guard = none) (g3 : o3.op = .call { callee := .value (.func G), args := #[.tmp d2], argTypes := bts } ∧ o3.guard = none)
    (g4 : o4.op = .store 26 (.tmp sa) (.tmp d1) ∧ o4.guard = none) (g5 : o5.op = .store 26 (.tmp sb) (.tmp d3) ∧ o5.guard = none)
    (hds : ops.toList.map (·.dst) = [some d0, some d1, some d2, some d3, none, none]) (hdps : ops.toList.map depsO = [[], [0], [], [2, 1], [1, 3, 0, 1], [3, 4, 0, 1, 2, 3, 4]])
    (hdis : distinctD [some d0, some d1, some d2, some d3, none, none] = true) (hin : insideD [some d0, some d1, some d2, some d3, none, none] a0.tmps.size = true)
    (hns : ([some d0, some d1, some d2, some d3] : List (Option Tmp)).contains (some sa) = false ∧ ([some d0, some d1, some d2, some d3] : List (Option Tmp)).contains (some sb) = false)
    (hac : ((List.range ops.size).all fun i => ((ops[i]?).map (·.after.all fun e => decide (e.on < i))).getD true) = true)
    (hsa : a0.tmps[sa]? = some (.pointer (some ⟨ga, 0, none⟩))) (hsb : a0.tmps[sb]? = some (.pointer (some ⟨gb, 0, none⟩))) (hne : ga ≠ gb)
    (hF : Ent F) (hG : Ent G) (hS : S W.drew) (OA : Own W ga 26 #[.slice X n c, .bool s]) (OB : Own W gb 26 #[.slice Y m d, .bool t])
    (cF : ∀ u, S u → Calls Tryz.prog F #[.agg #[.slice X n c, .bool s]] u (RetR u x)) (cG : ∀ u, S u → Calls Tryz.prog G #[.agg #[.slice Y m d, .bool t]] u (RetR u y))
    (hfin : ∀ v0 v1 v2 v3 u A1 c1 A2 c2, S u → Own u ga 26 #[.slice A1 x.l.length c1, .bool x.s] → Rb u A1 x.l.length x.l → Own u gb 26 #[.slice A2 y.l.length c2, .bool y.s] → Rb u A2 y.l.length y.l →
      Q .normal (((((a0.put (some d0) v0).put (some d1) v1).put (some d2) v2).put (some d3) v3)) u) : (Code.region id ops true).wp Tryz.prog Q a0 W := by
  subst hops
  haveI : Apart ga gb := ⟨hne⟩
  haveI : Apart gb ga := ⟨Ne.symm hne⟩
  have hd := hds
  simp only [List.map_cons, List.map_nil, List.cons.injEq, and_true] at hd
  obtain ⟨e0, e1, e2, e3, e4, e5⟩ := hd
  have na : ([some d0, some d1, some d2, some d3, none, none] : List (Option Tmp)).contains (some sa) = false := by simpa using hns.1
  have nb : ([some d0, some d1, some d2, some d3, none, none] : List (Option Tmp)).contains (some sb) = false := by simpa using hns.2
  refine region_w (by kernel_rfl) S [tru, tru, tru, tru, owns ga #[.slice X n c, .bool s], owns gb #[.slice Y m d, .bool t]]
    [isV (.agg #[.slice X n c, .bool s]), isR x, isV (.agg #[.slice Y m d, .bool t]), isR y, did ga x, did gb y] _ _ hds hdps rfl hdis hin hac hS (by
      intro U hU
      simp only [List.mem_cons, List.not_mem_nil, or_false] at hU
      rcases hU with rfl | rfl | rfl | rfl | rfl | rfl
      all_goals first | trivial | exact OA | exact OB) ?_ ?_
  · refine ⟨?_, ?_, ?_, ?_, ?_, ?_, trivial⟩
    · intro a w hS hO hF' hP K hK
      have O := hP 4 _ rfl rfl
      have ha := (hO sa na).trans hsa
      refine if_ok g0.2 ?_
      refine wp_load_row _ _ g0.1 ga (ev ha) _ _ (0, 0) _ O Tryz.underlying26 rfl (by kernel_rfl) ?_
      exact hK _ w (fun h => by rw [e0] at h; cases h) (keep_same hS) rfl
    · intro a w hS hO hF' hP K hK
      obtain ⟨v, f0, rfl⟩ := (hF' 0 rfl).1 d0 _ rfl rfl
      refine if_ok g1.2 ?_
      refine wp_calls g1.1 hF (args := #[.agg #[.slice X n c, .bool s]]) (by simp [Act.eval, f0]) ?_
      refine (cF w hS).mono ?_
      rintro e w' ⟨A1, c1, rfl, hr, hb⟩
      exact ⟨_, rfl, hK _ w' (fun h => by rw [e1] at h; cases h) (keep_below hb hS) ⟨A1, c1, rfl, hr⟩⟩
    · intro a w hS hO hF' hP K hK
      have O := hP 5 _ rfl rfl
      have ha := (hO sb nb).trans hsb
      refine if_ok g2.2 ?_
      refine wp_load_row _ _ g2.1 gb (ev ha) _ _ (0, 0) _ O Tryz.underlying26 rfl (by kernel_rfl) ?_
      exact hK _ w (fun h => by rw [e2] at h; cases h) (keep_same hS) rfl
    · intro a w hS hO hF' hP K hK
      obtain ⟨v, f0, rfl⟩ := (hF' 2 rfl).1 d2 _ rfl rfl
      refine if_ok g3.2 ?_
      refine wp_calls g3.1 hG (args := #[.agg #[.slice Y m d, .bool t]]) (by simp [Act.eval, f0]) ?_
      refine (cG w hS).mono ?_
      rintro e w' ⟨A1, c1, rfl, hr, hb⟩
      exact ⟨_, rfl, hK _ w' (fun h => by rw [e3] at h; cases h) (keep_below hb hS) ⟨A1, c1, rfl, hr⟩⟩
    · intro a w hS hO hF' hP K hK
      have O := hP 4 _ rfl rfl
      have ha := (hO sa na).trans hsa
      obtain ⟨v, f1, A1, c1, rfl, hr⟩ := (hF' 1 rfl).1 d1 _ rfl rfl
      refine if_ok g4.2 ?_
      refine wp_store_row _ _ _ g4.1 ga _ (ev ha) (ev f1) _ _ O vec_size rfl (by simp [Value.oneCell']) ?_
      exact hK _ _ (fun _ => rfl) (keep_store O inferInstance ⟨inferInstance, inferInstance, inferInstance, inferInstance, inferInstance, trivial⟩ ⟨inferInstance, inferInstance, inferInstance, inferInstance, inferInstance, trivial⟩ hS) ⟨A1, c1, Own.row O, hr.row O⟩
    · intro a w hS hO hF' hP K hK
      have O := hP 5 _ rfl rfl
      have ha := (hO sb nb).trans hsb
      obtain ⟨v, f1, A1, c1, rfl, hr⟩ := (hF' 3 rfl).1 d3 _ rfl rfl
      refine if_ok g5.2 ?_
      refine wp_store_row _ _ _ g5.1 gb _ (ev ha) (ev f1) _ _ O vec_size rfl (by simp [Value.oneCell']) ?_
      exact hK _ _ (fun _ => rfl) (keep_store O inferInstance ⟨inferInstance, inferInstance, inferInstance, inferInstance, inferInstance, trivial⟩ ⟨inferInstance, inferInstance, inferInstance, inferInstance, inferInstance, trivial⟩ hS) ⟨A1, c1, Own.row O, hr.row O⟩
  · intro vs u hl hS hV
    match vs, hl, hV with
    | [v0, v1, v2, v3, v4, v5], _, hV =>
      obtain ⟨A1, c1, O1, r1⟩ := hV 4 _ rfl
      obtain ⟨A2, c2, O2, r2⟩ := hV 5 _ rfl
      simp only [puts, put_none]
      exact hfin v0 v1 v2 v3 u A1 c1 A2 c2 hS O1 r1 O2 r2

def szW (B : Nat) : World → Prop := fun u => B ≤ u.heap.size
instance (B : Nat) : Stb (szW B) := ⟨fun _ _ hb h => Nat.le_trans h hb.size⟩
instance (g B : Nat) : Sst g (szW B) := ⟨fun _ _ _ _ _ _ _ h => by unfold szW at *; simpa [World.setRow] using h⟩
def blw (W : World) : World → Prop := fun u => Below W.heap.size W u
instance (W : World) : Stb (blw W) := ⟨fun _ _ hb h => below_step h hb⟩
class Over (W : World) (g : Nat) : Prop where
  le : W.heap.size ≤ g
instance (W : World) (g : Nat) [h : Over W g] : Sst g (blw W) := ⟨fun _ _ _ _ _ _ _ hb => below_row hb h.le _⟩
def rds (A : Option Addr) (n : Nat) (l : List Int) : World → Prop := fun u => Rb u A n l
instance (A : Option Addr) (n : Nat) (l : List Int) : Stb (rds A n l) := ⟨fun _ _ hb h => Rb.step h hb⟩
instance (g : Nat) (A : Option Addr) (n : Nat) (l : List Int) : Sst g (rds A n l) := ⟨fun _ _ _ _ _ _ O h => Rb.row h O⟩
set_option maxHeartbeats 1000000 in
/-- 'return f(x, m), f(y, m)'. -/
theorem fits_region {ops : Array Oper} {Q : Exit → Act → World → Prop} {id : Nat} {a0 : Act} {W : World} {sa sb sm sc sd d0 d1 d2 d3 d4 d5 : Tmp} {F : FuncId} {ga gb gc gd M B : Nat} {ats bts : Array TypeId} {X Y : Option Addr} {n c m d : Nat} {s t : Bool} {x y : V} (S : World → Prop) [Stb S] [Sst gc S] [Sst gd S]
    (o0 o1 o2 o3 o4 o5 o6 o7 : Oper) (hops : ops = #[o0, o1, o2, o3, o4, o5, o6, o7])
    (g0 : o0.op = .load 26 (.tmp sa) ∧ o0.guard = none) (g1 : o1.op = .move (.tmp sm) ∧ o1.guard = none) (g2 : o2.op = .call { callee := .value (.func F), args := #[.tmp d0, .tmp d1], argTypes := ats } ∧ o2.guard = none)
    (g3 : o3.op = .load 26 (.tmp sb) ∧ o3.guard = none) (g4 : o4.op = .move (.tmp sm) ∧ o4.guard = none) (g5 : o5.op = .call { callee := .value (.func F), args := #[.tmp d3, .tmp d4], argTypes := bts } ∧ o5.guard = none)
    (g6 : o6.op = .store 26 (.tmp sc) (.tmp d2) ∧ o6.guard = none) (g7 : o7.op = .store 26 (.tmp sd) (.tmp d5) ∧ o7.guard = none)
    (hds : ops.toList.map (·.dst) = [some d0, some d1, some d2, some d3, some d4, some d5, none, none]) (hdps : ops.toList.map depsO = [[], [], [0, 1], [], [], [3, 4, 2], [2, 5, 0, 1, 2], [5, 6, 0, 1, 2, 3, 4, 5, 6]])
    (hdis : distinctD [some d0, some d1, some d2, some d3, some d4, some d5, none, none] = true) (hin : insideD [some d0, some d1, some d2, some d3, some d4, some d5, none, none] a0.tmps.size = true)
    (hns : ([sa, sb, sm, sc, sd].all fun k => !([some d0, some d1, some d2, some d3, some d4, some d5, none, none] : List (Option Tmp)).contains (some k)) = true)
    (hac : ((List.range ops.size).all fun i => ((ops[i]?).map (·.after.all fun e => decide (e.on < i))).getD true) = true)
    (hsa : a0.tmps[sa]? = some (.pointer (some ⟨ga, 0, none⟩))) (hsb : a0.tmps[sb]? = some (.pointer (some ⟨gb, 0, none⟩))) (hsm : a0.tmps[sm]? = some (.int .i64 M)) (hsc : a0.tmps[sc]? = some (.pointer (some ⟨gc, 0, none⟩))) (hsd : a0.tmps[sd]? = some (.pointer (some ⟨gd, 0, none⟩)))
    (hne : gc ≠ gd) (hc1 : gc ≠ ga) (hc2 : gc ≠ gb) (hd1 : gd ≠ ga) (hd2 : gd ≠ gb)
    (hF : Ent F) (hS : S W.drew) (hB : B ≤ W.heap.size) (OA : Own W ga 26 #[.slice X n c, .bool s]) (OB : Own W gb 26 #[.slice Y m d, .bool t])
    (OC : Own W gc 26 #[.slice none 0 0, .bool false]) (OD : Own W gd 26 #[.slice none 0 0, .bool false])
    (cF : ∀ u, S u → Calls Tryz.prog F #[.agg #[.slice X n c, .bool s], .int .i64 M] u (RetV u x)) (cG : ∀ u, S u → Calls Tryz.prog F #[.agg #[.slice Y m d, .bool t], .int .i64 M] u (RetV u y))
    (hfin : ∀ v0 v1 v2 v3 v4 v5 u A1 c1 A2 c2, S u → Own u gc 26 #[.slice A1 x.l.length c1, .bool x.s] → Nb u B A1 x.l.length c1 x.l → Own u gd 26 #[.slice A2 y.l.length c2, .bool y.s] → Nb u B A2 y.l.length c2 y.l →
      Q .normal (((((((a0.put (some d0) v0).put (some d1) v1).put (some d2) v2).put (some d3) v3)).put (some d4) v4).put (some d5) v5) u) : (Code.region id ops true).wp Tryz.prog Q a0 W := by
  subst hops
  haveI : Apart gc gd := ⟨hne⟩
  haveI : Apart gd gc := ⟨Ne.symm hne⟩
  haveI : Apart gc ga := ⟨hc1⟩
  haveI : Apart gc gb := ⟨hc2⟩
  haveI : Apart gd ga := ⟨hd1⟩
  haveI : Apart gd gb := ⟨hd2⟩
  have hd := hds
  simp only [List.map_cons, List.map_nil, List.cons.injEq, and_true] at hd
  obtain ⟨e0, e1, e2, e3, e4, e5, e6, e7⟩ := hd
  simp only [List.all_cons, List.all_nil, Bool.and_true, Bool.and_eq_true, Bool.not_eq_true'] at hns
  obtain ⟨na, nb, nm, nc, nd⟩ := hns
  refine region_w (by kernel_rfl) (fun u => S u ∧ (szW B u ∧ (owns ga #[.slice X n c, .bool s] u ∧ owns gb #[.slice Y m d, .bool t] u))) [tru, tru, tru, tru, tru, tru, owns gc #[.slice none 0 0, .bool false], owns gd #[.slice none 0 0, .bool false]]
    [isV (.agg #[.slice X n c, .bool s]), isV (.int .i64 M), isN B x, isV (.agg #[.slice Y m d, .bool t]), isV (.int .i64 M), isN B y, didN B gc x, didN B gd y] _ _ hds hdps rfl hdis hin hac ⟨hS, hB, OA, OB⟩ (by
      intro U hU
      simp only [List.mem_cons, List.not_mem_nil, or_false] at hU
      rcases hU with rfl | rfl | rfl | rfl | rfl | rfl | rfl | rfl
      all_goals first | trivial | exact OC | exact OD) ?_ ?_
  · refine ⟨?_, ?_, ?_, ?_, ?_, ?_, ?_, ?_, trivial⟩
    · intro a w hS hO hF' hP K hK
      have ha := (hO sa na).trans hsa
      refine if_ok g0.2 ?_
      refine wp_load_row _ _ g0.1 ga (ev ha) _ _ (0, 0) _ hS.2.2.1 Tryz.underlying26 rfl (by kernel_rfl) ?_
      exact hK _ w (fun h => by rw [e0] at h; cases h) (keep_same hS) rfl
    · intro a w hS hO hF' hP K hK
      have ha := (hO sm nm).trans hsm
      refine if_ok g1.2 ?_
      unfold Oper.wp execOp
      simp only [g1.1, Sem.run_pure, ev ha]
      exact hK _ w (fun h => by rw [e1] at h; cases h) (keep_same hS) rfl
    · intro a w hS hO hF' hP K hK
      obtain ⟨v, f0, rfl⟩ := (hF' 0 rfl).1 d0 _ rfl rfl
      obtain ⟨v, f1, rfl⟩ := (hF' 1 rfl).1 d1 _ rfl rfl
      refine if_ok g2.2 ?_
      refine wp_calls g2.1 hF (args := #[.agg #[.slice X n c, .bool s], .int .i64 M]) (by simp [Act.eval, f0, f1]) ?_
      refine (cF w hS.1).mono ?_
      rintro e w' ⟨A1, c1, rfl, hr, hb⟩
      exact ⟨_, rfl, hK _ w' (fun h => by rw [e2] at h; cases h) (keep_below hb hS) ⟨A1, c1, rfl, hr.mono hS.2.1⟩⟩
    · intro a w hS hO hF' hP K hK
      have ha := (hO sb nb).trans hsb
      refine if_ok g3.2 ?_
      refine wp_load_row _ _ g3.1 gb (ev ha) _ _ (0, 0) _ hS.2.2.2 Tryz.underlying26 rfl (by kernel_rfl) ?_
      exact hK _ w (fun h => by rw [e3] at h; cases h) (keep_same hS) rfl
    · intro a w hS hO hF' hP K hK
      have ha := (hO sm nm).trans hsm
      refine if_ok g4.2 ?_
      unfold Oper.wp execOp
      simp only [g4.1, Sem.run_pure, ev ha]
      exact hK _ w (fun h => by rw [e4] at h; cases h) (keep_same hS) rfl
    · intro a w hS hO hF' hP K hK
      obtain ⟨v, f0, rfl⟩ := (hF' 3 rfl).1 d3 _ rfl rfl
      obtain ⟨v, f1, rfl⟩ := (hF' 4 rfl).1 d4 _ rfl rfl
      refine if_ok g5.2 ?_
      refine wp_calls g5.1 hF (args := #[.agg #[.slice Y m d, .bool t], .int .i64 M]) (by simp [Act.eval, f0, f1]) ?_
      refine (cG w hS.1).mono ?_
      rintro e w' ⟨A1, c1, rfl, hr, hb⟩
      exact ⟨_, rfl, hK _ w' (fun h => by rw [e5] at h; cases h) (keep_below hb hS) ⟨A1, c1, rfl, hr.mono hS.2.1⟩⟩
    · intro a w hS hO hF' hP K hK
      have O := hP 6 _ rfl rfl
      have ha := (hO sc nc).trans hsc
      obtain ⟨v, f1, A1, c1, rfl, hr⟩ := (hF' 2 rfl).1 d2 _ rfl rfl
      refine if_ok g6.2 ?_
      refine wp_store_row _ _ _ g6.1 gc _ (ev ha) (ev f1) _ _ O vec_size rfl (by simp [Value.oneCell']) ?_
      exact hK _ _ (fun _ => rfl) (keep_store O inferInstance ⟨inferInstance, inferInstance, inferInstance, inferInstance, inferInstance, inferInstance, inferInstance, trivial⟩ ⟨inferInstance, inferInstance, inferInstance, inferInstance, inferInstance, inferInstance, inferInstance, trivial⟩ hS) ⟨A1, c1, Own.row O, hr.row O⟩
    · intro a w hS hO hF' hP K hK
      have O := hP 7 _ rfl rfl
      have ha := (hO sd nd).trans hsd
      obtain ⟨v, f1, A1, c1, rfl, hr⟩ := (hF' 5 rfl).1 d5 _ rfl rfl
      refine if_ok g7.2 ?_
      refine wp_store_row _ _ _ g7.1 gd _ (ev ha) (ev f1) _ _ O vec_size rfl (by simp [Value.oneCell']) ?_
      exact hK _ _ (fun _ => rfl) (keep_store O inferInstance ⟨inferInstance, inferInstance, inferInstance, inferInstance, inferInstance, inferInstance, inferInstance, trivial⟩ ⟨inferInstance, inferInstance, inferInstance, inferInstance, inferInstance, inferInstance, inferInstance, trivial⟩ hS) ⟨A1, c1, Own.row O, hr.row O⟩
  · intro vs u hl hS hV
    match vs, hl, hV with
    | [v0, v1, v2, v3, v4, v5, v6, v7], _, hV =>
      obtain ⟨A1, c1, O1, r1⟩ := hV 6 _ rfl
      obtain ⟨A2, c2, O2, r2⟩ := hV 7 _ rfl
      simp only [puts, put_none]
      exact hfin v0 v1 v2 v3 v4 v5 u A1 c1 A2 c2 hS.1 O1 r1 O2 r2
end Go.Proofs.YtgojnpblhfbdpaaGreatDoor

namespace Go.Proofs.YtgojnpblhfbdpaaGreatDoor
open Go Go.RowKit

/-- What a call leaves that returns two vectors of its own. -/
def RetP (w : World) (x y : V) (e : Ending) (w' : World) : Prop := ∃ A1 c1 A2 c2, e = .returned (.tuple #[.agg #[.slice A1 x.l.length c1, .bool x.s], .agg #[.slice A2 y.l.length c2, .bool y.s]]) ∧ Nb w' w.heap.size A1 x.l.length c1 x.l ∧ Nb w' w.heap.size A2 y.l.length c2 y.l ∧ Below w.heap.size w w'
theorem ent_operand : Ent 66 := enters_of Tryz.func66 (by kernel_rfl) rfl
theorem ent_fit : Ent 69 := enters_of Tryz.func69 (by kernel_rfl) rfl
end Go.Proofs.YtgojnpblhfbdpaaGreatDoor
