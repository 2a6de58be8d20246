/-
  A region whose order is open, operation by operation: each operation is shown once, out of what the operations that it waits for have left; whatever order is drawn, all of it holds at the end. Conditions: as listed in 'region_v'. Any program.
-/
import Derived.Test.YtjfhhlbgiepkpaaDoorTwo
namespace Go.Proofs.YtjfhhlbgiepkpaaDoor
open Go Go.RowKit

section
variable {P : Program} {ops : Array Oper} {Q : Exit → Act → World → Prop}
/-- What operation j has left. -/
def Fact (VS : List (Value → World → Prop)) (ds : List (Option Tmp)) (j : Nat) (a : Act) (w : World) : Prop :=
  (∀ d V, ds[j]? = some (some d) → VS[j]? = some V → ∃ v, a.tmps[d]? = some v ∧ V v w) ∧ (∀ V, ds[j]? = some none → VS[j]? = some V → V undef w)
def Facts (VS : List (Value → World → Prop)) (ds : List (Option Tmp)) (js : List Nat) (a : Act) (w : World) : Prop := ∀ j ∈ js, Fact VS ds j a w
def Olds (os : List (Nat × Value)) (a : Act) : Prop := ∀ p ∈ os, a.tmps[p.1]? = some p.2
def yieldD (ds : List (Option Tmp)) (tmps : Array Value) (j : Nat) : Option Bool :=
  match ((ds[j]?).bind id).bind (tmps[·]?) with
  | some (.bool b) => some b
  | _ => none
theorem yieldD_eq {ds : List (Option Tmp)} (hds : ops.toList.map (·.dst) = ds) (tmps : Array Value) : yielded ops tmps = yieldD ds tmps := by
  funext j
  unfold yielded yieldD
  rw [← hds]
  have e : ((ops.toList.map (·.dst))[j]?).bind id = (ops[j]?).bind (·.dst) := by
    rw [List.getElem?_map, Array.getElem?_toList]
    cases ops[j]? <;> rfl
  rw [e]
  rfl
/-- One operation's obligation. -/
def StepOk (P : Program) (Q : Exit → Act → World → Prop) (n : Nat) (D : List Deferred) (S : World → Prop) (os : List (Nat × Value)) (VS : List (Value → World → Prop)) (ds : List (Option Tmp)) (i : Nat) (o : Oper) : Prop :=
  ∀ (a : Act) (w : World), a.tmps.size = n → a.defers = D → S w → Olds os a → Facts VS ds ((o.after.toList.filter (Region.binds .any ·)).map (·.on)) a w → ∀ K : Act → World → Prop,
    (∀ v w', (o.dst = none → v = undef) → Below w.heap.size w w' → S w' → (VS.getD i fun _ _ => True) v w' → K (a.put o.dst v) w') → if Region.wanted o (yieldD ds a.tmps) = true then o.wp P a w K Q else K (a.put o.dst undef) w
def distinctD (ds : List (Option Tmp)) : Bool :=
  (List.range ds.length).all fun i => (List.range ds.length).all fun j => i == j || match ds[i]?, ds[j]? with
    | some (some a), some (some b) => a != b
    | _, _ => true
def apartD (ds : List (Option Tmp)) (os : List (Nat × Value)) : Bool := ds.all fun d => match d with
  | some d => os.all fun p => p.1 != d
  | none => true
def insideD (ds : List (Option Tmp)) (n : Nat) : Bool := ds.all fun d => match d with
  | some d => decide (d < n)
  | none => true
structure RI (ops : Array Oper) (n : Nat) (D : List Deferred) (S : World → Prop) (os : List (Nat × Value)) (VS : List (Value → World → Prop)) (ds : List (Option Tmp)) (L : Array Bool) (a : Act) (w : World) : Prop where
  lsz : L.size = ops.size
  tsz : a.tmps.size = n
  dfr : a.defers = D
  s : S w
  olds : Olds os a
  facts : ∀ j, L.getD j false = true → Fact VS ds j a w
theorem distinctD_spec {ds : List (Option Tmp)} (h : distinctD ds = true) {i j : Nat} {a b : Tmp} (hi : ds[i]? = some (some a)) (hj : ds[j]? = some (some b)) (hne : i ≠ j) : a ≠ b := by
  have hil := (List.getElem?_eq_some_iff.1 hi).1
  have hjl := (List.getElem?_eq_some_iff.1 hj).1
  have h1 := List.all_eq_true.1 (List.all_eq_true.1 h i (List.mem_range.2 hil)) j (List.mem_range.2 hjl)
  rw [hi, hj] at h1
  simpa [hne] using h1
theorem put_size (a : Act) (d : Option Tmp) (v : Value) : (a.put d v).tmps.size = a.tmps.size := by
  cases d <;> simp [Act.put]
theorem put_defers' (a : Act) (d : Option Tmp) (v : Value) : (a.put d v).defers = a.defers := by
  cases d <;> rfl
theorem put_other (a : Act) (d : Option Tmp) (v : Value) (k : Nat) (h : d ≠ some k) : (a.put d v).tmps[k]? = a.tmps[k]? := by
  cases d with
  | none => rfl
  | some d => exact Array.getElem?_setIfInBounds_ne (fun e => h (by rw [e]))
theorem region_v {id : Nat} {a0 : Act} {W : World} (hm : P.follows .mixedOrders = true) (S : World → Prop) (os : List (Nat × Value)) (VS : List (Value → World → Prop)) (ds : List (Option Tmp))
    (hds : ops.toList.map (·.dst) = ds) (hVS : VS.length = ds.length) (hdis : distinctD ds = true) (hap : apartD ds os = true) (hin : insideD ds a0.tmps.size = true)
    (hac : ((List.range ops.size).all fun i => ((ops[i]?).map (·.after.all fun e => decide (e.on < i))).getD true) = true)
    (hS0 : S W.drew) (hos : Olds os a0) (hmono : ∀ V ∈ VS, ∀ v u u', S u → Below u.heap.size u u' → V v u → V v u')
    (hstep : ∀ i o, ops[i]? = some o → StepOk P Q a0.tmps.size a0.defers S os VS ds i o)
    (hfin : ∀ a w, a.tmps.size = a0.tmps.size → a.defers = a0.defers → S w → Olds os a → Facts VS ds (List.range ds.length) a w → Q .normal a w) :
    (Code.region id ops true).wp P Q a0 W := by
  have hlen : ds.length = ops.size := by rw [← hds]; simp
  have dsat : ∀ i (o : Oper), ops[i]? = some o → ds[i]? = some o.dst := fun i o ho => by
    rw [← hds, List.getElem?_map, Array.getElem?_toList, ho]; rfl
  refine wp_region_any hm (wpAny_inv (I := RI ops a0.tmps.size a0.defers S os VS ds) (fun L a w i hi I => ?_) (fun L a w hr I => ?_) (fun L a w I => I.lsz) _ _ _ _ (by simp [List.countP_replicate]) ?_)
  · obtain ⟨hun, o, ho, hdep⟩ := mem_ready.1 hi
    have hio := (Array.getElem?_eq_some_iff.1 ho).1
    have hF : Facts VS ds ((o.after.toList.filter (Region.binds .any ·)).map (·.on)) a w := by
      intro j hj
      obtain ⟨e, he, rfl⟩ := List.mem_map.1 hj
      obtain ⟨he, hb⟩ := List.mem_filter.1 he
      exact I.facts _ (hdep e (by simpa using he) hb)
    have hs := hstep i o ho a w I.tsz I.dfr I.s I.olds hF (RI ops a0.tmps.size a0.defers S os VS ds (L.setIfInBounds i true)) (fun v w' hv0 hB hS hV => by
      refine ⟨by simpa using I.lsz, (put_size a o.dst v).trans I.tsz, (put_defers' a o.dst v).trans I.dfr, hS, fun p hp => ?_, fun j hj => ?_⟩
      · rw [put_other]
        · exact I.olds p hp
        · intro e
          have h1 := List.all_eq_true.1 hap _ (List.mem_of_getElem? (dsat i o ho))
          rw [e] at h1
          have h2 := List.all_eq_true.1 h1 p hp
          simp at h2
      · by_cases hji : j = i
        · subst hji
          have hvl : j < VS.length := by rw [hVS, hlen]; exact hio
          have hV' : VS[j] v w' := by simpa [hvl] using hV
          refine ⟨fun d V e1 e2 => ?_, fun V e1 e2 => ?_⟩
          · rw [dsat j o ho] at e1
            have hd : o.dst = some d := by simpa using e1
            rw [List.getElem?_eq_getElem hvl] at e2
            obtain rfl : VS[j] = V := by simpa using e2
            refine ⟨v, ?_, hV'⟩
            have hdl : d < a.tmps.size := by
              rw [I.tsz]
              have h1 := List.all_eq_true.1 hin _ (List.mem_of_getElem? (dsat j o ho))
              rw [hd] at h1
              simpa using h1
            rw [hd]
            simp only [Act.put]
            rw [Array.getElem?_setIfInBounds_self_of_lt hdl]
          · rw [dsat j o ho] at e1
            have hd : o.dst = none := by simpa using e1
            rw [List.getElem?_eq_getElem hvl] at e2
            obtain rfl : VS[j] = V := by simpa using e2
            rw [← hv0 hd]
            exact hV'
        · rw [getD_set_ne false (Ne.symm hji)] at hj
          have hf := I.facts j hj
          refine ⟨fun d V e1 e2 => ?_, fun V e1 e2 => hmono V (List.mem_of_getElem? e2) _ _ _ I.s hB (hf.2 V e1 e2)⟩
          obtain ⟨v', h1, h2⟩ := hf.1 d V e1 e2
          refine ⟨v', ?_, hmono V (List.mem_of_getElem? e2) _ _ _ I.s hB h2⟩
          rw [put_other]
          · exact h1
          · intro e
            exact distinctD_spec hdis (by rw [dsat i o ho, e]) e1 (Ne.symm hji) rfl)
    unfold wpOp
    rw [ho]
    rw [yieldD_eq hds]
    simp only
    split
    · rename_i hw
      rw [if_pos hw] at hs
      exact .inl hs
    · rename_i hw
      rw [if_neg hw] at hs
      exact hs
  · have hl := all_listed hac I.lsz hr
    refine hfin a w I.tsz I.dfr I.s I.olds (fun j hj => I.facts j (hl j ?_))
    rw [← hlen]
    exact List.mem_range.1 hj
  · refine ⟨by simp, rfl, rfl, hS0, hos, fun j hj => ?_⟩
    have : (Array.replicate ops.size false).getD j false = false := by
      by_cases h : j < ops.size <;> simp [h]
    rw [this] at hj
    cases hj
end
end Go.Proofs.YtjfhhlbgiepkpaaDoor
