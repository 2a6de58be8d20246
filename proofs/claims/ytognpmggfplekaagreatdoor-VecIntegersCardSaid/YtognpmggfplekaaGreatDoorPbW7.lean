/-
  A region whose order is open in which variables of the call's own are made and stored into: 'x, y := f(a), g(b)'. No conditions beyond those of 'region_l'.
-/
import Derived.Test.YtognpmggfplekaaGreatDoorPbW6
set_option maxRecDepth 100000
namespace Go.Proofs.YtognpmggfplekaaGreatDoor
open Go Go.RowKit

section
variable {P : Program} {ops : Array Oper} {Q : Exit → Act → World → Prop}
def valD (ds : List (Option Tmp)) (a : Act) (j : Nat) : Value := match ds[j]? with
  | some (some d) => a.tmps.getD d undef
  | _ => undef
def FactL (VS : List (Value → Value → World → Prop)) (ds : List (Option Tmp)) (lk : List Nat) (j : Nat) (a : Act) (w : World) : Prop := ∀ V, VS[j]? = some V → V (valD ds a j) (valD ds a (lk.getD j j)) w
def IsNew (v : Value) (w : World) : Prop := ∃ g : Nat, v = .pointer (some ⟨g, 0, none⟩) ∧ g < w.heap.size
def StepL (P : Program) (Q : Exit → Act → World → Prop) (a0 : Act) (S : World → Prop) (VS : List (Value → Value → World → Prop)) (ds : List (Option Tmp)) (lk al : List Nat) (dps : List (List Nat)) (i : Nat) (o : Oper) : Prop :=
  ∀ (a : Act) (w : World), S w → (∀ k, ds.contains (some k) = false → a.tmps[k]? = a0.tmps[k]?) → (∀ j, (dps.getD i []).contains j = true → FactL VS ds lk j a w ∧ ∀ d, ds[j]? = some (some d) → a.tmps[d]? = some (valD ds a j)) →
    (∀ j k, j ≠ k → (dps.getD i []).contains j = true → (dps.getD i []).contains k = true → al.contains j = true → al.contains k = true → valD ds a j ≠ valD ds a k) → ∀ K : Act → World → Prop,
    (∀ v w', (o.dst = none → v = undef) → w.heap.size ≤ w'.heap.size → (al.contains i = true → v = .pointer (some ⟨w.heap.size, 0, none⟩) ∧ w.heap.size < w'.heap.size) → S w' → (∀ j, j ≠ i → ∀ V, VS[j]? = some V → V (valD ds a j) (valD ds a (lk.getD j j)) w → V (valD ds a j) (valD ds a (lk.getD j j)) w') →
      (∀ V, VS[i]? = some V → V v (if lk.getD i i = i then v else valD ds a (lk.getD i i)) w') → K (a.put o.dst v) w') → if Region.wanted o (yieldD ds a.tmps) = true then o.wp P a w K Q else K (a.put o.dst undef) w
def StepsL (P : Program) (Q : Exit → Act → World → Prop) (a0 : Act) (S : World → Prop) (VS : List (Value → Value → World → Prop)) (ds : List (Option Tmp)) (lk al : List Nat) (dps : List (List Nat)) : Nat → List Oper → Prop
  | _, [] => True
  | i, o :: r => StepL P Q a0 S VS ds lk al dps i o ∧ StepsL P Q a0 S VS ds lk al dps (i + 1) r
theorem stepsL_get {a0 : Act} {S : World → Prop} {VS : List (Value → Value → World → Prop)} {ds : List (Option Tmp)} {lk al : List Nat} {dps : List (List Nat)} : ∀ (l : List Oper) (k : Nat), StepsL P Q a0 S VS ds lk al dps k l → ∀ (i : Nat) (o : Oper), l[i]? = some o → StepL P Q a0 S VS ds lk al dps (k + i) o
  | [], _, _, i, o, h => by simp at h
  | x :: l, k, hs, 0, o, h => by simp at h; subst h; exact hs.1
  | x :: l, k, hs, i + 1, o, h => by
    have := stepsL_get l (k + 1) hs.2 i o (by simpa using h)
    rwa [show k + 1 + i = k + (i + 1) by omega] at this
structure RL (ops : Array Oper) (a0 : Act) (S : World → Prop) (VS : List (Value → Value → World → Prop)) (ds : List (Option Tmp)) (lk al : List Nat) (dps : List (List Nat)) (L : Array Bool) (a : Act) (w : World) : Prop where
  lsz : L.size = ops.size
  tsz : a.tmps.size = a0.tmps.size
  dfr : a.defers = a0.defers
  s : S w
  olds : ∀ k, ds.contains (some k) = false → a.tmps[k]? = a0.tmps[k]?
  facts : ∀ j, L.getD j false = true → FactL VS ds lk j a w
  closed : ∀ j, L.getD j false = true → ∀ d, (dps.getD j []).contains d = true → L.getD d false = true
  news : ∀ j, L.getD j false = true → al.contains j = true → IsNew (valD ds a j) w
  dist : ∀ j k, j ≠ k → L.getD j false = true → L.getD k false = true → al.contains j = true → al.contains k = true → valD ds a j ≠ valD ds a k
def linksOk (lk : List Nat) (dps : List (List Nat)) (n : Nat) : Bool := (List.range n).all fun j => lk.getD j j == j || (dps.getD j []).contains (lk.getD j j)
theorem valD_put {ds : List (Option Tmp)} (hdis : distinctD ds = true) {a : Act} {i j : Nat} {dst : Option Tmp} {v : Value} (hi : ds[i]? = some dst) (hne : j ≠ i) : valD ds (a.put dst v) j = valD ds a j := by
  unfold valD
  split
  · rename_i d hd
    rw [Array.getD_eq_getD_getElem?, Array.getD_eq_getD_getElem?, put_other]
    intro e
    subst e
    exact distinctD_spec hdis hi hd (Ne.symm hne) rfl
  · rfl
theorem valD_self {ds : List (Option Tmp)} {a : Act} {i : Nat} {dst : Option Tmp} {v : Value} (hi : ds[i]? = some dst) (hin : insideD ds a.tmps.size = true) (hv : dst = none → v = undef) : valD ds (a.put dst v) i = v := by
  unfold valD
  rw [hi]
  cases dst with
  | none => exact (hv rfl).symm
  | some d =>
    have hdl : d < a.tmps.size := by
      have := List.all_eq_true.1 hin _ (List.mem_of_getElem? hi)
      simpa using this
    simp only
    rw [Array.getD_eq_getD_getElem?, put_self a d v hdl]
    rfl
theorem region_l {id : Nat} {a0 : Act} {W : World} (hm : P.follows .mixedOrders = true) (S : World → Prop) (VS : List (Value → Value → World → Prop)) (ds : List (Option Tmp)) (lk al : List Nat) (dps : List (List Nat))
    (hds : ops.toList.map (·.dst) = ds) (hdps : ops.toList.map depsO = dps) (hVS : VS.length = ds.length) (hdis : distinctD ds = true) (hin : insideD ds a0.tmps.size = true) (hlk : linksOk lk dps ds.length = true)
    (hac : ((List.range ops.size).all fun i => ((ops[i]?).map (·.after.all fun e => !Region.binds .any e || decide (e.on < i))).getD true) = true)
    (hS0 : S W.drew)
    (hstep : StepsL P Q a0 S VS ds lk al dps 0 ops.toList)
    (hfin : ∀ (vs : List Value) (w : World), vs.length = ds.length → S w → (∀ (j : Nat) (V : Value → Value → World → Prop), VS[j]? = some V → V (vs.getD j undef) (vs.getD (lk.getD j j) undef) w) → Q .normal (puts a0 ds vs) w) :
    (Code.region id ops true).wp P Q a0 W := by
  have hlen : ds.length = ops.size := by rw [← hds]; simp
  have dsat : ∀ i (o : Oper), ops[i]? = some o → ds[i]? = some o.dst := fun i o ho => by
    rw [← hds, List.getElem?_map, Array.getElem?_toList, ho]; rfl
  have dpat : ∀ i (o : Oper), ops[i]? = some o → dps.getD i [] = depsO o := fun i o ho => by
    rw [← hdps, List.getD_eq_getElem?_getD, List.getElem?_map, Array.getElem?_toList, ho]; rfl
  refine wp_region_any hm (wpAny_inv (I := RL ops a0 S VS ds lk al dps) (fun L a w i hi I => ?_) (fun L a w hr I => ?_) (fun L a w I => I.lsz) _ _ _ _ (by simp [List.countP_replicate]) ?_)
  · obtain ⟨hun, o, ho, hdep⟩ := mem_ready.1 hi
    have hio := (Array.getElem?_eq_some_iff.1 ho).1
    have hLi : i < L.size := by rw [I.lsz]; exact hio
    have hun' : L.getD i false = false := by simpa [hLi] using hun
    have hina : insideD ds a.tmps.size = true := by rw [I.tsz]; exact hin
    have hdone : ∀ j, (dps.getD i []).contains j = true → L.getD j false = true := by
      intro j hj
      rw [dpat i o ho] at hj
      have hj' : j ∈ depsO o := by simpa using hj
      obtain ⟨e, he, rfl⟩ := List.mem_map.1 hj'
      obtain ⟨he, hb⟩ := List.mem_filter.1 he
      exact hdep e (by simpa using he) hb
    have hlinked : ∀ j, L.getD j false = true → lk.getD j j ≠ i := by
      intro j hj e
      have hjl : j < ds.length := by
        rw [hlen, ← I.lsz]
        rcases Nat.lt_or_ge j L.size with h | h
        · exact h
        · rw [Array.getD_eq_getD_getElem?, Array.getElem?_eq_none h] at hj; cases hj
      have h1 := List.all_eq_true.1 hlk j (List.mem_range.2 hjl)
      rcases Bool.or_eq_true _ _ ▸ h1 with h | h
      · have : lk.getD j j = j := by simpa using h
        rw [this] at e; subst e; rw [hun'] at hj; cases hj
      · have := I.closed j hj _ h
        rw [e, hun'] at this; cases this
    have hs := stepsL_get ops.toList 0 hstep i o (by simpa using ho)
    rw [Nat.zero_add] at hs
    have hs := hs a w I.s I.olds (fun j hj => ⟨I.facts j (hdone j hj), fun d hd => by
        have hdl : d < a.tmps.size := by
          have := List.all_eq_true.1 hina _ (List.mem_of_getElem? hd)
          simpa using this
        unfold valD
        rw [hd]
        simp only
        rw [Array.getD_eq_getD_getElem?, Array.getElem?_eq_getElem hdl]
        rfl⟩) (fun j k hne hj hk => I.dist j k hne (hdone j hj) (hdone k hk)) (RL ops a0 S VS ds lk al dps (L.setIfInBounds i true)) (fun v w' hv0 hsz hal hSw hkp hV => by
      have hself := valD_self (a := a) (v := v) (dsat i o ho) hina hv0
      have hoth : ∀ j, j ≠ i → valD ds (a.put o.dst v) j = valD ds a j := fun j hj => valD_put hdis (dsat i o ho) hj
      have hold : ∀ j, j ≠ i → (L.setIfInBounds i true).getD j false = true → L.getD j false = true := fun j hj h => by rwa [getD_set_ne false (Ne.symm hj)] at h
      have nw : ∀ j, (L.setIfInBounds i true).getD j false = true → al.contains j = true → j ≠ i → IsNew (valD ds a j) w := fun j hj hc hne => I.news j (hold j hne hj) hc
      refine ⟨by simpa using I.lsz, (put_size a o.dst v).trans I.tsz, (put_defers' a o.dst v).trans I.dfr, hSw, fun k hk => ?_, fun j hj => ?_, fun j hj d hd => ?_, fun j hj hc => ?_, fun j k hne hj hk hcj hck => ?_⟩
      · rw [put_other]
        · exact I.olds k hk
        · intro e
          have h1 := List.mem_of_getElem? (dsat i o ho)
          rw [e] at h1
          have : ds.contains (some k) = true := by simpa using h1
          rw [this] at hk; cases hk
      · intro V hV'
        by_cases hji : j = i
        · subst hji
          rw [hself]
          have := hV V hV'
          by_cases e : lk.getD j j = j
          · rw [if_pos e] at this; rw [e, hself]; exact this
          · rw [if_neg e] at this; rw [hoth _ e]; exact this
        · have hj' := hold j hji hj
          rw [hoth j hji, hoth _ (hlinked j hj')]
          exact hkp j hji V hV' (I.facts j hj' V hV')
      · by_cases hdi : d = i
        · subst hdi; simp [hLi]
        · rw [getD_set_ne false (Ne.symm hdi)]
          by_cases hji : j = i
          · subst hji; exact hdone d hd
          · exact I.closed j (hold j hji hj) d hd
      · by_cases hji : j = i
        · subst hji
          rw [hself]
          obtain ⟨h1, h2⟩ := hal hc
          exact ⟨_, h1, h2⟩
        · rw [hoth j hji]
          obtain ⟨g, h1, h2⟩ := nw j hj hc hji
          exact ⟨g, h1, Nat.lt_of_lt_of_le h2 hsz⟩
      · by_cases hji : j = i
        · subst hji
          have hki : k ≠ j := fun e => hne e.symm
          rw [hself, hoth k hki, (hal hcj).1]
          obtain ⟨g, h1, h2⟩ := nw k hk hck hki
          rw [h1]
          intro e
          simp only [Value.pointer.injEq, Option.some.injEq, Addr.mk.injEq, and_true] at e
          omega
        · by_cases hki : k = i
          · subst hki
            rw [hself, hoth j hji, (hal hck).1]
            obtain ⟨g, h1, h2⟩ := nw j hj hcj hji
            rw [h1]
            intro e
            simp only [Value.pointer.injEq, Option.some.injEq, Addr.mk.injEq, and_true] at e
            omega
          · rw [hoth j hji, hoth k hki]
            exact I.dist j k hne (hold j hji hj) (hold k hki hk) hcj hck)
    unfold wpOp
    rw [ho]
    rw [yieldD_eq hds]
    simp only
    split
    · rename_i hw
      rw [if_pos hw] at hs
      exact .inl hs
    · rename_i hw
      rw [if_neg hw] at hs
      exact hs
  · have hl := all_listed2 hac I.lsz hr
    have e := puts_eq a ds (ds.map fun d => match d with | some d => a.tmps.getD d undef | none => undef) a0 (by simp) I.tsz I.dfr (fun d hd k hk => by
      have h1 := List.all_eq_true.1 hin _ hd
      rw [hk] at h1
      simpa using h1) (fun j d hd => by
      rw [List.getElem?_map, hd]
      have hdl : d < a.tmps.size := by
        rw [I.tsz]
        have := List.all_eq_true.1 hin _ (List.mem_of_getElem? hd)
        simpa using this
      simp only [Option.map_some]
      rw [Array.getD_eq_getD_getElem?, Array.getElem?_eq_getElem hdl]; rfl) (fun k hk => I.olds k (by simpa using hk))
    have hval : ∀ j, (ds.map fun d => match d with | some d => a.tmps.getD d undef | none => undef).getD j undef = valD ds a j := fun j => by
      rw [List.getD_eq_getElem?_getD, List.getElem?_map]
      unfold valD
      cases h : ds[j]? with
      | none => rfl
      | some x => cases x <;> rfl
    rw [e]
    refine hfin _ w (by simp) I.s (fun j V hV => ?_)
    have hj : j < ds.length := by rw [← hVS]; exact (List.getElem?_eq_some_iff.1 hV).1
    rw [hval, hval]
    exact I.facts j (hl j (by omega)) V hV
  · refine ⟨by simp, rfl, rfl, hS0, fun _ _ => rfl, fun j hj => ?_, fun j hj => ?_, fun j hj => ?_, fun j k _ hj => ?_⟩
    all_goals
      have : (Array.replicate ops.size false).getD j false = false := by
        by_cases h : j < ops.size <;> simp [h]
      rw [this] at hj; cases hj
end

/-! Predicates for such regions. -/
class StV2 (V : Value → Value → World → Prop) : Prop where
  st : ∀ v v2 u u', Below u.heap.size u u' → V v v2 u → V v v2 u'
def un (V : Value → World → Prop) : Value → Value → World → Prop := fun v _ u => V v u
instance (V : Value → World → Prop) [h : StV V] : StV2 (un V) := ⟨fun v _ u u' hb k => h.st v u u' hb k⟩
def isFr (B : Nat) : Value → World → Prop := fun v u => ∃ g, v = .pointer (some ⟨g, 0, none⟩) ∧ B ≤ g ∧ ∃ X a b s, Own u g 24 #[.slice X a b, .bool s]
instance (B : Nat) : StV (isFr B) := ⟨fun _ _ _ hb ⟨g, h1, h2, X, a, b, s, h3⟩ => ⟨g, h1, h2, X, a, b, s, h3.step hb⟩⟩
def filled (B : Nat) (x : V) : Value → Value → World → Prop := fun _ v2 u => ∃ g A n c, v2 = .pointer (some ⟨g, 0, none⟩) ∧ B ≤ g ∧ Own u g 24 #[.slice A n c, .bool x.s] ∧ n ≤ c ∧ n ≤ 1000 ∧ Rb u A n x.l
instance (B : Nat) (x : V) : StV2 (filled B x) := ⟨fun _ _ _ _ hb ⟨g, A, n, c, h1, h2, h3, h4, h5, h6⟩ => ⟨g, A, n, c, h1, h2, h3.step hb, h4, h5, h6.step hb⟩⟩
class StL (l : List (Value → Value → World → Prop)) : Prop where
  st : ∀ V ∈ l, StV2 V
instance : StL [] := ⟨fun _ h => by cases h⟩
instance {U : Value → Value → World → Prop} {l : List (Value → Value → World → Prop)} [h : StV2 U] [h' : StL l] : StL (U :: l) := ⟨fun X hX => by
  rcases List.mem_cons.1 hX with rfl | hX
  · exact h
  · exact h'.st X hX⟩
theorem keepL_below {VS : List (Value → Value → World → Prop)} {ds : List (Option Tmp)} {lk : List Nat} {a : Act} {i : Nat} {w w' : World} [q : StL VS] (hb : Below w.heap.size w w') : ∀ j, j ≠ i → ∀ V, VS[j]? = some V → V (valD ds a j) (valD ds a (lk.getD j j)) w → V (valD ds a j) (valD ds a (lk.getD j j)) w' :=
  fun _ _ V hV h => (q.st V (List.mem_of_getElem? hV)).st _ _ _ _ hb h
def SsX (g : Nat) (V : Value → Value → World → Prop) (v2 : Value) : Prop := ∀ v u X a b s cs, (∃ Y d e t, cs = #[.slice Y d e, .bool t]) → Own u g 24 #[.slice X a b, .bool s] → V v v2 u → V v v2 (u.setRow g cs)
theorem ssx_un {g : Nat} {V : Value → World → Prop} {v2 : Value} [h : SsV g V] : SsX g (un V) v2 := fun v u X a b s cs _ O k => h.st v u X a b s cs O k
theorem ssx_fr {g B : Nat} {v2 : Value} : SsX g (un (isFr B)) v2 := fun v u X a b s cs ⟨Y, d, e, t, hcs⟩ O ⟨g', h1, h2, X', a', b', s', h3⟩ => by
  subst hcs
  by_cases hg : g' = g
  · subst hg; exact ⟨g', h1, h2, Y, d, e, t, O.row⟩
  · exact ⟨g', h1, h2, X', a', b', s', h3.rowFar (Ne.symm hg)⟩
theorem ssx_filled {g B : Nat} {x : V} {v2 : Value} (hne : v2 ≠ .pointer (some ⟨g, 0, none⟩)) : SsX g (filled B x) v2 := fun v u X a b s cs _ O ⟨g', A, n, c, h1, h2, h3, h4, h5, h6⟩ =>
  ⟨g', A, n, c, h1, h2, h3.rowFar (fun e => hne (by rw [h1, e])), h4, h5, h6.row O⟩
instance (g : Nat) (x : V) : SsV g (isW x) := ⟨fun _ _ _ _ _ _ _ O ⟨A, n, c, h1, h2, h3, h4⟩ => ⟨A, n, c, h1, h2, h3, h4.row O⟩⟩
theorem keepL_store {VS : List (Value → Value → World → Prop)} {ds : List (Option Tmp)} {lk : List Nat} {a : Act} {i g : Nat} {w : World} {X Y : Option Addr} {p q d e : Nat} {s t : Bool} (O : Own w g 24 #[.slice X p q, .bool s]) (h : ∀ j V, j ≠ i → VS[j]? = some V → SsX g V (valD ds a (lk.getD j j))) :
    ∀ j, j ≠ i → ∀ V, VS[j]? = some V → V (valD ds a j) (valD ds a (lk.getD j j)) w → V (valD ds a j) (valD ds a (lk.getD j j)) (w.setRow g #[.slice Y d e, .bool t]) :=
  fun j hj V hV k => h j V hj hV _ _ _ _ _ _ _ ⟨Y, d, e, t, rfl⟩ O k
theorem wp_alloc {o : Oper} {a : Act} {w : World} {K : Act → World → Prop} {Q : Exit → Act → World → Prop} (ho : o.op = .alloc 24) (h : K (a.put o.dst (.pointer (some ⟨w.heap.size, 0, none⟩))) (w.alloc (.cells #[.slice none 0 0, .bool false] 24))) : o.wp Tryz.prog a w K Q := by
  refine wp_val ?_ h
  unfold execOp
  simp only [ho]
  simp [go_sem]
end Go.Proofs.YtognpmggfplekaaGreatDoor
