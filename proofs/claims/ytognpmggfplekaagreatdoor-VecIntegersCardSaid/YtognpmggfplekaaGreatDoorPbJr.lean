/-
  A region whose order is fixed, by one obligation an operation, as for one whose order is open. No conditions beyond those of 'region_s'.
-/
import Derived.Test.YtognpmggfplekaaGreatDoorPbW7
set_option maxRecDepth 100000
namespace Go.Proofs.YtognpmggfplekaaGreatDoor
open Go Go.RowKit

theorem any_y {P : Program} {ops : Array Oper} {Q : Exit → Act → World → Prop} {a0 : Act} {W : World} (S : World → Prop) (PS : List (World → Prop)) (VS : List (Value → World → Prop)) (ds : List (Option Tmp)) (dps : List (List Nat))
    (hds : ops.toList.map (·.dst) = ds) (hdps : ops.toList.map depsO = dps) (hVS : VS.length = ds.length) (hdis : distinctD ds = true) (hin : insideD ds a0.tmps.size = true)
    (hac : ((List.range ops.size).all fun i => ((ops[i]?).map (·.after.all fun e => !Region.binds .any e || decide (e.on < i))).getD true) = true)
    (hS0 : S W) (hP0 : ∀ U ∈ PS, U W)
    (hstep : StepsW P Q a0 S PS VS ds dps 0 ops.toList)
    (hfin : ∀ (vs : List Value) (w : World), vs.length = ds.length → S w → (∀ (j : Nat) (V : Value → World → Prop), VS[j]? = some V → V (vs.getD j undef) w) → Q .normal (puts a0 ds vs) w) :
    wpAny P .any ops Q ops.size (Array.replicate ops.size false) a0 W := by
  have hlen : ds.length = ops.size := by rw [← hds]; simp
  have dsat : ∀ i (o : Oper), ops[i]? = some o → ds[i]? = some o.dst := fun i o ho => by
    rw [← hds, List.getElem?_map, Array.getElem?_toList, ho]; rfl
  have dpat : ∀ i (o : Oper), ops[i]? = some o → dps.getD i [] = depsO o := fun i o ho => by
    rw [← hdps, List.getD_eq_getElem?_getD, List.getElem?_map, Array.getElem?_toList, ho]; rfl
  refine wpAny_inv (I := RW ops a0 S PS VS ds dps) (fun L a w i hi I => ?_) (fun L a w hr I => ?_) (fun L a w I => I.lsz) _ _ _ _ (by simp [List.countP_replicate]) ?_
  · obtain ⟨hun, o, ho, hdep⟩ := mem_ready.1 hi
    have hio := (Array.getElem?_eq_some_iff.1 ho).1
    have hLi : i < L.size := by rw [I.lsz]; exact hio
    have hun' : L.getD i false = false := by simpa [hLi] using hun
    have hdone : ∀ j, (dps.getD i []).contains j = true → L.getD j false = true := by
      intro j hj
      rw [dpat i o ho] at hj
      have hj' : j ∈ depsO o := by simpa using hj
      obtain ⟨e, he, rfl⟩ := List.mem_map.1 hj'
      obtain ⟨he, hb⟩ := List.mem_filter.1 he
      exact hdep e (by simpa using he) hb
    have hpre : ∀ j U, beforeB dps i j = true → PS[j]? = some U → U w := by
      intro j U hb hU
      refine I.pres j U ?_ hU
      unfold beforeB at hb
      rcases Bool.or_eq_true _ _ ▸ hb with h | h
      · have : j = i := by simpa using h
        subst this; exact hun'
      · cases hc : L.getD j false with
        | false => rfl
        | true => rw [I.closed j hc i h] at hun'; cases hun'
    have hs := stepsW_get ops.toList 0 hstep i o (by simpa using ho)
    rw [Nat.zero_add] at hs
    have hs := hs a w I.s I.olds (fun j hj => I.facts j (hdone j hj)) hpre (RW ops a0 S PS VS ds dps (L.setIfInBounds i true)) (fun v w' hv0 hK hV => by
      refine ⟨by simpa using I.lsz, (put_size a o.dst v).trans I.tsz, (put_defers' a o.dst v).trans I.dfr, hK.1, fun k hk => ?_, fun j hj => ?_, fun j hj d hd => ?_, fun j U hj hU => ?_⟩
      · rw [put_other]
        · exact I.olds k hk
        · intro e
          have h1 := List.mem_of_getElem? (dsat i o ho)
          rw [e] at h1
          have : ds.contains (some k) = true := by simpa using h1
          rw [this] at hk; cases hk
      · by_cases hji : j = i
        · subst hji
          have hvl : j < VS.length := by rw [hVS, hlen]; exact hio
          have hV' : VS[j] v w' := by simpa [hvl] using hV
          refine ⟨fun d V e1 e2 => ?_, fun V e1 e2 => ?_⟩
          · rw [dsat j o ho] at e1
            have hd : o.dst = some d := by simpa using e1
            rw [List.getElem?_eq_getElem hvl] at e2
            obtain rfl : VS[j] = V := by simpa using e2
            refine ⟨v, ?_, hV'⟩
            have hdl : d < a.tmps.size := by
              rw [I.tsz]
              have h1 := List.all_eq_true.1 hin _ (List.mem_of_getElem? (dsat j o ho))
              rw [hd] at h1
              simpa using h1
            rw [hd]
            exact put_self a d v hdl
          · rw [dsat j o ho] at e1
            have hd : o.dst = none := by simpa using e1
            rw [List.getElem?_eq_getElem hvl] at e2
            obtain rfl : VS[j] = V := by simpa using e2
            rw [← hv0 hd]
            exact hV'
        · rw [getD_set_ne false (Ne.symm hji)] at hj
          have hf := I.facts j hj
          refine ⟨fun d V e1 e2 => ?_, fun V e1 e2 => hK.2.2 j hji V e2 _ (hf.2 V e1 e2)⟩
          obtain ⟨v', h1, h2⟩ := hf.1 d V e1 e2
          refine ⟨v', ?_, hK.2.2 j hji V e2 _ h2⟩
          rw [put_other]
          · exact h1
          · intro e
            exact distinctD_spec hdis (by rw [dsat i o ho, e]) e1 (Ne.symm hji) rfl
      · by_cases hdi : d = i
        · subst hdi; simp [hLi]
        · rw [getD_set_ne false (Ne.symm hdi)]
          by_cases hji : j = i
          · subst hji; exact hdone d hd
          · rw [getD_set_ne false (Ne.symm hji)] at hj
            exact I.closed j hj d hd
      · by_cases hji : j = i
        · subst hji; simp [hLi] at hj
        · rw [getD_set_ne false (Ne.symm hji)] at hj
          exact hK.2.1 j hji U hU (I.pres j U hj hU))
    unfold wpOp
    rw [ho]
    rw [yieldD_eq hds]
    simp only
    split
    · rename_i hw
      rw [if_pos hw] at hs
      exact .inl hs
    · rename_i hw
      rw [if_neg hw] at hs
      exact hs
  · have hl := all_listed2 hac I.lsz hr
    have hF : ∀ j, j < ds.length → Fact VS ds j a w := fun j hj => I.facts j (hl j (by omega))
    have e := puts_eq a ds (ds.map fun d => match d with | some d => a.tmps.getD d undef | none => undef) a0 (by simp) I.tsz I.dfr (fun d hd k hk => by
      have h1 := List.all_eq_true.1 hin _ hd
      rw [hk] at h1
      simpa using h1) (fun j d hd => by
      rw [List.getElem?_map, hd]
      have hj := (List.getElem?_eq_some_iff.1 hd).1
      obtain ⟨v, hv, _⟩ := (hF j hj).1 d _ hd (List.getElem?_eq_getElem (by omega))
      simp only [Option.map_some]
      rw [Array.getD_eq_getD_getElem?, hv]; rfl) (fun k hk => I.olds k (by simpa using hk))
    rw [e]
    refine hfin _ w (by simp) I.s (fun j V hV => ?_)
    have hj : j < ds.length := by rw [← hVS]; exact (List.getElem?_eq_some_iff.1 hV).1
    have hf := hF j hj
    rw [List.getD_eq_getElem?_getD, List.getElem?_map]
    have hdj := List.getElem?_eq_getElem hj
    rw [hdj]
    simp only [Option.map_some, Option.getD_some]
    cases hc : ds[j] with
    | none => rw [hc] at hdj; exact hf.2 V hdj hV
    | some d =>
      rw [hc] at hdj
      obtain ⟨v, hv, hVv⟩ := hf.1 d V hdj hV
      simp only
      rw [Array.getD_eq_getD_getElem?, hv]; exact hVv
  · have hr : ∀ j, (Array.replicate ops.size false).getD j false = false := by
      intro j
      by_cases h : j < ops.size <;> simp [h]
    refine ⟨by simp, rfl, rfl, hS0, fun _ _ => rfl, fun j hj => ?_, fun j hj => ?_, fun j U _ hU => hP0 U (List.mem_of_getElem? hU)⟩
    · rw [hr] at hj; cases hj
    · rw [hr] at hj; cases hj
theorem region_s {P : Program} {ops : Array Oper} {Q : Exit → Act → World → Prop} {id : Nat} {a0 : Act} {W : World} (S : World → Prop) (PS : List (World → Prop)) (VS : List (Value → World → Prop)) (ds : List (Option Tmp)) (dps : List (List Nat))
    (hlin : Region.linearise.go .any ops ops.size 0 (Array.replicate ops.size false) [] = List.range ops.size)
    (hds : ops.toList.map (·.dst) = ds) (hdps : ops.toList.map depsO = dps) (hVS : VS.length = ds.length) (hdis : distinctD ds = true) (hin : insideD ds a0.tmps.size = true)
    (hac : ((List.range ops.size).all fun i => ((ops[i]?).map (·.after.all fun e => !Region.binds .any e || decide (e.on < i))).getD true) = true)
    (hS0 : S W) (hP0 : ∀ U ∈ PS, U W)
    (hstep : StepsW P Q a0 S PS VS ds dps 0 ops.toList)
    (hfin : ∀ (vs : List Value) (w : World), vs.length = ds.length → S w → (∀ (j : Nat) (V : Value → World → Prop), VS[j]? = some V → V (vs.getD j undef) w) → Q .normal (puts a0 ds vs) w) :
    (Code.region id ops false).wp P Q a0 W :=
  wp_region (by
    have := wpAny_sound ops.size 0 _ _ _ (any_y S PS VS ds dps hds hdps hVS hdis hin hac hS0 hP0 hstep hfin)
    rwa [hlin] at this)
section
variable {o : Oper} {a : Act} {w : World} {K : Act → World → Prop} {Q : Exit → Act → World → Prop}
theorem wp_maxI (x y : Operand) (ho : o.op = .call { callee := .builtin .max, args := #[x, y], argTypes := #[3, 3] }) {n m W : Nat} (hx : a.eval x = .int .i64 n) (hy : a.eval y = .int .i64 m) (hW : max n m = W) (h : K (a.put o.dst (.int .i64 W)) w) : o.wp Tryz.prog a w K Q := by
  refine wp_val ?_ h
  unfold execOp
  simp only [ho, resolve, invoke, builtin, Sem.run_bind, Sem.run_pure, Result.andThen_ok, List.map_toArray, List.map_cons, List.map_nil, hx, hy]
  subst hW
  simp [go_sem]
  omega
end
end Go.Proofs.YtognpmggfplekaaGreatDoor
