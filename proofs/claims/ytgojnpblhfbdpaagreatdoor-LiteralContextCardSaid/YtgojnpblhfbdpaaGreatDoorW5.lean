/-
  'awake': the chapter's examples hold. Conditions: the tables of package bit read as the program lays them.
-/
import Derived.Test.YtgojnpblhfbdpaaGreatDoorW4
import Derived.Test.YtgojnpblhfbdpaaGreatDoorW1
namespace Go.Proofs.YtgojnpblhfbdpaaGreatDoor
open Go Go.RowKit

/-- The value is this vector. -/
def isW (v : V) : Value → World → Prop := fun q u => ∃ A n c, q = .agg #[.slice A n c, .bool v.s] ∧ n ≤ c ∧ n ≤ 1000 ∧ Rb u A n v.l
instance (v : V) : StV (isW v) := ⟨fun _ _ _ hb ⟨A, n, c, h1, h2, h3, h4⟩ => ⟨A, n, c, h1, h2, h3, h4.step hb⟩⟩
set_option maxRecDepth 100000 in
theorem yield_of {ds : List (Option Tmp)} {tmps : Array Value} {j : Nat} {b : Bool} {d : Tmp} (h : ds[j]? = some (some d)) (k : tmps[d]? = some (.bool b)) : yieldD ds tmps j = some b := by
  unfold yieldD; rw [h]; simp [k]
set_option maxRecDepth 100000 in
theorem sofL_s (s : ByteArray) : (⟨ofL s, true⟩ : V).s = true := rfl
section
variable {o : Oper} {a : Act} {w : World} {K : Act → World → Prop} {Q : Exit → Act → World → Prop}
set_option maxRecDepth 100000 in
theorem wp_not (x : Operand) {t : TypeId} (ho : o.op = .unOp .not t x) {b : Bool} (hx : a.eval x = .bool b) (h : K (a.put o.dst (.bool (!b))) w) : o.wp Tryz.prog a w K Q := by
  refine wp_val ?_ h
  unfold execOp
  simp only [ho, hx]
  simp [go_sem]
set_option maxRecDepth 100000 in
theorem wp_pick_and (x y z : Operand) (ho : o.op = .pick x y z) (hx : a.eval x = .bool true) {v : Value} (hy : a.eval y = v) (h : K (a.put o.dst v) w) : o.wp Tryz.prog a w K Q := by
  refine wp_val ?_ h
  unfold execOp
  simp only [ho, hx, hy]
  simp [go_sem]
set_option maxRecDepth 100000 in
theorem wp_pick_or (x y z : Operand) (ho : o.op = .pick x y z) (hx : a.eval x = .bool false) {v : Value} (hz : a.eval z = v) (h : K (a.put o.dst v) w) : o.wp Tryz.prog a w K Q := by
  refine wp_val ?_ h
  unfold execOp
  simp only [ho, hx, hz]
  simp [go_sem]
end
set_option maxRecDepth 100000 in
theorem stvs_nil : StVs [] := inferInstance
set_option maxRecDepth 100000 in
theorem stvs_cons {U : Value → World → Prop} {l : List (Value → World → Prop)} (h : StV U) (h' : StVs l) : StVs (U :: l) := inferInstance
set_option maxRecDepth 100000 in
theorem puts_defers : ∀ (ds : List (Option Tmp)) (vs : List Value) (a : Act), (puts a ds vs).defers = a.defers
  | [], _, _ => by simp [puts]
  | _ :: _, [], _ => by simp [puts]
  | d :: ds, v :: vs, a => by rw [puts, puts_defers ds vs, put_defers']
set_option maxRecDepth 100000 in
theorem puts_size : ∀ (ds : List (Option Tmp)) (vs : List Value) (a : Act), (puts a ds vs).tmps.size = a.tmps.size
  | [], _, _ => by simp [puts]
  | _ :: _, [], _ => by simp [puts]
  | d :: ds, v :: vs, a => by rw [puts, puts_size ds vs, put_size]
set_option maxRecDepth 100000 in
theorem puts_other {k : Nat} : ∀ (ds : List (Option Tmp)) (vs : List Value) (a : Act), (∀ j : Nat, ds[j]? ≠ some (some k)) → (puts a ds vs).tmps[k]? = a.tmps[k]?
  | [], _, _, _ => by simp [puts]
  | _ :: _, [], _, _ => by simp [puts]
  | d :: ds, v :: vs, a, h => by
    rw [puts, puts_other ds vs _ (fun j => by simpa using h (j + 1)), put_other]
    intro e; exact h 0 (by simp [e])
set_option maxRecDepth 100000 in
theorem puts_get {k : Nat} : ∀ (ds : List (Option Tmp)) (vs : List Value) (a : Act) (j : Nat), vs.length = ds.length → (∀ (i j' : Nat) (x y : Tmp), ds[i]? = some (some x) → ds[j']? = some (some y) → i ≠ j' → x ≠ y) → ds[j]? = some (some k) → k < a.tmps.size → (puts a ds vs).tmps[k]? = vs[j]?
  | [], _, _, j, _, _, h, _ => by simp at h
  | _ :: _, [], _, _, hl, _, _, _ => by simp at hl
  | d :: ds, v :: vs, a, 0, hl, hd, h, hk => by
    have e : d = some k := by simpa using h
    subst e
    rw [puts, puts_other ds vs _ (fun j e => hd 0 (j + 1) k k (by simp) (by simpa using e) (by omega) rfl), put_self a k v hk]
    simp
  | d :: ds, v :: vs, a, j + 1, hl, hd, h, hk => by
    rw [puts, puts_get ds vs _ j (by simpa using hl) (fun i j' x y h1 h2 hne => hd (i + 1) (j' + 1) x y (by simpa using h1) (by simpa using h2) (by omega)) (by simpa using h) (by rw [put_size]; exact hk)]
    simp
set_option maxRecDepth 100000 in
theorem all_listed2 {ops : Array Oper} (hac : ((List.range ops.size).all fun i => ((ops[i]?).map (·.after.all fun e => !Region.binds .any e || decide (e.on < i))).getD true) = true) {L : Array Bool} (hL : L.size = ops.size) (hr : Region.ready .any ops L = []) : ∀ i, i < ops.size → L.getD i false = true := by
  intro i
  induction i using Nat.strongRecOn with
  | _ i ih =>
    intro hi
    have hil : i < L.size := by omega
    cases hc : L.getD i false with
    | true => rfl
    | false =>
      exfalso
      have : i ∈ Region.ready .any ops L := by
        rw [mem_ready]
        refine ⟨by simp [hil] at hc ⊢; exact hc, ops[i], by simp [hi], fun e he hb => ?_⟩
        have h1 := List.all_eq_true.1 hac i (List.mem_range.2 hi)
        rw [Array.getElem?_eq_getElem hi] at h1
        simp only [Option.map_some, Option.getD_some] at h1
        have h3 := (Array.all_eq_true_iff_forall_mem.1 h1) e he
        have h2 : e.on < i := by simpa [hb] using h3
        exact ih e.on h2 (by omega)
      rw [hr] at this
      cases this
set_option maxRecDepth 100000 in
theorem region_y {P : Program} {ops : Array Oper} {Q : Exit → Act → World → Prop} {id : Nat} {a0 : Act} {W : World} (hm : P.follows .mixedOrders = true) (S : World → Prop) (PS : List (World → Prop)) (VS : List (Value → World → Prop)) (ds : List (Option Tmp)) (dps : List (List Nat))
    (hds : ops.toList.map (·.dst) = ds) (hdps : ops.toList.map depsO = dps) (hVS : VS.length = ds.length) (hdis : distinctD ds = true) (hin : insideD ds a0.tmps.size = true)
    (hac : ((List.range ops.size).all fun i => ((ops[i]?).map (·.after.all fun e => !Region.binds .any e || decide (e.on < i))).getD true) = true)
    (hS0 : S W.drew) (hP0 : ∀ U ∈ PS, U W.drew)
    (hstep : StepsW P Q a0 S PS VS ds dps 0 ops.toList)
    (hfin : ∀ (vs : List Value) (w : World), vs.length = ds.length → S w → (∀ (j : Nat) (V : Value → World → Prop), VS[j]? = some V → V (vs.getD j undef) w) → Q .normal (puts a0 ds vs) w) :
    (Code.region id ops true).wp P Q a0 W := by
  have hlen : ds.length = ops.size := by rw [← hds]; simp
  have dsat : ∀ i (o : Oper), ops[i]? = some o → ds[i]? = some o.dst := fun i o ho => by
    rw [← hds, List.getElem?_map, Array.getElem?_toList, ho]; rfl
  have dpat : ∀ i (o : Oper), ops[i]? = some o → dps.getD i [] = depsO o := fun i o ho => by
    rw [← hdps, List.getD_eq_getElem?_getD, List.getElem?_map, Array.getElem?_toList, ho]; rfl
  refine wp_region_any hm (wpAny_inv (I := RW ops a0 S PS VS ds dps) (fun L a w i hi I => ?_) (fun L a w hr I => ?_) (fun L a w I => I.lsz) _ _ _ _ (by simp [List.countP_replicate]) ?_)
  · obtain ⟨hun, o, ho, hdep⟩ := mem_ready.1 hi
    have hio := (Array.getElem?_eq_some_iff.1 ho).1
    have hLi : i < L.size := by rw [I.lsz]; exact hio
    have hun' : L.getD i false = false := by simpa [hLi] using hun
    have hdone : ∀ j, (dps.getD i []).contains j = true → L.getD j false = true := by
      intro j hj
      rw [dpat i o ho] at hj
      have hj' : j ∈ depsO o := by simpa using hj
      obtain ⟨e, he, rfl⟩ := List.mem_map.1 hj'
      obtain ⟨he, hb⟩ := List.mem_filter.1 he
      exact hdep e (by simpa using he) hb
    have hpre : ∀ j U, beforeB dps i j = true → PS[j]? = some U → U w := by
      intro j U hb hU
      refine I.pres j U ?_ hU
      unfold beforeB at hb
      rcases Bool.or_eq_true _ _ ▸ hb with h | h
      · have : j = i := by simpa using h
        subst this; exact hun'
      · cases hc : L.getD j false with
        | false => rfl
        | true => rw [I.closed j hc i h] at hun'; cases hun'
    have hs := stepsW_get ops.toList 0 hstep i o (by simpa using ho)
    rw [Nat.zero_add] at hs
    have hs := hs a w I.s I.olds (fun j hj => I.facts j (hdone j hj)) hpre (RW ops a0 S PS VS ds dps (L.setIfInBounds i true)) (fun v w' hv0 hK hV => by
      refine ⟨by simpa using I.lsz, (put_size a o.dst v).trans I.tsz, (put_defers' a o.dst v).trans I.dfr, hK.1, fun k hk => ?_, fun j hj => ?_, fun j hj d hd => ?_, fun j U hj hU => ?_⟩
      · rw [put_other]
        · exact I.olds k hk
        · intro e
          have h1 := List.mem_of_getElem? (dsat i o ho)
          rw [e] at h1
          have : ds.contains (some k) = true := by simpa using h1
          rw [this] at hk; cases hk
      · by_cases hji : j = i
        · subst hji
          have hvl : j < VS.length := by rw [hVS, hlen]; exact hio
          have hV' : VS[j] v w' := by simpa [hvl] using hV
          refine ⟨fun d V e1 e2 => ?_, fun V e1 e2 => ?_⟩
          · rw [dsat j o ho] at e1
            have hd : o.dst = some d := by simpa using e1
            rw [List.getElem?_eq_getElem hvl] at e2
            obtain rfl : VS[j] = V := by simpa using e2
            refine ⟨v, ?_, hV'⟩
            have hdl : d < a.tmps.size := by
              rw [I.tsz]
              have h1 := List.all_eq_true.1 hin _ (List.mem_of_getElem? (dsat j o ho))
              rw [hd] at h1
              simpa using h1
            rw [hd]
            exact put_self a d v hdl
          · rw [dsat j o ho] at e1
            have hd : o.dst = none := by simpa using e1
            rw [List.getElem?_eq_getElem hvl] at e2
            obtain rfl : VS[j] = V := by simpa using e2
            rw [← hv0 hd]
            exact hV'
        · rw [getD_set_ne false (Ne.symm hji)] at hj
          have hf := I.facts j hj
          refine ⟨fun d V e1 e2 => ?_, fun V e1 e2 => hK.2.2 j hji V e2 _ (hf.2 V e1 e2)⟩
          obtain ⟨v', h1, h2⟩ := hf.1 d V e1 e2
          refine ⟨v', ?_, hK.2.2 j hji V e2 _ h2⟩
          rw [put_other]
          · exact h1
          · intro e
            exact distinctD_spec hdis (by rw [dsat i o ho, e]) e1 (Ne.symm hji) rfl
      · by_cases hdi : d = i
        · subst hdi; simp [hLi]
        · rw [getD_set_ne false (Ne.symm hdi)]
          by_cases hji : j = i
          · subst hji; exact hdone d hd
          · rw [getD_set_ne false (Ne.symm hji)] at hj
            exact I.closed j hj d hd
      · by_cases hji : j = i
        · subst hji; simp [hLi] at hj
        · rw [getD_set_ne false (Ne.symm hji)] at hj
          exact hK.2.1 j hji U hU (I.pres j U hj hU))
    unfold wpOp
    rw [ho]
    rw [yieldD_eq hds]
    simp only
    split
    · rename_i hw
      rw [if_pos hw] at hs
      exact .inl hs
    · rename_i hw
      rw [if_neg hw] at hs
      exact hs
  · have hl := all_listed2 hac I.lsz hr
    have hF : ∀ j, j < ds.length → Fact VS ds j a w := fun j hj => I.facts j (hl j (by omega))
    have e := puts_eq a ds (ds.map fun d => match d with | some d => a.tmps.getD d undef | none => undef) a0 (by simp) I.tsz I.dfr (fun d hd k hk => by
      have h1 := List.all_eq_true.1 hin _ hd
      rw [hk] at h1
      simpa using h1) (fun j d hd => by
      rw [List.getElem?_map, hd]
      have hj := (List.getElem?_eq_some_iff.1 hd).1
      obtain ⟨v, hv, _⟩ := (hF j hj).1 d _ hd (List.getElem?_eq_getElem (by omega))
      simp only [Option.map_some]
      rw [Array.getD_eq_getD_getElem?, hv]; rfl) (fun k hk => I.olds k (by simpa using hk))
    rw [e]
    refine hfin _ w (by simp) I.s (fun j V hV => ?_)
    have hj : j < ds.length := by rw [← hVS]; exact (List.getElem?_eq_some_iff.1 hV).1
    have hf := hF j hj
    rw [List.getD_eq_getElem?_getD, List.getElem?_map]
    have hdj := List.getElem?_eq_getElem hj
    rw [hdj]
    simp only [Option.map_some, Option.getD_some]
    cases hc : ds[j] with
    | none => rw [hc] at hdj; exact hf.2 V hdj hV
    | some d =>
      rw [hc] at hdj
      obtain ⟨v, hv, hVv⟩ := hf.1 d V hdj hV
      simp only
      rw [Array.getD_eq_getD_getElem?, hv]; exact hVv
  · have hr : ∀ j, (Array.replicate ops.size false).getD j false = false := by
      intro j
      by_cases h : j < ops.size <;> simp [h]
    refine ⟨by simp, rfl, rfl, hS0, fun _ _ => rfl, fun j hj => ?_, fun j hj => ?_, fun j U _ hU => hP0 U (List.mem_of_getElem? hU)⟩
    · rw [hr] at hj; cases hj
    · rw [hr] at hj; cases hj
set_option maxRecDepth 100000 in
/-- A region whose order is open, its frame left as it is. -/
theorem region_z {P : Program} {ops : Array Oper} {Q : Exit → Act → World → Prop} {id : Nat} {a0 : Act} {W : World} (hm : P.follows .mixedOrders = true) (S : World → Prop) (PS : List (World → Prop)) (VS : List (Value → World → Prop)) (ds : List (Option Tmp)) (dps : List (List Nat))
    (hds : ops.toList.map (·.dst) = ds) (hdps : ops.toList.map depsO = dps) (hVS : VS.length = ds.length) (hdis : distinctD ds = true) (hin : insideD ds a0.tmps.size = true)
    (hac : ((List.range ops.size).all fun i => ((ops[i]?).map (·.after.all fun e => !Region.binds .any e || decide (e.on < i))).getD true) = true)
    (hS0 : S W.drew) (hP0 : ∀ U ∈ PS, U W.drew)
    (hstep : StepsW P Q a0 S PS VS ds dps 0 ops.toList)
    (hfin : ∀ (a : Act) (w : World), a.defers = a0.defers → a.tmps.size = a0.tmps.size → S w → (∀ (j d : Nat) (V : Value → World → Prop), ds[j]? = some (some d) → VS[j]? = some V → ∃ v, a.tmps[d]? = some v ∧ V v w) → Q .normal a w) :
    (Code.region id ops true).wp P Q a0 W := by
  refine region_y hm S PS VS ds dps hds hdps hVS hdis hin hac hS0 hP0 hstep fun vs w hl hS hV => hfin _ w (puts_defers _ _ _) (puts_size _ _ _) hS fun j d V h1 h2 => ?_
  have hj : j < vs.length := by rw [hl]; exact (List.getElem?_eq_some_iff.1 h1).1
  have hk : d < a0.tmps.size := by
    have := List.all_eq_true.1 hin _ (List.mem_of_getElem? h1)
    simpa using this
  refine ⟨vs.getD j undef, ?_, hV j V h2⟩
  rw [puts_get ds vs a0 j hl (fun i j' x y e1 e2 hne => distinctD_spec hdis e1 e2 hne) h1 hk, List.getD_eq_getElem?_getD, List.getElem?_eq_getElem hj]
  rfl
/-- Two, three vectors in a row of their own. -/
def cv (A : Option Addr) (n c : Nat) (s : Bool) : Cv := ⟨A, n, c, s⟩
def two2 {α : Type} (a b : α) (j : Nat) : α := if j = 0 then a else b
def two3 {α : Type} (a b c : α) (j : Nat) : α := if j = 0 then a else if j = 1 then b else c
set_option maxRecDepth 100000 in
theorem vs1 (w : World) (A : Option Addr) (n c : Nat) (s : Bool) : Vs (w.alloc (.cells #[.slice A n c, .bool s] 26)).heap.size (w.alloc (.cells #[.slice A n c, .bool s] 26)) (some ⟨w.heap.size, 0, none⟩) 1 (fun _ => cv A n c s) := fun _ => by
  have o := Own.new w 26 #[.slice A n c, .bool s]
  refine ⟨w.heap.size, 0, rfl, by simp, fun j hj => ?_⟩
  obtain rfl : j = 0 := by omega
  exact ⟨o.cell 0, o.cell 1⟩
set_option maxRecDepth 100000 in
theorem vs2 (w : World) (A Y : Option Addr) (n c m d : Nat) (s t : Bool) : Vs (w.alloc (.cells #[.slice A n c, .bool s, .slice Y m d, .bool t] 26)).heap.size (w.alloc (.cells #[.slice A n c, .bool s, .slice Y m d, .bool t] 26)) (some ⟨w.heap.size, 0, none⟩) 2 (two2 (cv A n c s) (cv Y m d t)) := fun _ => by
  have o := Own.new w 26 #[.slice A n c, .bool s, .slice Y m d, .bool t]
  refine ⟨w.heap.size, 0, rfl, by simp, fun j hj => ?_⟩
  rcases (show j = 0 ∨ j = 1 by omega) with rfl | rfl
  · exact ⟨o.cell 0, o.cell 1⟩
  · exact ⟨o.cell 2, o.cell 3⟩
set_option maxRecDepth 100000 in
theorem vs3 (w : World) (A Y Z : Option Addr) (n c m d i e : Nat) (s t r : Bool) : Vs (w.alloc (.cells #[.slice A n c, .bool s, .slice Y m d, .bool t, .slice Z i e, .bool r] 26)).heap.size (w.alloc (.cells #[.slice A n c, .bool s, .slice Y m d, .bool t, .slice Z i e, .bool r] 26)) (some ⟨w.heap.size, 0, none⟩) 3 (two3 (cv A n c s) (cv Y m d t) (cv Z i e r)) := fun _ => by
  have o := Own.new w 26 #[.slice A n c, .bool s, .slice Y m d, .bool t, .slice Z i e, .bool r]
  refine ⟨w.heap.size, 0, rfl, by simp, fun j hj => ?_⟩
  rcases (show j = 0 ∨ j = 1 ∨ j = 2 by omega) with rfl | rfl | rfl
  · exact ⟨o.cell 0, o.cell 1⟩
  · exact ⟨o.cell 2, o.cell 3⟩
  · exact ⟨o.cell 4, o.cell 5⟩
set_option maxRecDepth 100000 in
theorem rv2 {w : World} {A Y : Option Addr} {n c m d : Nat} {s t : Bool} {l k : List Int} (h : Rb w A n l) (h' : Rb w Y m k) : Rv w (two2 (cv A n c s) (cv Y m d t)) (two2 ⟨l, s⟩ ⟨k, t⟩) := fun j => by
  unfold two2; split
  · exact ⟨h, rfl⟩
  · exact ⟨h', rfl⟩
set_option maxRecDepth 100000 in
theorem rv3 {w : World} {A Y Z : Option Addr} {n c m d i e : Nat} {s t r : Bool} {l k g : List Int} (h : Rb w A n l) (h' : Rb w Y m k) (h2 : Rb w Z i g) : Rv w (two3 (cv A n c s) (cv Y m d t) (cv Z i e r)) (two3 ⟨l, s⟩ ⟨k, t⟩ ⟨g, r⟩) := fun j => by
  unfold two3; split
  · exact ⟨h, rfl⟩
  · split
    · exact ⟨h', rfl⟩
    · exact ⟨h2, rfl⟩
set_option maxRecDepth 100000 in
theorem int_t {z : Int} (A : Option Addr) (n c : Nat) (s : Bool) (l : List Int) (w : World) (h : Rb w A n l) (hz : iVal ⟨l, s⟩ = z) (hk : iOk ⟨l, s⟩ = true) :
    Calls Tryz.prog 139 #[.agg #[.slice A n c, .bool s]] w fun e w' => e = .returned (.tuple #[.int .i64 z, .bool true]) ∧ Below w.heap.size w w' := by
  have := int_v A n c s l w h
  rw [hz, hk] at this
  exact this
set_option maxRecDepth 100000 in
theorem same_t (A Y : Option Addr) (n m c d : Nat) (s t : Bool) (l k : List Int) (w : World) (h : Rb w A n l) (h' : Rb w Y m k) (hn : n ≤ 1000) (hm : m ≤ 1000) (hs : sameV ⟨l, s⟩ ⟨k, t⟩ = true) :
    Calls Tryz.prog 16 #[.agg #[.slice A n c, .bool s], .agg #[.slice Y m d, .bool t]] w fun e w' => e = .returned (.bool true) ∧ Below w.heap.size w w' := by
  have := rSame_any A Y n m c d s t l k w h h' (by omega) (by omega)
  rw [hs] at this
  exact this
def vEight : V := fromV 5 8 true
def vPlain : V := fromV 5 8 false
def vMinus : V := fromV (-1) 32 true
def vBase : V := fromV 2 32 true
set_option maxRecDepth 100000 in
theorem int_Eight (u : World) : Calls Tryz.prog 34 #[.int .i64 5, .int .i64 8, .bool true] u (RetX u vEight 0) := (fromInt_v_w 5 8 true u ⟨by decide, by decide⟩).mono fun _ _ hr => hr.er (z := 0) rfl
set_option maxRecDepth 100000 in
theorem int_Plain (u : World) : Calls Tryz.prog 34 #[.int .i64 5, .int .i64 8, .bool false] u (RetX u vPlain 0) := (fromInt_v_w 5 8 false u ⟨by decide, by decide⟩).mono fun _ _ hr => hr.er (z := 0) rfl
set_option maxRecDepth 100000 in
theorem int_Minus (u : World) : Calls Tryz.prog 34 #[.int .i64 (-1), .int .i64 32, .bool true] u (RetX u vMinus 0) := (fromInt_v_w (-1) 32 true u ⟨by decide, by decide⟩).mono fun _ _ hr => hr.er (z := 0) rfl
set_option maxRecDepth 100000 in
theorem int_Base (u : World) : Calls Tryz.prog 34 #[.int .i64 2, .int .i64 32, .bool true] u (RetX u vBase 0) := (fromInt_v_w 2 32 true u ⟨by decide, by decide⟩).mono fun _ _ hr => hr.er (z := 0) rfl
def vBoth : V := coV 2 (two2 ⟨ofL ⟨#[49, 48]⟩, false⟩ ⟨ofL ⟨#[48, 122, 49]⟩, false⟩)
def vPart : V := slV ⟨ofL ⟨#[49, 48, 49, 49]⟩, false⟩ 4 2
def awDs : List (Option Tmp) := some 113 :: some 114 :: some 115 :: some 116 :: some 117 :: some 118 :: some 119 :: some 120 :: some 121 :: some 122 :: some 123 :: some 124 :: some 125 :: some 126 :: some 127 :: some 128 :: some 129 :: some 130 :: some 131 :: some 132 :: some 133 :: some 134 :: some 135 :: some 136 :: some 137 :: some 138 :: some 139 :: some 140 :: some 141 :: some 142 :: some 143 :: some 144 :: some 145 :: some 146 :: some 147 :: some 148 :: some 149 :: some 150 :: some 151 :: some 152 :: some 153 :: some 154 :: some 155 :: some 156 :: some 157 :: some 158 :: some 159 :: some 160 :: some 161 :: some 162 :: some 163 :: some 164 :: some 165 :: some 166 :: some 167 :: some 168 :: some 169 :: some 170 :: some 171 :: some 172 :: some 173 :: some 174 :: some 175 :: some 176 :: some 177 :: some 178 :: some 179 :: some 180 :: some 181 :: some 182 :: some 183 :: some 184 :: some 185 :: some 186 :: some 187 :: some 188 :: some 189 :: some 190 :: some 191 :: some 192 :: some 193 :: some 194 :: some 195 :: some 0 :: []
def awDp : List (List Nat) := [] :: [] :: [1] :: [1, 2, 2] :: [3] :: [0, 3, 4, 4] :: [5, 5] :: [6] :: [6, 6] :: [8, 6] :: [8, 9, 9, 6] :: [10, 6] :: [7, 10, 11, 11, 6] :: [6, 12] :: [13, 12] :: [14] :: [14, 14] :: [16, 14] :: [16, 17, 17, 14] :: [18, 14] :: [15, 18, 19, 19, 14] :: [14, 20] :: [21, 20] :: [22] :: [22, 22] :: [24, 22] :: [24, 25, 25, 22] :: [26, 22] :: [23, 26, 27, 27, 22] :: [22, 28] :: [29, 28] :: [30] :: [30, 30] :: [32, 30] :: [32, 33, 33, 30] :: [34, 30] :: [31, 34, 35, 35, 30] :: [30, 36] :: [37, 36] :: [38] :: [38, 38] :: [40, 38] :: [40, 41, 41, 38] :: [42, 38] :: [39, 42, 43, 43, 38] :: [38, 44] :: [45, 44] :: [46] :: [46, 46] :: [48, 46] :: [48, 49, 49, 46] :: [50, 46] :: [47, 50, 51, 51, 46] :: [46, 52] :: [53, 52] :: [54] :: [54, 54] :: [56, 54] :: [56, 57, 57, 54] :: [58, 54] :: [55, 58, 59, 59, 54] :: [54, 60] :: [61, 60] :: [62] :: [62] :: [62, 62] :: [63, 64, 65, 65, 62] :: [62, 66] :: [67, 66] :: [68] :: [68] :: [68, 68] :: [69, 70, 71, 71, 68] :: [68, 72] :: [73, 72] :: [74] :: [74, 74] :: [76, 74] :: [77, 74] :: [76, 77, 78, 78, 74] :: [79, 74] :: [75, 79, 80, 80, 74] :: [74, 81] :: (82 :: 81 :: 0 :: 1 :: 2 :: 3 :: 4 :: 5 :: 6 :: 7 :: 8 :: 9 :: 10 :: 11 :: 12 :: 13 :: 14 :: 15 :: 16 :: 17 :: 18 :: 19 :: 20 :: 21 :: 22 :: 23 :: 24 :: 25 :: 26 :: 27 :: 28 :: 29 :: 30 :: 31 :: 32 :: 33 :: 34 :: 35 :: 36 :: 37 :: 38 :: 39 :: 40 :: 41 :: 42 :: 43 :: 44 :: 45 :: 46 :: 47 :: 48 :: 49 :: 50 :: 51 :: 52 :: 53 :: 54 :: 55 :: 56 :: 57 :: 58 :: 59 :: 60 :: 61 :: 62 :: 63 :: 64 :: 65 :: 66 :: 67 :: 68 :: 69 :: 70 :: 71 :: 72 :: 73 :: 74 :: 75 :: 76 :: 77 :: 78 :: 79 :: 80 :: 81 :: 82 :: []) :: []
def awVs (A10 A12 : Option Addr) (n10 c10 n12 c12 : Nat) : List (Value → World → Prop) := (isV (.func (.func 16) #[] #[])) :: (isW (⟨ofL ⟨#[49, 120, 48, 48]⟩, false⟩ : V)) :: (isW (⟨ofL ⟨#[48, 49, 49, 48]⟩, false⟩ : V)) :: (isW (bwV andI (⟨ofL ⟨#[49, 120, 48, 48]⟩, false⟩ : V) (⟨ofL ⟨#[48, 49, 49, 48]⟩, false⟩ : V))) :: (isW (⟨ofL ⟨#[48, 120, 48, 48]⟩, false⟩ : V)) :: (isV (.bool true)) :: (isV (.bool true)) :: (isV (.func (.func 16) #[] #[])) :: (isW (⟨ofL ⟨#[49, 49, 48, 48]⟩, false⟩ : V)) :: (isW (⟨ofL ⟨#[48, 49, 48, 49]⟩, false⟩ : V)) :: (isW (arV fAdd (⟨ofL ⟨#[49, 49, 48, 48]⟩, false⟩ : V) (⟨ofL ⟨#[48, 49, 48, 49]⟩, false⟩ : V))) :: (isW (⟨ofL ⟨#[48, 48, 48, 49]⟩, false⟩ : V)) :: (isV (.bool true)) :: (isV (.bool true)) :: (isV (.bool true)) :: (isV (.func (.func 16) #[] #[])) :: (isW (⟨ofL ⟨#[49, 120, 48, 48]⟩, false⟩ : V)) :: (isW (⟨ofL ⟨#[48, 48, 48, 49]⟩, false⟩ : V)) :: (isW (arV fAdd (⟨ofL ⟨#[49, 120, 48, 48]⟩, false⟩ : V) (⟨ofL ⟨#[48, 48, 48, 49]⟩, false⟩ : V))) :: (isW (⟨ofL ⟨#[120, 120, 120, 120]⟩, false⟩ : V)) :: (isV (.bool true)) :: (isV (.bool true)) :: (isV (.bool true)) :: (isV (.func (.func 16) #[] #[])) :: (isW (⟨ofL ⟨#[49, 48, 120, 48]⟩, false⟩ : V)) :: (isW (⟨ofL ⟨#[48, 48, 48, 48]⟩, false⟩ : V)) :: (isW (one1 (eqV (⟨ofL ⟨#[49, 48, 120, 48]⟩, false⟩ : V) (⟨ofL ⟨#[48, 48, 48, 48]⟩, false⟩ : V)))) :: (isW (⟨ofL ⟨#[48]⟩, false⟩ : V)) :: (isV (.bool true)) :: (isV (.bool true)) :: (isV (.bool true)) :: (isV (.func (.func 16) #[] #[])) :: (isW (⟨ofL ⟨#[48, 48, 120, 48]⟩, false⟩ : V)) :: (isW (⟨ofL ⟨#[48, 48, 48, 48]⟩, false⟩ : V)) :: (isW (one1 (eqV (⟨ofL ⟨#[48, 48, 120, 48]⟩, false⟩ : V) (⟨ofL ⟨#[48, 48, 48, 48]⟩, false⟩ : V)))) :: (isW (⟨ofL ⟨#[120]⟩, false⟩ : V)) :: (isV (.bool true)) :: (isV (.bool true)) :: (isV (.bool true)) :: (isV (.func (.func 16) #[] #[])) :: (isW (⟨ofL ⟨#[49, 120, 48, 48]⟩, false⟩ : V)) :: (isW (⟨ofL ⟨#[49, 120, 48, 48]⟩, false⟩ : V)) :: (isW (one1 (fromI (mtB noW (⟨ofL ⟨#[49, 120, 48, 48]⟩, false⟩ : V) (⟨ofL ⟨#[49, 120, 48, 48]⟩, false⟩ : V))))) :: (isW (⟨ofL ⟨#[49]⟩, false⟩ : V)) :: (isV (.bool true)) :: (isV (.bool true)) :: (isV (.bool true)) :: (isV (.func (.func 16) #[] #[])) :: (isW (fromV (-3) 4 true)) :: (isW (fromV (2) 4 true)) :: (isW (divV true (fromV (-3) 4 true) (fromV (2) 4 true))) :: (isW (fromV (-1) 4 true)) :: (isV (.bool true)) :: (isV (.bool true)) :: (isV (.bool true)) :: (isV (.func (.func 16) #[] #[])) :: (isW (⟨ofL ⟨#[49, 48, 48, 48]⟩, true⟩ : V)) :: (isW (⟨ofL ⟨#[49]⟩, false⟩ : V)) :: (isW (shV frR (fill (nrm (⟨ofL ⟨#[49, 48, 48, 48]⟩, true⟩ : V))) (⟨ofL ⟨#[49, 48, 48, 48]⟩, true⟩ : V) (⟨ofL ⟨#[49]⟩, false⟩ : V))) :: (isW (⟨ofL ⟨#[49, 49, 48, 48]⟩, true⟩ : V)) :: (isV (.bool true)) :: (isV (.bool true)) :: (isV (.bool true)) :: (isV (.func (.func 16) #[] #[])) :: (isV (.agg #[.slice A10 n10 c10, .bool vBoth.s])) :: (isW (⟨ofL ⟨#[49, 48, 48, 122, 49]⟩, false⟩ : V)) :: (isV (.bool true)) :: (isV (.bool true)) :: (isV (.bool true)) :: (isV (.func (.func 16) #[] #[])) :: (isV (.agg #[.slice A12 n12 c12, .bool vPart.s])) :: (isW (⟨ofL ⟨#[120, 49, 48]⟩, false⟩ : V)) :: (isV (.bool true)) :: (isV (.bool true)) :: (isV (.bool true)) :: (isV (.func (.func 16) #[] #[])) :: (isW (⟨ofL ⟨#[120]⟩, false⟩ : V)) :: (isW (⟨ofL ⟨#[49, 48, 49, 48]⟩, false⟩ : V)) :: (isW (⟨ofL ⟨#[49, 48, 48, 49]⟩, false⟩ : V)) :: (isW (condV (⟨ofL ⟨#[120]⟩, false⟩ : V) (⟨ofL ⟨#[49, 48, 49, 48]⟩, false⟩ : V) (⟨ofL ⟨#[49, 48, 48, 49]⟩, false⟩ : V))) :: (isW (⟨ofL ⟨#[49, 48, 120, 120]⟩, false⟩ : V)) :: (isV (.bool true)) :: (isV (.bool true)) :: (isV (.bool true)) :: []
instance (A10 A12 : Option Addr) (n10 c10 n12 c12 : Nat) : StVs (awVs A10 A12 n10 c10 n12 c12) := by unfold awVs; exact by repeat (first | exact stvs_nil | refine stvs_cons inferInstance ?_)
end Go.Proofs.YtgojnpblhfbdpaaGreatDoor
