/-
  A statement 'x, y := f(a), g(b)' whose order is open: two calls that make memory, two new variables of a struct type. Whatever order is drawn, the variables lie in blocks of their own and hold the results. Conditions: as listed in 'two_calls'. Any program.
-/
import Derived.Test.YtjfhhlbgiepkpaaDoorLib
import Derived.Orders
import Derived.Laws.Tables
import Derived.Laws.Rows
namespace Go.Proofs.YtjfhhlbgiepkpaaDoor
open Go Go.RowKit

section
variable {P : Program} {ops : Array Oper} {Q : Exit → Act → World → Prop}
/-- An invariant of whatever order. -/
theorem wpAny_inv {md : Region.Mode} {I : Array Bool → Act → World → Prop} (hs : ∀ listed a w i, i ∈ Region.ready md ops listed → I listed a w → wpOp P ops Q i (I (listed.setIfInBounds i true)) a w)
    (he : ∀ listed a w, Region.ready md ops listed = [] → I listed a w → Q .normal a w) (hz : ∀ listed a w, I listed a w → listed.size = ops.size) : ∀ (fuel : Nat) (listed : Array Bool) (a : Act) (w : World), (listed.toList.countP (! ·)) ≤ fuel → I listed a w → wpAny P md ops Q fuel listed a w
  | 0, listed, a, w, hc, hI => by
    have hr : Region.ready md ops listed = [] := by
      rw [List.eq_nil_iff_forall_not_mem]
      intro i hi
      obtain ⟨h0, o, ho, _⟩ := mem_ready.1 hi
      have hlt : i < listed.size := by rw [hz _ _ _ hI]; exact (Array.getElem?_eq_some_iff.1 ho).1
      have : 0 < listed.toList.countP (! ·) := List.countP_pos_iff.2 ⟨listed[i], by simp, by simpa [hlt] using h0⟩
      omega
    exact ⟨hr, he _ _ _ hr hI⟩
  | fuel + 1, listed, a, w, hc, hI => ⟨fun hr => he _ _ _ hr hI, fun i hi => wpOp_mono (fun a' w' h' => wpAny_inv hs he hz fuel _ a' w' (by
      obtain ⟨h0, o, ho, _⟩ := mem_ready.1 hi
      have hlt : i < listed.size := by rw [hz _ _ _ hI]; exact (Array.getElem?_eq_some_iff.1 ho).1
      have h0' : listed[i] = false := by simpa [hlt] using h0
      have e : (!listed.toList[i]'(by simpa using hlt)) = true := by simpa using h0'
      rw [Array.toList_setIfInBounds, List.countP_set (p := (! ·)) (l := listed.toList) (i := i) (a := true) (by simpa using hlt), if_pos e, if_neg (by simp)]
      omega) h') (hs _ _ _ i hi hI)⟩
theorem wp_call_one {o : Oper} {a : Act} {w : World} {K : Act → World → Prop} {F : FuncId} {x : Operand} {ats : Array TypeId} {v : Value} (ho : o.op = .call { callee := .value (.func F), args := #[x], argTypes := ats })
    (hin : ∀ args u, (callFunc F args).run P u = .ok (.enter F args) u) (h : Calls P F #[a.eval x] w fun e w' => e = .returned v ∧ K (a.put o.dst v) w') : o.wp P a w K Q := by
  unfold Oper.wp
  obtain ⟨dst, op, ty, pos, after, guard⟩ := o
  simp only at ho
  subst ho
  rw [execOp_call_go, hin, Oper.upon_enter, show (#[] ++ #[x].map a.eval ++ #[] : Array Value) = #[a.eval x] by simp]
  refine h.mono ?_
  rintro e w' ⟨rfl, hk⟩
  exact hk
theorem wp_alloc_one {o : Oper} {a : Act} {w : World} {K : Act → World → Prop} {t : TypeId} {z : Array Value} (ho : o.op = .alloc t) (hal : ∀ u, (Instr.alloc t true (.tuple #[])).run P u = .ok (.pointer (some ⟨u.heap.size, 0, none⟩)) (u.alloc (.cells z t)))
    (h : K (a.put o.dst (.pointer (some ⟨w.heap.size, 0, none⟩))) (w.alloc (.cells z t))) : o.wp P a w K Q := by
  unfold Oper.wp execOp
  simp only [ho, Sem.run_bind, hal, Result.andThen_ok, Sem.run_pure]
  exact h
theorem below_row {w b : World} (h : Below w.heap.size w b) {g : Nat} (hg : w.heap.size ≤ g) (cs : Array Value) : Below w.heap.size w (b.setRow g cs) :=
  ⟨h.os, h.tape, h.output, by simpa [World.setRow] using h.size, fun k hk => by
    rw [← h.block k hk]
    simp only [World.setRow, Array.getElem?_modify]
    rw [if_neg (by omega)]⟩
theorem Own.row {w : World} {g : Nat} {t : TypeId} {old cs : Array Value} (h : Own w g t old) : Own (w.setRow g cs) g t cs := setRow_heap w g old cs t (0, 0) h
theorem Own.rowFar {w : World} {g k : Nat} {t : TypeId} {old cs : Array Value} (h : Own w g t old) (hk : k ≠ g) : Own (w.setRow k cs) g t old := by
  unfold Own at *
  rw [← h]
  simp only [World.setRow, Array.getElem?_modify]
  rw [if_neg hk]

/-- What stands after some of the eight operations. -/
structure TwoI (a0 : Act) (W : World) (sa sb d0 d1 d2 d3 d4 d5 : Tmp) (va v1 vb v3 : Value) (t : TypeId) (z c1 c3 : Array Value) (L : Array Bool) (a : Act) (w : World) : Prop where
  lsz : L.size = 8
  tsz : a.tmps.size = a0.tmps.size
  dfr : a.defers = a0.defers
  bel : Below W.heap.size W w
  old : ∀ k, k ≠ d0 → k ≠ d1 → k ≠ d2 → k ≠ d3 → k ≠ d4 → k ≠ d5 → a.tmps[k]? = a0.tmps[k]?
  s0 : L.getD 0 false = true → a.tmps[d0]? = some va
  s1 : L.getD 1 false = true → a.tmps[d1]? = some v1
  s2 : L.getD 2 false = true → a.tmps[d2]? = some vb
  s3 : L.getD 3 false = true → a.tmps[d3]? = some v3
  s4 : L.getD 4 false = true → ∃ g, a.tmps[d4]? = some (.pointer (some ⟨g, 0, none⟩)) ∧ W.heap.size ≤ g ∧ Own w g t (if L.getD 6 false = true then c1 else z)
  s5 : L.getD 5 false = true → ∃ g, a.tmps[d5]? = some (.pointer (some ⟨g, 0, none⟩)) ∧ W.heap.size ≤ g ∧ Own w g t (if L.getD 7 false = true then c3 else z)
  ne : L.getD 4 false = true → L.getD 5 false = true → a.tmps[d4]? ≠ a.tmps[d5]?
  l6 : L.getD 6 false = true → L.getD 4 false = true
  l7 : L.getD 7 false = true → L.getD 5 false = true

theorem ev {a : Act} {d : Tmp} {v : Value} (h : a.tmps[d]? = some v) : a.eval (.tmp d) = v := by simp [Act.eval, h]
theorem put_tmps (a : Act) (d : Tmp) (v : Value) (k : Nat) (hd : d < a.tmps.size) : (a.put (some d) v).tmps[k]? = if k = d then some v else a.tmps[k]? := by
  simp only [Act.put]
  by_cases h : k = d
  · subst h; rw [if_pos rfl, Array.getElem?_setIfInBounds_self_of_lt hd]
  · rw [if_neg h, Array.getElem?_setIfInBounds_ne (Ne.symm h)]
theorem getD_set (L : Array Bool) (i j : Nat) (h : L.size = 8) (hi : i < 8) : (L.setIfInBounds i true).getD j false = if j = i then true else L.getD j false := by
  by_cases hj : j = i
  · subst hj; rw [if_pos rfl]; simp [h, hi]
  · rw [if_neg hj, getD_set_ne false (Ne.symm hj)]
/-- One operation of a plain form, in whatever order. -/
theorem op_wanted {i : Nat} {o : Oper} {K : Act → World → Prop} {a : Act} {w : World} (ho : ops[i]? = some o) (hg : o.guard = none) (h : o.wp P a w K Q) : wpOp P ops Q i K a w := by
  unfold wpOp
  rw [ho]
  simp only [Region.wanted, hg, if_true]
  exact .inl h
theorem two_step {a0 : Act} {W : World} {sa sb d0 d1 d2 d3 d4 d5 : Tmp} {ta t : TypeId} {z ca cb c1 c3 : Array Value} {F G : FuncId} {ats bts : Array TypeId} {ga gb : Nat} {da : TypeDesc}
    (o0 o1 o2 o3 o4 o5 o6 o7 : Oper) (hops : ops = #[o0, o1, o2, o3, o4, o5, o6, o7])
    (g0 : o0.op = .load ta (.tmp sa) ∧ o0.dst = some d0 ∧ o0.guard = none)
    (g1 : o1.op = .call { callee := .value (.func F), args := #[.tmp d0], argTypes := ats } ∧ o1.dst = some d1 ∧ o1.guard = none)
    (g2 : o2.op = .load ta (.tmp sb) ∧ o2.dst = some d2 ∧ o2.guard = none)
    (g3 : o3.op = .call { callee := .value (.func G), args := #[.tmp d2], argTypes := bts } ∧ o3.dst = some d3 ∧ o3.guard = none)
    (g4 : o4.op = .alloc t ∧ o4.dst = some d4 ∧ o4.guard = none) (g5 : o5.op = .alloc t ∧ o5.dst = some d5 ∧ o5.guard = none)
    (g6 : o6.op = .store t (.tmp d4) (.tmp d1) ∧ o6.dst = none ∧ o6.guard = none) (g7 : o7.op = .store t (.tmp d5) (.tmp d3) ∧ o7.dst = none ∧ o7.guard = none)
    (e1 : (o1.after.any fun e => Region.binds .any e && e.on == 0) = true) (e3 : (o3.after.any fun e => Region.binds .any e && e.on == 2) = true)
    (e6 : ((o6.after.any fun e => Region.binds .any e && e.on == 1) && (o6.after.any fun e => Region.binds .any e && e.on == 4)) = true) (e7 : ((o7.after.any fun e => Region.binds .any e && e.on == 3) && (o7.after.any fun e => Region.binds .any e && e.on == 5)) = true)
    (nd : [d0, d1, d2, d3, d4, d5].Nodup) (nsa : sa ∉ [d0, d1, d2, d3, d4, d5]) (nsb : sb ∉ [d0, d1, d2, d3, d4, d5]) (hlt : ∀ d ∈ [d0, d1, d2, d3, d4, d5], d < a0.tmps.size)
    (ha : a0.tmps[sa]? = some (.pointer (some ⟨ga, 0, none⟩))) (hb : a0.tmps[sb]? = some (.pointer (some ⟨gb, 0, none⟩)))
    (oa : Own W ga ta ca) (ob : Own W gb ta cb) (hua : P.underlying ta = some da) (hda : (match da with | .struct _ | .array _ _ => true | _ => false) = true) (hia : (P.info? ta).map (·.size) = some ca.size) (hib : (P.info? ta).map (·.size) = some cb.size)
    (it1 : (P.info? t).map (·.size) = some c1.size) (it3 : (P.info? t).map (·.size) = some c3.size) (zs1 : z.size = c1.size) (zs3 : z.size = c3.size) (one1 : c1.all (·.oneCell') = true) (one3 : c3.all (·.oneCell') = true)
    (hal : ∀ u, (Instr.alloc t true (.tuple #[])).run P u = .ok (.pointer (some ⟨u.heap.size, 0, none⟩)) (u.alloc (.cells z t)))
    (hF : ∀ args u, (callFunc F args).run P u = .ok (.enter F args) u) (hG : ∀ args u, (callFunc G args).run P u = .ok (.enter G args) u)
    (cF : ∀ u, Calls P F #[.agg ca] u fun e w' => e = .returned (.agg c1) ∧ Below u.heap.size u w') (cG : ∀ u, Calls P G #[.agg cb] u fun e w' => e = .returned (.agg c3) ∧ Below u.heap.size u w')
    (L : Array Bool) (a : Act) (w : World) (i : Nat) (hi : i ∈ Region.ready .any ops L) (I : TwoI a0 W sa sb d0 d1 d2 d3 d4 d5 (.agg ca) (.agg c1) (.agg cb) (.agg c3) t z c1 c3 L a w) :
    wpOp P ops Q i (TwoI a0 W sa sb d0 d1 d2 d3 d4 d5 (.agg ca) (.agg c1) (.agg cb) (.agg c3) t z c1 c3 (L.setIfInBounds i true)) a w := by
  obtain ⟨hun, o, ho, hall⟩ := mem_ready.1 hi
  have hi8 : i < 8 := by have := (Array.getElem?_eq_some_iff.1 ho).1; rw [hops] at this; simpa using this
  have dep : ∀ {p : Oper} {n : Nat}, o = p → (p.after.any fun e => Region.binds .any e && e.on == n) = true → L.getD n false = true := by
    intro p n hp h
    subst hp
    obtain ⟨e, he, hb⟩ := Array.any_eq_true'.1 h
    simp only [Bool.and_eq_true, beq_iff_eq] at hb
    exact hb.2 ▸ hall e he hb.1
  simp only [List.nodup_cons, List.mem_cons, List.not_mem_nil, or_false, not_or, List.nodup_nil, and_true, not_false_eq_true] at nd nsa nsb
  obtain ⟨⟨n01, n02, n03, n04, n05⟩, ⟨n12, n13, n14, n15⟩, ⟨n23, n24, n25⟩, ⟨n34, n35⟩, n45⟩ := nd
  have l0 : d0 < a.tmps.size := by rw [I.tsz]; exact hlt _ (by simp)
  have l1 : d1 < a.tmps.size := by rw [I.tsz]; exact hlt _ (by simp)
  have l2 : d2 < a.tmps.size := by rw [I.tsz]; exact hlt _ (by simp)
  have l3 : d3 < a.tmps.size := by rw [I.tsz]; exact hlt _ (by simp)
  have l4 : d4 < a.tmps.size := by rw [I.tsz]; exact hlt _ (by simp)
  have l5 : d5 < a.tmps.size := by rw [I.tsz]; exact hlt _ (by simp)
  have hsa : a.tmps[sa]? = some (.pointer (some ⟨ga, 0, none⟩)) := by rw [I.old sa nsa.1 nsa.2.1 nsa.2.2.1 nsa.2.2.2.1 nsa.2.2.2.2.1 nsa.2.2.2.2.2]; exact ha
  have hsb : a.tmps[sb]? = some (.pointer (some ⟨gb, 0, none⟩)) := by rw [I.old sb nsb.1 nsb.2.1 nsb.2.2.1 nsb.2.2.2.1 nsb.2.2.2.2.1 nsb.2.2.2.2.2]; exact hb
  have oa' := oa.below I.bel oa.lt
  have ob' := ob.below I.bel ob.lt
  clear nsa nsb hlt
  have m10 : ¬ d1 = d0 := fun e => n01 e.symm
  have m20 : ¬ d2 = d0 := fun e => n02 e.symm
  have m30 : ¬ d3 = d0 := fun e => n03 e.symm
  have m40 : ¬ d4 = d0 := fun e => n04 e.symm
  have m50 : ¬ d5 = d0 := fun e => n05 e.symm
  have m21 : ¬ d2 = d1 := fun e => n12 e.symm
  have m31 : ¬ d3 = d1 := fun e => n13 e.symm
  have m41 : ¬ d4 = d1 := fun e => n14 e.symm
  have m51 : ¬ d5 = d1 := fun e => n15 e.symm
  have m32 : ¬ d3 = d2 := fun e => n23 e.symm
  have m42 : ¬ d4 = d2 := fun e => n24 e.symm
  have m52 : ¬ d5 = d2 := fun e => n25 e.symm
  have m43 : ¬ d4 = d3 := fun e => n34 e.symm
  have m53 : ¬ d5 = d3 := fun e => n35 e.symm
  have m54 : ¬ d5 = d4 := fun e => n45 e.symm
  have m10 : ¬ d1 = d0 := fun e => n01 e.symm
  have m20 : ¬ d2 = d0 := fun e => n02 e.symm
  have m30 : ¬ d3 = d0 := fun e => n03 e.symm
  have m40 : ¬ d4 = d0 := fun e => n04 e.symm
  have m50 : ¬ d5 = d0 := fun e => n05 e.symm
  have m21 : ¬ d2 = d1 := fun e => n12 e.symm
  have m31 : ¬ d3 = d1 := fun e => n13 e.symm
  have m41 : ¬ d4 = d1 := fun e => n14 e.symm
  have m51 : ¬ d5 = d1 := fun e => n15 e.symm
  have m32 : ¬ d3 = d2 := fun e => n23 e.symm
  have m42 : ¬ d4 = d2 := fun e => n24 e.symm
  have m52 : ¬ d5 = d2 := fun e => n25 e.symm
  have m43 : ¬ d4 = d3 := fun e => n34 e.symm
  have m53 : ¬ d5 = d3 := fun e => n35 e.symm
  have m54 : ¬ d5 = d4 := fun e => n45 e.symm
  have hcases : i = 0 ∨ i = 1 ∨ i = 2 ∨ i = 3 ∨ i = 4 ∨ i = 5 ∨ i = 6 ∨ i = 7 := by omega
  rcases hcases with rfl | rfl | rfl | rfl | rfl | rfl | rfl | rfl
  · have ho' : ops[0]? = some o0 := by rw [hops]; rfl
    refine op_wanted ho' g0.2.2 (wp_load_row ta (.tmp sa) g0.1 ga (ev hsa) ta ca (0, 0) da oa' hua hda hia ?_)
    rw [g0.2.1]
    have GG := fun j => getD_set L 0 j I.lsz (by decide)
    have G6 : (L.setIfInBounds 0 true).getD 6 false = L.getD 6 false := by rw [GG]; rw [if_neg (by decide)]
    have G7 : (L.setIfInBounds 0 true).getD 7 false = L.getD 7 false := by rw [GG]; rw [if_neg (by decide)]
    have P := fun k => put_tmps a d0 (.agg ca) k l0
    refine ⟨by simpa using I.lsz, by simpa [Act.put] using I.tsz, I.dfr, I.bel, fun k h0 h1 h2 h3 h4 h5 => by rw [P, if_neg h0]; exact I.old k h0 h1 h2 h3 h4 h5, ?_, ?_, ?_, ?_, ?_, ?_, ?_, ?_, ?_⟩
    · intro _; rw [P, if_pos rfl]
    · intro h; rw [GG, if_neg (by decide)] at h; rw [P, if_neg m10]; exact I.s1 h
    · intro h; rw [GG, if_neg (by decide)] at h; rw [P, if_neg m20]; exact I.s2 h
    · intro h; rw [GG, if_neg (by decide)] at h; rw [P, if_neg m30]; exact I.s3 h
    · intro h; rw [GG, if_neg (by decide)] at h; obtain ⟨g, e, hg, hO⟩ := I.s4 h; exact ⟨g, by rw [P, if_neg m40]; exact e, hg, by rw [G6]; exact hO⟩
    · intro h; rw [GG, if_neg (by decide)] at h; obtain ⟨g, e, hg, hO⟩ := I.s5 h; exact ⟨g, by rw [P, if_neg m50]; exact e, hg, by rw [G7]; exact hO⟩
    · intro h h'; rw [GG, if_neg (by decide)] at h h'; rw [P, P, if_neg m40, if_neg m50]; exact I.ne h h'
    · intro h; rw [GG, if_neg (by decide)] at h ⊢; exact I.l6 h
    · intro h; rw [GG, if_neg (by decide)] at h ⊢; exact I.l7 h
  · have ho' : ops[1]? = some o1 := by rw [hops]; rfl
    have h0 := I.s0 (dep (Option.some.inj (ho.symm.trans ho')) e1)
    refine op_wanted ho' g1.2.2 (wp_call_one (v := .agg c1) g1.1 hF ?_)
    rw [ev h0]
    refine (cF w).mono ?_
    rintro e w' ⟨rfl, hb1⟩
    refine ⟨rfl, ?_⟩
    rw [g1.2.1]
    have GG := fun j => getD_set L 1 j I.lsz (by decide)
    have G6 : (L.setIfInBounds 1 true).getD 6 false = L.getD 6 false := by rw [GG]; rw [if_neg (by decide)]
    have G7 : (L.setIfInBounds 1 true).getD 7 false = L.getD 7 false := by rw [GG]; rw [if_neg (by decide)]
    have P := fun k => put_tmps a d1 (.agg c1) k l1
    refine ⟨by simpa using I.lsz, by simpa [Act.put] using I.tsz, I.dfr, below_step I.bel hb1, fun k h0 h1 h2 h3 h4 h5 => by rw [P, if_neg h1]; exact I.old k h0 h1 h2 h3 h4 h5, ?_, ?_, ?_, ?_, ?_, ?_, ?_, ?_, ?_⟩
    · intro h; rw [GG, if_neg (by decide)] at h; rw [P, if_neg n01]; exact I.s0 h
    · intro _; rw [P, if_pos rfl]
    · intro h; rw [GG, if_neg (by decide)] at h; rw [P, if_neg m21]; exact I.s2 h
    · intro h; rw [GG, if_neg (by decide)] at h; rw [P, if_neg m31]; exact I.s3 h
    · intro h; rw [GG, if_neg (by decide)] at h; obtain ⟨g, e, hg, hO⟩ := I.s4 h; exact ⟨g, by rw [P, if_neg m41]; exact e, hg, by rw [G6]; exact hO.step hb1⟩
    · intro h; rw [GG, if_neg (by decide)] at h; obtain ⟨g, e, hg, hO⟩ := I.s5 h; exact ⟨g, by rw [P, if_neg m51]; exact e, hg, by rw [G7]; exact hO.step hb1⟩
    · intro h h'; rw [GG, if_neg (by decide)] at h h'; rw [P, P, if_neg m41, if_neg m51]; exact I.ne h h'
    · intro h; rw [GG, if_neg (by decide)] at h ⊢; exact I.l6 h
    · intro h; rw [GG, if_neg (by decide)] at h ⊢; exact I.l7 h
  · have ho' : ops[2]? = some o2 := by rw [hops]; rfl
    refine op_wanted ho' g2.2.2 (wp_load_row ta (.tmp sb) g2.1 gb (ev hsb) ta cb (0, 0) da ob' hua hda hib ?_)
    rw [g2.2.1]
    have GG := fun j => getD_set L 2 j I.lsz (by decide)
    have G6 : (L.setIfInBounds 2 true).getD 6 false = L.getD 6 false := by rw [GG]; rw [if_neg (by decide)]
    have G7 : (L.setIfInBounds 2 true).getD 7 false = L.getD 7 false := by rw [GG]; rw [if_neg (by decide)]
    have P := fun k => put_tmps a d2 (.agg cb) k l2
    refine ⟨by simpa using I.lsz, by simpa [Act.put] using I.tsz, I.dfr, I.bel, fun k h0 h1 h2 h3 h4 h5 => by rw [P, if_neg h2]; exact I.old k h0 h1 h2 h3 h4 h5, ?_, ?_, ?_, ?_, ?_, ?_, ?_, ?_, ?_⟩
    · intro h; rw [GG, if_neg (by decide)] at h; rw [P, if_neg n02]; exact I.s0 h
    · intro h; rw [GG, if_neg (by decide)] at h; rw [P, if_neg n12]; exact I.s1 h
    · intro _; rw [P, if_pos rfl]
    · intro h; rw [GG, if_neg (by decide)] at h; rw [P, if_neg m32]; exact I.s3 h
    · intro h; rw [GG, if_neg (by decide)] at h; obtain ⟨g, e, hg, hO⟩ := I.s4 h; exact ⟨g, by rw [P, if_neg m42]; exact e, hg, by rw [G6]; exact hO⟩
    · intro h; rw [GG, if_neg (by decide)] at h; obtain ⟨g, e, hg, hO⟩ := I.s5 h; exact ⟨g, by rw [P, if_neg m52]; exact e, hg, by rw [G7]; exact hO⟩
    · intro h h'; rw [GG, if_neg (by decide)] at h h'; rw [P, P, if_neg m42, if_neg m52]; exact I.ne h h'
    · intro h; rw [GG, if_neg (by decide)] at h ⊢; exact I.l6 h
    · intro h; rw [GG, if_neg (by decide)] at h ⊢; exact I.l7 h
  · have ho' : ops[3]? = some o3 := by rw [hops]; rfl
    have h0 := I.s2 (dep (Option.some.inj (ho.symm.trans ho')) e3)
    refine op_wanted ho' g3.2.2 (wp_call_one (v := .agg c3) g3.1 hG ?_)
    rw [ev h0]
    refine (cG w).mono ?_
    rintro e w' ⟨rfl, hb1⟩
    refine ⟨rfl, ?_⟩
    rw [g3.2.1]
    have GG := fun j => getD_set L 3 j I.lsz (by decide)
    have G6 : (L.setIfInBounds 3 true).getD 6 false = L.getD 6 false := by rw [GG]; rw [if_neg (by decide)]
    have G7 : (L.setIfInBounds 3 true).getD 7 false = L.getD 7 false := by rw [GG]; rw [if_neg (by decide)]
    have P := fun k => put_tmps a d3 (.agg c3) k l3
    refine ⟨by simpa using I.lsz, by simpa [Act.put] using I.tsz, I.dfr, below_step I.bel hb1, fun k h0 h1 h2 h3 h4 h5 => by rw [P, if_neg h3]; exact I.old k h0 h1 h2 h3 h4 h5, ?_, ?_, ?_, ?_, ?_, ?_, ?_, ?_, ?_⟩
    · intro h; rw [GG, if_neg (by decide)] at h; rw [P, if_neg n03]; exact I.s0 h
    · intro h; rw [GG, if_neg (by decide)] at h; rw [P, if_neg n13]; exact I.s1 h
    · intro h; rw [GG, if_neg (by decide)] at h; rw [P, if_neg n23]; exact I.s2 h
    · intro _; rw [P, if_pos rfl]
    · intro h; rw [GG, if_neg (by decide)] at h; obtain ⟨g, e, hg, hO⟩ := I.s4 h; exact ⟨g, by rw [P, if_neg m43]; exact e, hg, by rw [G6]; exact hO.step hb1⟩
    · intro h; rw [GG, if_neg (by decide)] at h; obtain ⟨g, e, hg, hO⟩ := I.s5 h; exact ⟨g, by rw [P, if_neg m53]; exact e, hg, by rw [G7]; exact hO.step hb1⟩
    · intro h h'; rw [GG, if_neg (by decide)] at h h'; rw [P, P, if_neg m43, if_neg m53]; exact I.ne h h'
    · intro h; rw [GG, if_neg (by decide)] at h ⊢; exact I.l6 h
    · intro h; rw [GG, if_neg (by decide)] at h ⊢; exact I.l7 h
  · have ho' : ops[4]? = some o4 := by rw [hops]; rfl
    refine op_wanted ho' g4.2.2 (wp_alloc_one (z := z) g4.1 hal ?_)
    rw [g4.2.1]
    have hf : L.getD 4 false = false := by
      cases hc : L.getD 4 false with
      | false => rfl
      | true =>
        have : 4 < L.size := by rw [I.lsz]; decide
        simp [this] at hun hc
        rw [hun] at hc
        cases hc
    have hl : L.getD 6 false = false := by
      cases hc : L.getD 6 false with
      | false => rfl
      | true => rw [I.l6 hc] at hf; cases hf
    have GG := fun j => getD_set L 4 j I.lsz (by decide)
    have G6 : (L.setIfInBounds 4 true).getD 6 false = L.getD 6 false := by rw [GG]; rw [if_neg (by decide)]
    have G7 : (L.setIfInBounds 4 true).getD 7 false = L.getD 7 false := by rw [GG]; rw [if_neg (by decide)]
    have P := fun k => put_tmps a d4 (.pointer (some ⟨w.heap.size, 0, none⟩)) k l4
    refine ⟨by simpa using I.lsz, by simpa [Act.put] using I.tsz, I.dfr, below_new I.bel _, fun k h0 h1 h2 h3 h4 h5 => by rw [P, if_neg h4]; exact I.old k h0 h1 h2 h3 h4 h5, ?_, ?_, ?_, ?_, ?_, ?_, ?_, ?_, ?_⟩
    · intro h; rw [GG, if_neg (by decide)] at h; rw [P, if_neg n04]; exact I.s0 h
    · intro h; rw [GG, if_neg (by decide)] at h; rw [P, if_neg n14]; exact I.s1 h
    · intro h; rw [GG, if_neg (by decide)] at h; rw [P, if_neg n24]; exact I.s2 h
    · intro h; rw [GG, if_neg (by decide)] at h; rw [P, if_neg n34]; exact I.s3 h
    · intro _; exact ⟨w.heap.size, by rw [P, if_pos rfl], I.bel.size, by rw [G6, hl]; exact Own.new w t z⟩
    · intro h; rw [GG, if_neg (by decide)] at h; obtain ⟨g, e, hg, hO⟩ := I.s5 h; exact ⟨g, by rw [P, if_neg m54]; exact e, hg, by rw [G7]; exact hO.alloc _⟩
    · intro h h'
      rw [GG] at h h'
      obtain ⟨g, e, hg, hO⟩ := I.s5 (by simpa using h')
      rw [P, P, if_pos rfl, if_neg m54, e]
      intro he
      have := hO.lt
      simp at he
      (try omega)
    · intro h; rw [GG, if_neg (by decide)] at h; rw [GG]; split <;> first | rfl | exact I.l6 h
    · intro h; rw [GG, if_neg (by decide)] at h; rw [GG]; split <;> first | rfl | exact I.l7 h
  · have ho' : ops[5]? = some o5 := by rw [hops]; rfl
    refine op_wanted ho' g5.2.2 (wp_alloc_one (z := z) g5.1 hal ?_)
    rw [g5.2.1]
    have hf : L.getD 5 false = false := by
      cases hc : L.getD 5 false with
      | false => rfl
      | true =>
        have : 5 < L.size := by rw [I.lsz]; decide
        simp [this] at hun hc
        rw [hun] at hc
        cases hc
    have hl : L.getD 7 false = false := by
      cases hc : L.getD 7 false with
      | false => rfl
      | true => rw [I.l7 hc] at hf; cases hf
    have GG := fun j => getD_set L 5 j I.lsz (by decide)
    have G6 : (L.setIfInBounds 5 true).getD 6 false = L.getD 6 false := by rw [GG]; rw [if_neg (by decide)]
    have G7 : (L.setIfInBounds 5 true).getD 7 false = L.getD 7 false := by rw [GG]; rw [if_neg (by decide)]
    have P := fun k => put_tmps a d5 (.pointer (some ⟨w.heap.size, 0, none⟩)) k l5
    refine ⟨by simpa using I.lsz, by simpa [Act.put] using I.tsz, I.dfr, below_new I.bel _, fun k h0 h1 h2 h3 h4 h5 => by rw [P, if_neg h5]; exact I.old k h0 h1 h2 h3 h4 h5, ?_, ?_, ?_, ?_, ?_, ?_, ?_, ?_, ?_⟩
    · intro h; rw [GG, if_neg (by decide)] at h; rw [P, if_neg n05]; exact I.s0 h
    · intro h; rw [GG, if_neg (by decide)] at h; rw [P, if_neg n15]; exact I.s1 h
    · intro h; rw [GG, if_neg (by decide)] at h; rw [P, if_neg n25]; exact I.s2 h
    · intro h; rw [GG, if_neg (by decide)] at h; rw [P, if_neg n35]; exact I.s3 h
    · intro h; rw [GG, if_neg (by decide)] at h; obtain ⟨g, e, hg, hO⟩ := I.s4 h; exact ⟨g, by rw [P, if_neg n45]; exact e, hg, by rw [G6]; exact hO.alloc _⟩
    · intro _; exact ⟨w.heap.size, by rw [P, if_pos rfl], I.bel.size, by rw [G7, hl]; exact Own.new w t z⟩
    · intro h h'
      rw [GG] at h h'
      obtain ⟨g, e, hg, hO⟩ := I.s4 (by simpa using h)
      rw [P, P, if_neg n45, if_pos rfl, e]
      intro he
      have := hO.lt
      simp at he
      (try omega)
    · intro h; rw [GG, if_neg (by decide)] at h; rw [GG]; split <;> first | rfl | exact I.l6 h
    · intro h; rw [GG, if_neg (by decide)] at h; rw [GG]; split <;> first | rfl | exact I.l7 h
  · have ho' : ops[6]? = some o6 := by rw [hops]; rfl
    have he := e6
    simp only [Bool.and_eq_true] at he
    have h1 := I.s1 (dep (Option.some.inj (ho.symm.trans ho')) he.1)
    have hk := dep (Option.some.inj (ho.symm.trans ho')) he.2
    obtain ⟨g, eg, hg, hO⟩ := I.s4 hk
    have hsz : (if L.getD 6 false = true then c1 else z).size = c1.size := by split <;> first | rfl | assumption
    refine op_wanted ho' g6.2.2 (wp_store_row t (.tmp d4) (.tmp d1) g6.1 g c1 (ev eg) (ev h1) t _ hO it1 hsz one1 ?_)
    rw [g6.2.1]
    have GG := fun j => getD_set L 6 j I.lsz (by decide)
    have G6 : (L.setIfInBounds 6 true).getD 6 false = true := by rw [GG]; rfl
    have G7 : (L.setIfInBounds 6 true).getD 7 false = L.getD 7 false := by rw [GG]; rw [if_neg (by decide)]
    refine ⟨by simpa using I.lsz, I.tsz, I.dfr, below_row I.bel hg _, I.old, ?_, ?_, ?_, ?_, ?_, ?_, ?_, ?_, ?_⟩
    · intro h; rw [GG, if_neg (by decide)] at h; exact I.s0 h
    · intro h; rw [GG, if_neg (by decide)] at h; exact I.s1 h
    · intro h; rw [GG, if_neg (by decide)] at h; exact I.s2 h
    · intro h; rw [GG, if_neg (by decide)] at h; exact I.s3 h
    · intro _; exact ⟨g, eg, hg, by rw [G6]; exact hO.row⟩
    · intro h
      rw [GG, if_neg (by decide)] at h
      obtain ⟨g', e', hg', hO'⟩ := I.s5 h
      refine ⟨g', e', hg', ?_⟩
      rw [G7]
      refine hO'.rowFar (fun e => ?_)
      subst e
      exact I.ne hk h (eg.trans e'.symm)
    · intro h h'; rw [GG, if_neg (by decide)] at h h'; exact I.ne h h'
    · intro _; rw [GG, if_neg (by decide)]; exact hk
    · intro h; rw [GG, if_neg (by decide)] at h ⊢; exact I.l7 h
  · have ho' : ops[7]? = some o7 := by rw [hops]; rfl
    have he := e7
    simp only [Bool.and_eq_true] at he
    have h1 := I.s3 (dep (Option.some.inj (ho.symm.trans ho')) he.1)
    have hk := dep (Option.some.inj (ho.symm.trans ho')) he.2
    obtain ⟨g, eg, hg, hO⟩ := I.s5 hk
    have hsz : (if L.getD 7 false = true then c3 else z).size = c3.size := by split <;> first | rfl | assumption
    refine op_wanted ho' g7.2.2 (wp_store_row t (.tmp d5) (.tmp d3) g7.1 g c3 (ev eg) (ev h1) t _ hO it3 hsz one3 ?_)
    rw [g7.2.1]
    have GG := fun j => getD_set L 7 j I.lsz (by decide)
    have G6 : (L.setIfInBounds 7 true).getD 6 false = L.getD 6 false := by rw [GG]; rw [if_neg (by decide)]
    have G7 : (L.setIfInBounds 7 true).getD 7 false = true := by rw [GG]; rfl
    refine ⟨by simpa using I.lsz, I.tsz, I.dfr, below_row I.bel hg _, I.old, ?_, ?_, ?_, ?_, ?_, ?_, ?_, ?_, ?_⟩
    · intro h; rw [GG, if_neg (by decide)] at h; exact I.s0 h
    · intro h; rw [GG, if_neg (by decide)] at h; exact I.s1 h
    · intro h; rw [GG, if_neg (by decide)] at h; exact I.s2 h
    · intro h; rw [GG, if_neg (by decide)] at h; exact I.s3 h
    · intro h
      rw [GG, if_neg (by decide)] at h
      obtain ⟨g', e', hg', hO'⟩ := I.s4 h
      refine ⟨g', e', hg', ?_⟩
      rw [G6]
      refine hO'.rowFar (fun e => ?_)
      subst e
      exact I.ne h hk (e'.trans eg.symm)
    · intro _; exact ⟨g, eg, hg, by rw [G7]; exact hO.row⟩
    · intro h h'; rw [GG, if_neg (by decide)] at h h'; exact I.ne h h'
    · intro h; rw [GG, if_neg (by decide)] at h ⊢; exact I.l6 h
    · intro _; rw [GG, if_neg (by decide)]; exact hk
/-- Where nothing may come up, all has come up. -/
theorem all_listed {md : Region.Mode} (hac : ((List.range ops.size).all fun i => ((ops[i]?).map (·.after.all fun e => decide (e.on < i))).getD true) = true) {L : Array Bool} (hL : L.size = ops.size) (hr : Region.ready md ops L = []) : ∀ i, i < ops.size → L.getD i false = true := by
  intro i
  induction i using Nat.strongRecOn with
  | _ i ih =>
    intro hi
    have hil : i < L.size := by omega
    cases hc : L.getD i false with
    | true => rfl
    | false =>
      exfalso
      have : i ∈ Region.ready md ops L := by
        rw [mem_ready]
        refine ⟨by simp [hil] at hc ⊢; exact hc, ops[i], by simp [hi], fun e he _ => ?_⟩
        have h1 := List.all_eq_true.1 hac i (List.mem_range.2 hi)
        rw [Array.getElem?_eq_getElem hi] at h1
        simp only [Option.map_some, Option.getD_some] at h1
        have h2 := of_decide_eq_true ((Array.all_eq_true_iff_forall_mem.1 h1) e he)
        exact ih e.on h2 (by omega)
      rw [hr] at this
      cases this
theorem six_sets {T0 T : Array Value} {d0 d1 d2 d3 d4 d5 : Tmp} {v0 v1 v2 v3 v4 v5 : Value} (l0 : d0 < T0.size) (l1 : d1 < T0.size) (l2 : d2 < T0.size) (l3 : d3 < T0.size) (l4 : d4 < T0.size) (l5 : d5 < T0.size)
    (t0 : T[d0]? = some v0) (t1 : T[d1]? = some v1) (t2 : T[d2]? = some v2) (t3 : T[d3]? = some v3) (t4 : T[d4]? = some v4) (t5 : T[d5]? = some v5)
    (hold : ∀ k, k ≠ d0 → k ≠ d1 → k ≠ d2 → k ≠ d3 → k ≠ d4 → k ≠ d5 → T[k]? = T0[k]?) :
    (((((T0.setIfInBounds d0 v0).setIfInBounds d1 v1).setIfInBounds d2 v2).setIfInBounds d3 v3).setIfInBounds d4 v4).setIfInBounds d5 v5 = T := by
  apply Array.ext_getElem?
  intro k
  simp only [Array.getElem?_setIfInBounds, Array.size_setIfInBounds]
  by_cases k5 : d5 = k
  · subst k5; rw [if_pos rfl, if_pos l5, t5]
  · rw [if_neg k5]
    by_cases k4 : d4 = k
    · subst k4; rw [if_pos rfl, if_pos l4, t4]
    · rw [if_neg k4]
      by_cases k3 : d3 = k
      · subst k3; rw [if_pos rfl, if_pos l3, t3]
      · rw [if_neg k3]
        by_cases k2 : d2 = k
        · subst k2; rw [if_pos rfl, if_pos l2, t2]
        · rw [if_neg k2]
          by_cases k1 : d1 = k
          · subst k1; rw [if_pos rfl, if_pos l1, t1]
          · rw [if_neg k1]
            by_cases k0 : d0 = k
            · subst k0; rw [if_pos rfl, if_pos l0, t0]
            · rw [if_neg k0]
              exact (hold k (Ne.symm k0) (Ne.symm k1) (Ne.symm k2) (Ne.symm k3) (Ne.symm k4) (Ne.symm k5)).symm
theorem two_calls {id : Nat} {a0 : Act} {W : World} {sa sb d0 d1 d2 d3 d4 d5 : Tmp} {ta t : TypeId} {z ca cb c1 c3 : Array Value} {F G : FuncId} {ats bts : Array TypeId} {ga gb : Nat} {da : TypeDesc}
    (hm : P.follows .mixedOrders = true) (o0 o1 o2 o3 o4 o5 o6 o7 : Oper) (hops : ops = #[o0, o1, o2, o3, o4, o5, o6, o7])
    (hac : ((List.range ops.size).all fun i => ((ops[i]?).map (·.after.all fun e => decide (e.on < i))).getD true) = true)
    (g0 : o0.op = .load ta (.tmp sa) ∧ o0.dst = some d0 ∧ o0.guard = none)
    (g1 : o1.op = .call { callee := .value (.func F), args := #[.tmp d0], argTypes := ats } ∧ o1.dst = some d1 ∧ o1.guard = none)
    (g2 : o2.op = .load ta (.tmp sb) ∧ o2.dst = some d2 ∧ o2.guard = none)
    (g3 : o3.op = .call { callee := .value (.func G), args := #[.tmp d2], argTypes := bts } ∧ o3.dst = some d3 ∧ o3.guard = none)
    (g4 : o4.op = .alloc t ∧ o4.dst = some d4 ∧ o4.guard = none) (g5 : o5.op = .alloc t ∧ o5.dst = some d5 ∧ o5.guard = none)
    (g6 : o6.op = .store t (.tmp d4) (.tmp d1) ∧ o6.dst = none ∧ o6.guard = none) (g7 : o7.op = .store t (.tmp d5) (.tmp d3) ∧ o7.dst = none ∧ o7.guard = none)
    (e1 : (o1.after.any fun e => Region.binds .any e && e.on == 0) = true) (e3 : (o3.after.any fun e => Region.binds .any e && e.on == 2) = true)
    (e6 : ((o6.after.any fun e => Region.binds .any e && e.on == 1) && (o6.after.any fun e => Region.binds .any e && e.on == 4)) = true) (e7 : ((o7.after.any fun e => Region.binds .any e && e.on == 3) && (o7.after.any fun e => Region.binds .any e && e.on == 5)) = true)
    (nd : [d0, d1, d2, d3, d4, d5].Nodup) (nsa : sa ∉ [d0, d1, d2, d3, d4, d5]) (nsb : sb ∉ [d0, d1, d2, d3, d4, d5]) (hlt : ∀ d ∈ [d0, d1, d2, d3, d4, d5], d < a0.tmps.size)
    (ha : a0.tmps[sa]? = some (.pointer (some ⟨ga, 0, none⟩))) (hb : a0.tmps[sb]? = some (.pointer (some ⟨gb, 0, none⟩)))
    (oa : Own W ga ta ca) (ob : Own W gb ta cb) (hua : P.underlying ta = some da) (hda : (match da with | .struct _ | .array _ _ => true | _ => false) = true) (hia : (P.info? ta).map (·.size) = some ca.size) (hib : (P.info? ta).map (·.size) = some cb.size)
    (it1 : (P.info? t).map (·.size) = some c1.size) (it3 : (P.info? t).map (·.size) = some c3.size) (zs1 : z.size = c1.size) (zs3 : z.size = c3.size) (one1 : c1.all (·.oneCell') = true) (one3 : c3.all (·.oneCell') = true)
    (hal : ∀ u, (Instr.alloc t true (.tuple #[])).run P u = .ok (.pointer (some ⟨u.heap.size, 0, none⟩)) (u.alloc (.cells z t)))
    (hF : ∀ args u, (callFunc F args).run P u = .ok (.enter F args) u) (hG : ∀ args u, (callFunc G args).run P u = .ok (.enter G args) u)
    (cF : ∀ u, Calls P F #[.agg ca] u fun e w' => e = .returned (.agg c1) ∧ Below u.heap.size u w') (cG : ∀ u, Calls P G #[.agg cb] u fun e w' => e = .returned (.agg c3) ∧ Below u.heap.size u w')
    (hQ : ∀ (k4 k5 : Nat) (w : World), Below W.heap.size W w → Own w k4 t c1 → Own w k5 t c3 →
      Q .normal ((((((a0.put (some d0) (.agg ca)).put (some d1) (.agg c1)).put (some d2) (.agg cb)).put (some d3) (.agg c3)).put (some d4) (.pointer (some ⟨k4, 0, none⟩))).put (some d5) (.pointer (some ⟨k5, 0, none⟩))) w) :
    (Code.region id ops true).wp P Q a0 W := by
  have hs8 : ops.size = 8 := by rw [hops]; rfl
  refine wp_region_any hm (wpAny_inv (I := TwoI a0 W sa sb d0 d1 d2 d3 d4 d5 (.agg ca) (.agg c1) (.agg cb) (.agg c3) t z c1 c3)
    (fun L a w i hi I => two_step o0 o1 o2 o3 o4 o5 o6 o7 hops g0 g1 g2 g3 g4 g5 g6 g7 e1 e3 e6 e7 nd nsa nsb hlt ha hb oa ob hua hda hia hib it1 it3 zs1 zs3 one1 one3 hal hF hG cF cG L a w i hi I)
    (fun L a w hr I => ?_) (fun L a w I => I.lsz.trans hs8.symm) _ _ _ _ (by rw [hs8]; decide) ?_)
  · have hl := all_listed hac (I.lsz.trans hs8.symm) hr
    rw [hs8] at hl
    obtain ⟨k4, e4, _, O4⟩ := I.s4 (hl 4 (by decide))
    obtain ⟨k5, e5, _, O5⟩ := I.s5 (hl 5 (by decide))
    rw [if_pos (hl 6 (by decide))] at O4
    rw [if_pos (hl 7 (by decide))] at O5
    have := hQ k4 k5 w I.bel O4 O5
    have t0 := I.s0 (hl 0 (by decide))
    have t1 := I.s1 (hl 1 (by decide))
    have t2 := I.s2 (hl 2 (by decide))
    have t3 := I.s3 (hl 3 (by decide))
    have hold := I.old
    have htsz := I.tsz
    have hdfr := I.dfr
    clear I hl O4 O5 hQ
    obtain ⟨T, D⟩ := a
    simp only at t0 t1 t2 t3 e4 e5 hold htsz hdfr
    subst hdfr
    have hT := six_sets (hlt d0 (by simp)) (hlt d1 (by simp)) (hlt d2 (by simp)) (hlt d3 (by simp)) (hlt d4 (by simp)) (hlt d5 (by simp)) t0 t1 t2 t3 e4 e5 hold
    simp only [Act.put, hT] at this
    exact this
  · have hz : ∀ j, (Array.replicate ops.size false).getD j false = false := fun j => by
      rw [hs8]
      by_cases h : j < 8 <;> simp [h]
    refine ⟨by simp [hs8], rfl, rfl, ⟨rfl, rfl, rfl, Nat.le_refl _, fun _ _ => rfl⟩, fun k _ _ _ _ _ _ => rfl, ?_, ?_, ?_, ?_, ?_, ?_, ?_, ?_, ?_⟩
    all_goals
      intro h
      rw [hz] at h
      cases h
end
end Go.Proofs.YtjfhhlbgiepkpaaDoor
