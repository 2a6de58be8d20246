/-
  The reference's Repeat: the contract, by that of its Concat. No conditions.
-/
import Derived.Test.YtognpmggfplekaaGreatDoorW3
namespace Go.Proofs.YtognpmggfplekaaGreatDoor
open Go Go.RowKit

/-- The cells of k equal vectors. -/
def cvs (x : Cv) : Nat → List Value
  | 0 => []
  | k + 1 => cvs x k ++ [.slice x.A x.n x.c, .bool x.s]
theorem cvs_len (x : Cv) : ∀ k, (cvs x k).length = k * 2
  | 0 => rfl
  | k + 1 => by rw [cvs, List.length_append, cvs_len x k]; simp; omega
theorem cvs_get (x : Cv) : ∀ k j, j < k → (cvs x k)[j * 2]? = some (.slice x.A x.n x.c) ∧ (cvs x k)[j * 2 + 1]? = some (.bool x.s)
  | 0, j, h => by omega
  | k + 1, j, h => by
    have hl := cvs_len x k
    rcases Nat.lt_or_ge j k with h1 | h1
    · have := cvs_get x k j h1
      rw [cvs, List.getElem?_append_left (by omega), List.getElem?_append_left (by omega)]
      exact this
    · obtain rfl : j = k := by omega
      rw [cvs, List.getElem?_append_right (by omega), List.getElem?_append_right (by omega), hl]
      simp
theorem cvs_one (x : Cv) (k : Nat) : ∀ u ∈ cvs x k, u.oneCell' = true := by
  induction k with
  | zero => intro u hu; cases hu
  | succ k ih =>
    intro u hu
    rcases List.mem_append.1 hu with h | h
    · exact ih u h
    · simp at h
      rcases h with rfl | rfl <;> rfl
def Nv (w : World) (B : Nat) (A : Option Addr) (k c : Nat) (x : Cv) : Prop := w.ownsRow B 24 2 (.slice A k c) k (cvs x k)
theorem Nv.nil (w : World) (B : Nat) (x : Cv) : Nv w B none 0 0 x := ⟨rfl, .inl ⟨rfl, rfl⟩⟩
theorem vec_info : (Tryz.prog.info? 24).map (fun i => (i.zero, i.size, i.bytes)) = some (some (.agg #[.slice none 0 0, .bool false]), 2, 32) := by kernel_rfl
theorem run_pushS {w : World} {B : Nat} (hbase : B ≤ w.heap.size) {A : Option Addr} {k c : Nat} {x : Cv} (hv : Nv w B A k c x) {g : Nat} (O : Own w g 24 #[.slice x.A x.n x.c, .bool x.s]) (hk : k ≤ 100000) :
    ∃ A' c' w', (Builtin.append_ #[58, 58] 58 #[.slice A k c, .slice (some ⟨g, 0, none⟩) 1 1]).run Tryz.prog w = .ok (.slice A' (k + 1) c') w' ∧ Nv w' B A' (k + 1) c' x ∧ w.grownBy w' (Value.slice A k c).ownBlock := by
  obtain ⟨i, hi, hzz⟩ := Option.map_eq_some_iff.1 vec_info
  simp only [Prod.mk.injEq] at hzz
  obtain ⟨hz, hs, hby⟩ := hzz
  have hcells : ∀ j u, ([.slice x.A x.n x.c, .bool x.s] : List Value)[j]? = some u → w.cell? ((⟨g, 0, none⟩ : Addr).add j) = some u := by
    intro j u hu
    have hj : j < 2 := (List.getElem?_eq_some_iff.1 hu).1
    have hc := O.cell j
    unfold Addr.add
    split
    · rename_i h0; subst h0; rw [hc, ← hu]; rfl
    · simp only [Nat.zero_add]
      rw [hc, ← hu]
      simp
  obtain ⟨v', w', hrun, h2, h3, _, _⟩ := run_append_own_at (P := Tryz.prog) w B 58 58 24 i _ 2 32 Tryz.underlying58 hi hz hs hby rfl (by decide) _ k _ hv ⟨g, 0, none⟩ 1 1 [.slice x.A x.n x.c, .bool x.s] rfl hcells (fun u hu => by simp at hu; rcases hu with rfl | rfl <;> rfl) (by unfold maxLen; omega) (by omega) hbase
  rcases h2.2 with ⟨rfl, h0⟩ | ⟨g', cap, cur, rfl, h5⟩
  · omega
  · exact ⟨_, _, w', hrun, h2, h3⟩
theorem Nv.vs {w : World} {B : Nat} {A : Option Addr} {k c : Nat} {x : Cv} (h : Nv w B A k c x) : Vs w.heap.size w A k fun _ => x := by
  intro hk
  rcases h.2 with ⟨_, h0⟩ | ⟨g, cap, cur, e, _, hh, _, _, _, ht⟩
  · omega
  · simp only [Value.slice.injEq] at e
    obtain ⟨rfl, _, _⟩ := e
    have hlt : g < w.heap.size := (Array.getElem?_eq_some_iff.1 hh).1
    refine ⟨g, 0, rfl, hlt, fun j hj => ?_⟩
    have hg := cvs_get x k j hj
    rw [← ht] at hg
    have h1 : ∀ q, q < k * 2 → w.cell? ⟨g, q, none⟩ = (cur.toList.take (k * 2))[q]? := by
      intro q hq
      rw [List.getElem?_take_of_lt hq]
      simp [World.cell?, hh]
    refine ⟨?_, ?_⟩
    · show w.cell? ⟨g, 0 + j * 2, none⟩ = _
      rw [Nat.zero_add, h1 _ (by omega)]; exact hg.1
    · show w.cell? ⟨g, 0 + j * 2 + 1, none⟩ = _
      rw [Nat.zero_add, h1 _ (by omega)]; exact hg.2
theorem Nv.alloc {w : World} {B : Nat} {A : Option Addr} {k c : Nat} {x : Cv} (h : Nv w B A k c x) (o : Obj) : Nv (w.alloc o) B A k c x := by
  refine ⟨h.1, h.2.imp id fun ⟨g, cap, cur, h1, h2, h3, h4⟩ => ⟨g, cap, cur, h1, h2, ?_, h4⟩⟩
  exact ((below_new (Below.refl w.heap.size w) o).block g (Array.getElem?_eq_some_iff.1 h3).1).trans h3
theorem Nv.lt {w : World} {B : Nat} {A : Option Addr} {k c : Nat} {x : Cv} (h : Nv w B A k c x) : ∀ r, (Value.slice A k c).ownBlock = some r → B ≤ r ∧ r < w.heap.size := World.ownsRow.lt h
theorem wpList_pushS {ops : Array Oper} {rest : List Oper} {o : Oper} {a : Act} {w : World} {B : Nat} {Q : Exit → Act → World → Prop} (hgd : o.guard = none) (s y : Operand)
    (ho : o.op = .call { callee := .builtin .append, args := #[s, y], argTypes := #[58, 58] }) (hty : o.type = 58)
    (hb : B ≤ w.heap.size) {A : Option Addr} {k c : Nat} {x : Cv} (hs : a.eval s = .slice A k c) (hv : Nv w B A k c x) {g : Nat} (hx : a.eval y = .slice (some ⟨g, 0, none⟩) 1 1) (O : Own w g 24 #[.slice x.A x.n x.c, .bool x.s]) (hk : k ≤ 100000)
    (h : ∀ A' c' w', Nv w' B A' (k + 1) c' x → w.grownBy w' (Value.slice A k c).ownBlock → wpList Tryz.prog ops Q rest (a.put o.dst (.slice A' (k + 1) c')) w') : wpList Tryz.prog ops Q (o :: rest) a w := by
  refine wpList_plain hgd fun K hK => ?_
  obtain ⟨A', c', w', hrun, h2, h3⟩ := run_pushS hb hv O hk
  unfold Oper.wp execOp
  simp only [ho, hty, resolve, invoke, builtin, Sem.run_bind, Sem.run_pure, Result.andThen_ok, List.map_toArray, List.map_cons, List.map_nil, hs, hx, hrun]
  exact hK _ _ (h A' c' w' h2 h3)
/-! The mathematics: so many times the same bits. -/
theorem cat_const_len (v : V) (n : Nat) : ∀ k, (catL (fun _ => v) (dn n k)).length = (nrm v).l.length * k
  | 0 => rfl
  | k + 1 => by rw [dn_succ, catL_snoc, List.length_append, cat_const_len v n k, Nat.mul_succ]
theorem rp_succ (l : List Int) (k : Nat) : rp l l.length (k + 1) = rp l l.length k ++ l := by
  apply list_ext (by rw [List.length_append, rp_len, rp_len, Nat.mul_succ])
  intro i hi
  rw [rp_len] at hi
  rcases Nat.lt_or_ge i (l.length * k) with h1 | h1
  · rw [nth_app1 _ _ (by rw [rp_len]; exact h1)]
    unfold rp
    rw [nth_tab _ hi, nth_tab _ h1]
  · rw [nth_app2 _ _ (by rw [rp_len]; exact h1), rp_len]
    unfold rp
    rw [nth_tab _ hi]
    congr 1
    rw [Nat.mul_succ] at hi
    obtain ⟨j, rfl⟩ : ∃ j, i = l.length * k + j := ⟨i - l.length * k, by omega⟩
    rw [Nat.mul_add_mod, Nat.mod_eq_of_lt (by omega)]
    omega
theorem cat_const (v : V) (n : Nat) (h : 0 < (nrm v).l.length) : ∀ k, catL (fun _ => v) (dn n k) = rp (nrm v).l (nrm v).l.length k
  | 0 => rfl
  | k + 1 => by rw [dn_succ, catL_snoc, cat_const v n h k, rp_succ]
theorem re_of {v : V} {m : Int} {k : Nat} (h1 : 1 ≤ m) (hk : (k : Int) = m ∨ (k = 200 ∧ (200 : Int) ≤ m)) : coE k (fun _ => v) = reE v m ∧ coV k (fun _ => v) = reV v m := by
  have hl := nrm_len v
  have hk0 : k ≠ 0 := by omega
  have hlen := cat_const_len v k k
  have hE : coE k (fun _ => v) = reE v m := by
    unfold coE reE
    rw [if_neg hk0, if_neg (show ¬ m < 1 by omega), hlen]
    by_cases h : 128 < (nrm v).l.length * k
    · rw [if_pos h, if_pos]
      have : (128 / (nrm v).l.length : Nat) < k := (Nat.div_lt_iff_lt_mul hl.1).2 (by rw [Nat.mul_comm]; exact h)
      omega
    · rw [if_neg h, if_neg]
      have : ¬ (128 / (nrm v).l.length : Nat) < k := fun hc => h (by have := (Nat.div_lt_iff_lt_mul hl.1).1 hc; rw [Nat.mul_comm]; exact this)
      rcases hk with hk | ⟨rfl, hk⟩
      · omega
      · exfalso
        have h2 : (nrm v).l.length * 200 ≥ 1 * 200 := Nat.mul_le_mul_right _ hl.1
        omega
  refine ⟨hE, ?_⟩
  unfold coV reV
  rw [hE]
  by_cases h : reE v m = 0
  · rw [if_pos h, if_pos h, cat_const v k hl.1]
    rcases hk with hk | ⟨rfl, hk⟩
    · rw [← hk]; rfl
    · exfalso
      rw [← hE] at h
      unfold coE at h
      rw [if_neg hk0, hlen] at h
      have h2 : (nrm v).l.length * 200 ≥ 1 * 200 := Nat.mul_le_mul_right _ hl.1
      rw [if_pos (by omega)] at h
      cases h
  · rw [if_neg h, if_neg h]
set_option maxRecDepth 100000 in
set_option maxHeartbeats 4000000 in
theorem rRepeat_v (A : Option Addr) (n c : Nat) (s : Bool) (l : List Int) (m : Int) (w : World) (h : Rb w A n l) (hn : n ≤ 1000000) : Calls Tryz.prog 46 #[.agg #[.slice A n c, .bool s], .int .i64 m] w (RetE w (reV ⟨l, s⟩ m) (reE ⟨l, s⟩ m)) := by
  have O0 := ((Own.at1 w 24 #[.slice A n c, .bool s] (g := w.heap.size) (by simp)).alloc (.cells #[.slice none 0 0, .bool false] 24))
  have O1 := (Own.at1 (w.alloc (.cells #[.slice A n c, .bool s] 24)) 24 #[.slice none 0 0, .bool false] (g := w.heap.size + 1) (by simp))
  have BB := (below_new (below_new (Below.refl w.heap.size w) (.cells #[.slice A n c, .bool s] 24)) (.cells #[.slice none 0 0, .bool false] 24))
  by_cases h1 : m < 1
  · have e1 : reE ⟨l, s⟩ m = 1 := by unfold reE; rw [if_pos h1]
    have e2 : reV ⟨l, s⟩ m = nilV := by unfold reV; rw [e1]; rfl
    rw [e1, e2]
    have d1 : decide (m < 1) = true := by simp; omega
    have qO10 := O1.cell 0; have qO11 := O1.cell 1; have fO10 := O1.free 0; have fO11 := O1.free 1
    replace h := Lib.hid h
    clear h1 e1 e2
    go_enter Tryz.func46, Tryz.ntmps46
    go_wp2
    exact ret_vecE Tryz.results46 rfl rfl rfl O1 (RetE.mk' (v := nilV) (Nb.nil _ _) BB)
  · have d1 : decide (m < 1) = false := by simp; omega
    have hrd := h.step BB
    obtain ⟨W0, hW0⟩ : ∃ W0, W0 = (w.alloc (.cells #[.slice A n c, .bool s] 24)).alloc (.cells #[.slice none 0 0, .bool false] 24) := ⟨_, rfl⟩
    have hs0 : W0.heap.size = w.heap.size + 2 := by rw [hW0]; simp
    replace hs0 := Lib.hid hs0
    rw [← hW0] at O0 O1 BB hrd
    replace hW0 := Lib.hid hW0
    replace h1 := Lib.hid h1
    replace h := Lib.hid h
    go_enter Tryz.func46, Tryz.ntmps46
    go_wp2
    rw [← hW0.out]
    go_loopw [6, 7] (fun r i wr => ∃ (k : Nat) (X : Option Addr) (d : Nat), k ≤ 200 ∧ (k : Int) ≤ m ∧ i = .int .i64 k ∧ r = .slice X k d ∧ Hid (Own wr w.heap.size 24 #[.slice A n c, .bool s]) ∧ Hid (Own wr (w.heap.size + 1) 24 #[.slice none 0 0, .bool false]) ∧ Hid (Nv wr W0.heap.size X k d ⟨A, n, c, s⟩) ∧ Hid (Below W0.heap.size W0 wr)) (fun _ i _ => 200 - (intOf i).toNat)
    case atStart => exact ⟨0, none, 0, by omega, by have := h1.out; omega, rfl, rfl, Lib.hid O0, Lib.hid O1, Lib.hid (Nv.nil _ _ _), Lib.hid (Below.refl _ _)⟩
    case round =>
      obtain ⟨k, X, d, hk, hkm, rfl, rfl, H0, H1, HN, HB⟩ := hrel
      have p0 := H0.out.cell 0
      have p1 := H0.out.cell 1
      by_cases hlt : (k : Int) < m ∧ k < 200
      · have c1 : decide ((k : Int) < m) = true := by simp; omega
        have c2 : decide ((k : Int) < 200) = true := by simp; omega
        have U0 := H0.out.alloc (.cells #[.slice A n c, .bool s] 24)
        have U1 := H1.out.alloc (.cells #[.slice A n c, .bool s] 24)
        have UX := Own.new wr 24 #[.slice A n c, .bool s]
        have UN := HN.out.alloc (.cells #[.slice A n c, .bool s] 24)
        have hB1 := below_new HB.out (.cells #[.slice A n c, .bool s] 24)
        have hsz := hB1.size
        have hk9 : k ≤ 100000 := by omega
        replace HB := Lib.hid HB
        clear hlt
        go_wp2_with (at_builtin; refine wpList_pushS rfl (.tmp 20) (.tmp 22) rfl rfl hsz rfl UN rfl UX hk9 ?_; intro A9 c9 w9 hN9 hg9; have V1 := Own.grown U1 hg9 (fun e => by have := (UN.lt _ e.symm).1; have := hs0.out; omega); have V0 := Own.grown U0 hg9 (fun e => by have := (UN.lt _ e.symm).1; have := hs0.out; omega); have hB9 := hB1.grown hg9 hB1.size (fun r hr => (UN.lt r hr).1))
        go_roundw
        case rel => exact ⟨k + 1, A9, c9, by have := of_decide_eq_true c2; omega, by have := of_decide_eq_true c1; omega, by go_num, rfl, Lib.hid V0, Lib.hid V1, Lib.hid hN9, Lib.hid hB9⟩
        case measure => have := of_decide_eq_true c2; simp [intOf]; omega
      · have HE := re_of (v := ⟨l, s⟩) (m := m) (k := k) (by have := h1.out; omega) (by omega)
        have hVs := HN.out.vs
        have hRv : Rv wr (fun _ => ⟨A, n, c, s⟩) fun _ => ⟨l, s⟩ := fun _ => ⟨hrd.step HB.out, rfl⟩
        have hC := Lib.hid (rConcat_v X k d _ _ wr hVs hRv (fun _ => hn) (by omega))
        have hbs := HB.out.size
        have g0 := H1.out.lt
        clear hVs hRv hn hrd h h1 d1 p0 p1 O0 O1
        have HE := Lib.hid HE
        by_cases hkm2 : (k : Int) < m
        · have c1 : decide ((k : Int) < m) = true := by simp; omega
          have c2 : decide ((k : Int) < 200) = false := by simp; omega
          clear hlt hkm hkm2
          go_wp2_with (go_at_call 44; refine hC.out.mono ?_; rintro e wn ⟨A9, c9, rfl, hN9, hb⟩; have kb := hb; replace H1 := Lib.hid (H1.out.step kb); replace HB := Lib.hid (below_step HB.out kb); have f10 := H1.out.free 0; have f11 := H1.out.free 1; have q10 := H1.out.cell 0; have q11 := H1.out.cell 1)
          refine ret_vecE Tryz.results46 rfl rfl rfl (H1.out.put2 _ _) ?_
          rw [← HE.out.1, ← HE.out.2]
          have hb0 : w.heap.size ≤ wr.heap.size := by have := hs0.out; omega
          exact RetE.mk' (v := coV k fun _ => ⟨l, s⟩) (((hN9.mono hb0).setT H1.out (by decide) 0 _).setT (H1.out.put 0 _) (by decide) 1 _) (below_set2 (below_step BB (HB.out)) (by omega) _ _)
        · have c1 : decide ((k : Int) < m) = false := by simp; omega
          clear hlt hkm hkm2
          go_wp2_with (go_at_call 44; refine hC.out.mono ?_; rintro e wn ⟨A9, c9, rfl, hN9, hb⟩; have kb := hb; replace H1 := Lib.hid (H1.out.step kb); replace HB := Lib.hid (below_step HB.out kb); have f10 := H1.out.free 0; have f11 := H1.out.free 1; have q10 := H1.out.cell 0; have q11 := H1.out.cell 1)
          refine ret_vecE Tryz.results46 rfl rfl rfl (H1.out.put2 _ _) ?_
          rw [← HE.out.1, ← HE.out.2]
          have hb0 : w.heap.size ≤ wr.heap.size := by have := hs0.out; omega
          exact RetE.mk' (v := coV k fun _ => ⟨l, s⟩) (((hN9.mono hb0).setT H1.out (by decide) 0 _).setT (H1.out.put 0 _) (by decide) 1 _) (below_set2 (below_step BB (HB.out)) (by omega) _ _)
set_option maxRecDepth 100000 in
theorem rRepeat_v_w (A : Option Addr) (n c : Nat) (s : Bool) (l : List Int) (m : Int) (w : World) (h : Rb w A n l) (hn : n ≤ 1000000) : Calls Tryz.prog 46 #[.agg #[.slice A n c, .bool s], .int .i64 m] w (RetX w (reV ⟨l, s⟩ m) (reE ⟨l, s⟩ m)) := (rRepeat_v A n c s l m w h hn).mono fun _ _ hr => hr.w (len_re _ _)

end Go.Proofs.YtognpmggfplekaaGreatDoor
