/-
  Mathematics: refining the operands refines every result. No conditions.
-/
import Derived.Test.YtognpmggfplekaaGreatDoorW8
namespace Go.Proofs.YtognpmggfplekaaGreatDoor
open Go Go.RowKit

def L4 : List Int := [0, 1, 2, 3]
theorem mem4 {x : Int} (h : 0 ≤ x) (k : x ≤ 3) : x ∈ L4 := by
  rcases bit_cases h k with rfl | rfl | rfl | rfl <;> decide
theorem mono_buf : ∀ a ∈ L4, ∀ d ∈ L4, leqB a d = true → leqB (bufI a) (bufI d) = true := by decide
theorem mono_not : ∀ a ∈ L4, ∀ d ∈ L4, leqB a d = true → leqB (notI a) (notI d) = true := by decide
theorem mono2 : ∀ a ∈ L4, ∀ d ∈ L4, leqB a d = true → ∀ b ∈ L4, ∀ e ∈ L4, leqB b e = true → leqB (andI a b) (andI d e) = true ∧ leqB (orI a b) (orI d e) = true ∧ leqB (xorI a b) (xorI d e) = true ∧ leqB (eqI a b) (eqI d e) = true := by decide +kernel
theorem mono_cd : ∀ t ∈ L4, ∀ r ∈ L4, leqB t r = true → ∀ a ∈ L4, ∀ d ∈ L4, leqB a d = true → ∀ b ∈ L4, ∀ e ∈ L4, leqB b e = true → leqB (bufI (cdF t a b)) (bufI (cdF r d e)) = true := by decide +kernel
theorem leq_known : ∀ a ∈ L4, ∀ d ∈ L4, leqB a d = true → knownB a = true → a = d := by decide
theorem leqB_refl (a : Int) : leqB a a = true := by unfold leqB sameB; simp
theorem leqB_two {y : Int} (h : 0 ≤ y) (k : y ≤ 2) : leqB 2 y = true := by
  have : y = 0 ∨ y = 1 ∨ y = 2 := by omega
  rcases this with rfl | rfl | rfl <;> decide
theorem buf_two {y : Int} (h : 0 ≤ y) (k : y ≤ 2) : bufI y = y := by
  have : y = 0 ∨ y = 1 ∨ y = 2 := by omega
  rcases this with rfl | rfl | rfl <;> decide
/-- What refining gives for a function of two bits. -/
def Mo (f : Int → Int → Int) : Prop := (∀ a b, 0 ≤ f a b ∧ f a b ≤ 2) ∧ ∀ a ∈ L4, ∀ d ∈ L4, leqB a d = true → ∀ b ∈ L4, ∀ e ∈ L4, leqB b e = true → leqB (f a b) (f d e) = true
theorem mo_and : Mo andI := ⟨andI_bd, fun a ha d hd h b hb e he k => (mono2 a ha d hd h b hb e he k).1⟩
theorem mo_or : Mo orI := ⟨orI_bd, fun a ha d hd h b hb e he k => (mono2 a ha d hd h b hb e he k).2.1⟩
theorem mo_xor : Mo xorI := ⟨xorI_bd, fun a ha d hd h b hb e he k => (mono2 a ha d hd h b hb e he k).2.2.1⟩
theorem mo_eq : Mo eqI := ⟨eqI_bd, fun a ha d hd h b hb e he k => (mono2 a ha d hd h b hb e he k).2.2.2⟩

/-- c refines a, both valid. -/
structure Rfn (a c : V) : Prop where
  oa : okB a.l = true
  oc : okB c.l = true
  s : a.s = c.s
  len : a.l.length = c.l.length
  bit : ∀ i, i < a.l.length → leqB (nth a.l i) (nth c.l i) = true
  na : nnL a.l
  nc : nnL c.l
theorem rfn_of {a c : V} (h : rfB c a = true) (na : nnL a.l) (nc : nnL c.l) : Rfn a c := by
  unfold rfB at h
  simp only [Bool.and_eq_true, beq_iff_eq] at h
  obtain ⟨h1, h2, h3⟩ := h
  have oa := (chk_ok _).1 h1
  have oc := (chk_ok _).1 h2
  unfold leqV at h3
  rw [nrm_of oa, nrm_of oc] at h3
  simp only [Bool.and_eq_true, beq_iff_eq, List.all_eq_true, List.mem_range] at h3
  exact ⟨oa, oc, h3.1, h3.2.1, h3.2.2, na, nc⟩
theorem four {l : List Int} (h : okB l = true) (n : nnL l) (i : Nat) : nth l i ∈ L4 := mem4 (n.nth i) (ok_le h i)
theorem Rfn.bitAll {a c : V} (h : Rfn a c) (i : Nat) : leqB (nth a.l i) (nth c.l i) = true := by
  by_cases hi : i < a.l.length
  · exact h.bit i hi
  · rw [nth_out (by omega), nth_out (by rw [← h.len]; omega)]; exact leqB_refl _
theorem Rfn.refl {a : V} (o : okB a.l = true) (n : nnL a.l) : Rfn a a := ⟨o, o, rfl, rfl, fun _ _ => leqB_refl _, n, n⟩
theorem Rfn.kn {a c : V} (h : Rfn a c) (k : knL a.l = true) : a = c := by
  refine V.ext' (list_ext h.len fun i hi => ?_) h.s
  have h1 := knL_iff.1 k i hi
  exact leq_known _ (four h.oa h.na i) _ (four h.oc h.nc i) (h.bit i hi) (by rcases h1 with e | e <;> rw [e] <;> rfl)

/-! Balancing. -/
theorem bal_rfn {a b c d : V} (h : Rfn a c) (k : Rfn b d) : balS a b = balS c d ∧ balN a b = balN c d ∧ Rfn (balL a b) (balL c d) ∧ Rfn (balR a b) (balR c d) := by
  have e1 : balS a b = balS c d := by unfold balS; rw [nrm_of h.oa, nrm_of h.oc, nrm_of k.oa, nrm_of k.oc, h.s, k.s]
  have e2 : balN a b = balN c d := by unfold balN; rw [nrm_of h.oa, nrm_of h.oc, nrm_of k.oa, nrm_of k.oc, h.len, k.len]
  have key : ∀ (x y : V) (S : Bool) (N : Nat), Rfn x y → ∀ i, leqB (nth (fitV ⟨x.l, S⟩ N).l i) (nth (fitV ⟨y.l, S⟩ N).l i) = true := fun x y S N r i => by
    by_cases hi : i < N
    · unfold fitV
      rw [nth_tab _ hi, nth_tab _ hi]
      unfold ext fill
      simp only [← r.len]
      split
      · exact r.bitAll i
      · split
        · exact r.bitAll _
        · exact leqB_refl _
    · rw [nth_out (by rw [fitV, tab_len]; omega), nth_out (by rw [fitV, tab_len]; omega)]; exact leqB_refl _
  refine ⟨e1, e2, ⟨balL_ok _ _, balL_ok _ _, ?_, ?_, fun i _ => ?_, balL_nn h.na, balL_nn h.nc⟩, ⟨balR_ok _ _, balR_ok _ _, ?_, ?_, fun i _ => ?_, balR_nn k.na, balR_nn k.nc⟩⟩
  · exact e1
  · rw [(bal_len a b).1, (bal_len c d).1, e2]
  · have := key a c (balS a b) (balN a b) h i
    unfold balL
    rw [nrm_of h.oa, nrm_of h.oc, ← e1, ← e2]
    exact this
  · exact e1
  · rw [(bal_len a b).2, (bal_len c d).2, e2]
  · have := key b d (balS a b) (balN a b) k i
    unfold balR
    rw [nrm_of k.oa, nrm_of k.oc, ← e1, ← e2]
    exact this

/-! What 'below' says of results. -/
theorem bel_refl (x : V) : belV x x = true := (belV_iff x x).2 ⟨rfl, rfl, fun _ _ => leqB_refl _⟩
theorem bel_all {x : V} {N : Nat} {S : Bool} (hl : x.l.length = N) (hs : x.s = S) : belV (allV 2 N S) x = true := by
  refine (belV_iff _ _).2 ⟨hs.symm, (len_all _ _ _).trans hl.symm, fun i hi => ?_⟩
  rw [len_all] at hi
  unfold belB allV
  rw [nth_tab _ hi]
  exact leqB_two (bufI_bd _).1 (bufI_bd _).2
theorem bel_one {p q : Int} (h : leqB p q = true) (hp : 0 ≤ p ∧ p ≤ 2) (hq : 0 ≤ q ∧ q ≤ 2) : belV (one1 p) (one1 q) = true := by
  refine (belV_iff _ _).2 ⟨rfl, rfl, fun i hi => ?_⟩
  have : i = 0 := by have : (one1 p).l.length = 1 := rfl; omega
  subst this
  show leqB (bufI p) (bufI q) = true
  rw [buf_two hp.1 hp.2, buf_two hq.1 hq.2]
  exact h
theorem bel_tab {N : Nat} {S : Bool} {f g : Nat → Int} (h : ∀ i, i < N → leqB (bufI (f i)) (bufI (g i)) = true) : belV ⟨tab N f, S⟩ ⟨tab N g, S⟩ = true := by
  refine (belV_iff _ _).2 ⟨rfl, by rw [tab_len, tab_len], fun i hi => ?_⟩
  rw [tab_len] at hi
  unfold belB
  rw [nth_tab _ hi, nth_tab _ hi]
  exact h i hi
theorem mo_bw {f : Int → Int → Int} (hf : Mo f) {a b c d : V} (h : Rfn a c) (k : Rfn b d) : belV (bwV f a b) (bwV f c d) = true ∧ ((bwV f a b).l.length = (bwV f c d).l.length ∧ ∀ i, leqB (nth (bwV f a b).l i) (nth (bwV f c d).l i) = true) := by
  obtain ⟨e1, e2, r1, r2⟩ := bal_rfn h k
  have key : ∀ i, leqB (f (nth (balL a b).l i) (nth (balR a b).l i)) (f (nth (balL c d).l i) (nth (balR c d).l i)) = true := fun i =>
    hf.2 _ (four r1.oa r1.na i) _ (four r1.oc r1.nc i) (r1.bitAll i) _ (four r2.oa r2.na i) _ (four r2.oc r2.nc i) (r2.bitAll i)
  unfold bwV
  rw [← e1, ← e2]
  refine ⟨bel_tab fun i _ => ?_, ?_, fun i => ?_⟩
  · rw [buf_two (hf.1 _ _).1 (hf.1 _ _).2, buf_two (hf.1 _ _).1 (hf.1 _ _).2]
    exact key i
  · rw [tab_len, tab_len]
  · by_cases hi : i < balN a b
    · rw [nth_tab _ hi, nth_tab _ hi]; exact key i
    · rw [nth_out (by rw [tab_len]; omega), nth_out (by rw [tab_len]; omega)]; exact leqB_refl _
theorem redU_mo {f : Int → Int → Int} (hf : Mo f) {x y : List Int} (hx : ∀ i, nth x i ∈ L4) (hy : ∀ i, nth y i ∈ L4) (h : ∀ i, leqB (nth x i) (nth y i) = true) : ∀ k, leqB (redU f x k) (redU f y k) = true
  | 0 => mono_buf _ (hx 0) _ (hy 0) (h 0)
  | k + 1 => hf.2 _ (mem4 (redU_bd hf.1 x k).1 (by have := (redU_bd hf.1 x k).2; omega)) _ (mem4 (redU_bd hf.1 y k).1 (by have := (redU_bd hf.1 y k).2; omega)) (redU_mo hf hx hy h k) _ (hx _) _ (hy _) (h _)
theorem red_mo {f : Int → Int → Int} (hf : Mo f) {a c : V} (h : Rfn a c) : leqB (red f a) (red f c) = true := by
  unfold red
  rw [nrm_of h.oa, nrm_of h.oc, ← h.len]
  exact redU_mo hf (four h.oa h.na) (four h.oc h.nc) h.bitAll _
theorem red_bd2 {f : Int → Int → Int} (hf : Mo f) (a : V) : 0 ≤ red f a ∧ red f a ≤ 2 := redU_bd hf.1 _ _
theorem mem2 {p : Int} (h : 0 ≤ p ∧ p ≤ 2) : p ∈ L4 := mem4 h.1 (by omega)
theorem not_mo {p q : Int} (h : leqB p q = true) (hp : 0 ≤ p ∧ p ≤ 2) (hq : 0 ≤ q ∧ q ≤ 2) : leqB (notI p) (notI q) = true := mono_not _ (mem2 hp) _ (mem2 hq) h
theorem mo_red {f : Int → Int → Int} (hf : Mo f) {a c : V} (h : Rfn a c) : belV (one1 (red f a)) (one1 (red f c)) = true := bel_one (red_mo hf h) (red_bd2 hf a) (red_bd2 hf c)
theorem mo_nred {f : Int → Int → Int} (hf : Mo f) {a c : V} (h : Rfn a c) : belV (one1 (notI (red f a))) (one1 (notI (red f c))) = true := bel_one (not_mo (red_mo hf h) (red_bd2 hf a) (red_bd2 hf c)) (notI_bd _) (notI_bd _)
theorem mo_notV {a c : V} (h : Rfn a c) : belV (notV a) (notV c) = true := by
  unfold notV
  rw [nrm_of h.oa, nrm_of h.oc, ← h.len, ← h.s]
  refine bel_tab fun i _ => ?_
  rw [buf_two (notI_bd _).1 (notI_bd _).2, buf_two (notI_bd _).1 (notI_bd _).2]
  exact mono_not _ (four h.oa h.na i) _ (four h.oc h.nc i) (h.bitAll i)
theorem ar_len (F : Nat → Nat → Nat → Option Nat) (a b : V) : (arV F a b).l.length = balN a b ∧ (arV F a b).s = balS a b := by
  unfold arV
  split
  · split
    · exact ⟨frN_len _ _, rfl⟩
    · exact ⟨len_all _ _ _, rfl⟩
  · exact ⟨len_all _ _ _, rfl⟩
theorem mo_ar (F : Nat → Nat → Nat → Option Nat) {a b c d : V} (h : Rfn a c) (k : Rfn b d) : belV (arV F a b) (arV F c d) = true := by
  obtain ⟨e1, e2, r1, r2⟩ := bal_rfn h k
  cases g : (knL (balL a b).l && knL (balR a b).l)
  · have e : arV F a b = allV 2 (balN a b) (balS a b) := by unfold arV; rw [g]; rfl
    rw [e]
    exact bel_all ((ar_len F c d).1.trans e2.symm) ((ar_len F c d).2.trans e1.symm)
  · simp only [Bool.and_eq_true] at g
    have x1 := r1.kn g.1
    have x2 := r2.kn g.2
    have e : arV F a b = arV F c d := by unfold arV; rw [x1, x2, e1, e2]
    rw [e]
    exact bel_refl _
theorem mo_div (f : Bool) {a b c d : V} (h : Rfn a c) (k : Rfn b d) : belV (divV f a b) (divV f c d) = true := by
  unfold divV
  rw [(bal_rfn h k).1]
  exact mo_ar _ h k
theorem mo_cmp (p : Int → Bool) {a b c d : V} (h : Rfn a c) (k : Rfn b d) : belV (one1 (cmpV p a b)) (one1 (cmpV p c d)) = true := by
  obtain ⟨e1, e2, r1, r2⟩ := bal_rfn h k
  refine bel_one ?_ (cmpV_bd _ _ _) (cmpV_bd _ _ _)
  cases g : (knL (balL a b).l && knL (balR a b).l)
  · have e : cmpV p a b = 2 := by unfold cmpV; rw [g]; rfl
    rw [e]
    exact leqB_two (cmpV_bd _ _ _).1 (cmpV_bd _ _ _).2
  · simp only [Bool.and_eq_true] at g
    have e : cmpV p a b = cmpV p c d := by unfold cmpV; rw [r1.kn g.1, r2.kn g.2, e1, e2]
    rw [e]
    exact leqB_refl _
theorem pow_len (a b : V) : (powV a b).l.length = (nrm a).l.length ∧ (powV a b).s = (nrm a).s := by
  unfold powV
  split
  · split
    · refine ⟨len_powZ _ _ _ _ _, ?_⟩
      unfold powZ; split; rfl; (split; rfl; rfl)
    · exact ⟨frN_len _ _, rfl⟩
  · exact ⟨len_all _ _ _, rfl⟩
theorem mo_pow {a b c d : V} (h : Rfn a c) (k : Rfn b d) : belV (powV a b) (powV c d) = true := by
  cases g : (knL (nrm a).l && knL (nrm b).l)
  · have e : powV a b = allV 2 (nrm a).l.length (nrm a).s := by unfold powV; rw [g]; rfl
    rw [e]
    refine bel_all ((pow_len c d).1.trans ?_) ((pow_len c d).2.trans ?_)
    · rw [nrm_of h.oa, nrm_of h.oc, h.len]
    · rw [nrm_of h.oa, nrm_of h.oc, h.s]
  · simp only [Bool.and_eq_true] at g
    rw [nrm_of h.oa, nrm_of k.oa] at g
    rw [h.kn g.1, k.kn g.2]
    exact bel_refl _
theorem eq_mo {a b c d : V} (h : Rfn a c) (k : Rfn b d) : leqB (eqV a b) (eqV c d) = true := by
  have hb := mo_bw mo_eq h k
  have ok : ∀ x y : V, okB (bwV eqI x y).l = true := fun x y => ok_mk (by have := balN_bd x y; rw [bwV, tab_len]; exact this.1) (len_bw _ _ _) fun i hi => by
    rw [bwV, tab_len] at hi
    rw [bwV, nth_tab _ hi]
    have := eqI_bd (nth (balL x y).l i) (nth (balR x y).l i)
    omega
  have nn : ∀ x y : V, nnL (bwV eqI x y).l := fun x y => nnL_tab fun i _ => (eqI_bd _ _).1
  exact red_mo mo_and ⟨ok a b, ok c d, (bal_rfn h k).1, hb.2.1, fun i _ => hb.2.2 i, nn a b, nn c d⟩
theorem truth_mo {a c : V} (h : Rfn a c) : leqB (truth a) (truth c) = true := red_mo mo_or h
theorem truth_bd2 (a : V) : 0 ≤ truth a ∧ truth a ≤ 2 := red_bd2 mo_or a
theorem mo_lg {f : Int → Int → Int} (hf : Mo f) {a b c d : V} (h : Rfn a c) (k : Rfn b d) : belV (one1 (f (truth a) (truth b))) (one1 (f (truth c) (truth d))) = true :=
  bel_one (hf.2 _ (mem2 (truth_bd2 a)) _ (mem2 (truth_bd2 c)) (truth_mo h) _ (mem2 (truth_bd2 b)) _ (mem2 (truth_bd2 d)) (truth_mo k)) (hf.1 _ _) (hf.1 _ _)
theorem mo_lnot {a c : V} (h : Rfn a c) : belV (one1 (notI (truth a))) (one1 (notI (truth c))) = true := bel_one (not_mo (truth_mo h) (truth_bd2 a) (truth_bd2 c)) (notI_bd _) (notI_bd _)
theorem mo_eqV {a b c d : V} (h : Rfn a c) (k : Rfn b d) : belV (one1 (eqV a b)) (one1 (eqV c d)) = true := bel_one (eq_mo h k) (eqV_bd _ _) (eqV_bd _ _)
theorem mo_neV {a b c d : V} (h : Rfn a c) (k : Rfn b d) : belV (one1 (notI (eqV a b))) (one1 (notI (eqV c d))) = true := bel_one (not_mo (eq_mo h k) (eqV_bd _ _) (eqV_bd _ _)) (notI_bd _) (notI_bd _)
theorem atI_mo {x y : List Int} (hl : x.length = y.length) (hx : ∀ i, nth x i ∈ L4) (hy : ∀ i, nth y i ∈ L4) (h : ∀ i, leqB (nth x i) (nth y i) = true) (k : Int) {z z' : Int} (hz : z ∈ L4) (hz' : z' ∈ L4) (hzz : leqB z z' = true) : leqB (bufI (atI x k z)) (bufI (atI y k z')) = true := by
  unfold atI
  rw [hl]
  split
  · exact mono_buf _ (hx _) _ (hy _) (h _)
  · exact mono_buf _ hz _ hz' hzz
theorem sh_len (fr : Int → Int → Int) (z : Int) (a b : V) : (shV fr z a b).l.length = (nrm a).l.length ∧ (shV fr z a b).s = (nrm a).s := by
  unfold shV
  split
  · exact ⟨tab_len _ _, rfl⟩
  · exact ⟨len_all _ _ _, rfl⟩
theorem mo_sh (fr : Int → Int → Int) {z z' : Int} (hz : z ∈ L4) (hz' : z' ∈ L4) (hzz : leqB z z' = true) {a b c d : V} (h : Rfn a c) (k : Rfn b d) : belV (shV fr z a b) (shV fr z' c d) = true := by
  cases g : knL (nrm b).l
  · have e : shV fr z a b = allV 2 (nrm a).l.length (nrm a).s := by unfold shV; rw [g]; rfl
    rw [e]
    refine bel_all ((sh_len fr z' c d).1.trans ?_) ((sh_len fr z' c d).2.trans ?_)
    · rw [nrm_of h.oa, nrm_of h.oc, h.len]
    · rw [nrm_of h.oa, nrm_of h.oc, h.s]
  · have g' := g
    rw [nrm_of k.oa] at g'
    obtain rfl := k.kn g'
    unfold shV
    rw [g, nrm_of h.oa, nrm_of h.oc, ← h.len, ← h.s]
    exact bel_tab fun i _ => atI_mo h.len (four h.oa h.na) (four h.oc h.nc) h.bitAll _ hz hz' hzz
theorem fill_rfn {a c : V} (h : Rfn a c) : fill (nrm a) ∈ L4 ∧ fill (nrm c) ∈ L4 ∧ leqB (fill (nrm a)) (fill (nrm c)) = true := by
  rw [nrm_of h.oa, nrm_of h.oc]
  unfold fill
  rw [← h.s, ← h.len]
  split
  · exact ⟨four h.oa h.na _, four h.oc h.nc _, h.bitAll _⟩
  · exact ⟨by decide, by decide, by decide⟩
theorem mo_neg {a c : V} (h : Rfn a c) : belV (negV a) (negV c) = true := by
  unfold negV
  rw [nrm_of h.oa, nrm_of h.oc, ← h.len, ← h.s]
  refine mo_ar _ (Rfn.refl (ok_mk ?_ ?_ fun i _ => ?_) (nnL_tab fun _ _ => by decide)) h
  · rw [len_all]; exact (ok_len h.oa).1
  · rw [len_all]; exact (ok_len h.oa).2
  · by_cases hi : i < a.l.length
    · unfold allV; rw [nth_tab _ hi]; decide
    · unfold allV; rw [nth_out (by rw [tab_len]; omega)]; decide
theorem mo_cond {p q a b c d : V} (g : Rfn p q) (h : Rfn a c) (k : Rfn b d) : belV (condV p a b) (condV q c d) = true := by
  obtain ⟨e1, e2, r1, r2⟩ := bal_rfn h k
  unfold condV bwV
  rw [← e1, ← e2]
  exact bel_tab fun i _ => mono_cd _ (mem2 (truth_bd2 p)) _ (mem2 (truth_bd2 q)) (truth_mo g) _ (four r1.oa r1.na i) _ (four r1.oc r1.nc i) (r1.bitAll i) _ (four r2.oa r2.na i) _ (four r2.oc r2.nc i) (r2.bitAll i)
end Go.Proofs.YtognpmggfplekaaGreatDoor
