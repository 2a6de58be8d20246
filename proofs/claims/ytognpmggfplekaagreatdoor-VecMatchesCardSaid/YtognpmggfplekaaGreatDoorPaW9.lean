/-
  Mathematics: refining the operands refines every result. No conditions.
-/
import Derived.Test.YtognpmggfplekaaGreatDoorPaW8
set_option maxRecDepth 100000
namespace Go.Proofs.YtognpmggfplekaaGreatDoor
open Go Go.RowKit

def L4 : List Int := [0, 1, 2, 3]
theorem mem4 {x : Int} (h : 0 ≤ x) (k : x ≤ 3) : x ∈ L4 := by
  rcases bit_cases h k with rfl | rfl | rfl | rfl <;> decide
theorem leq_known : ∀ a ∈ L4, ∀ d ∈ L4, leqB a d = true → knownB a = true → a = d := by decide
theorem leqB_refl (a : Int) : leqB a a = true := by unfold leqB sameB; simp
theorem leqB_two {y : Int} (h : 0 ≤ y) (k : y ≤ 2) : leqB 2 y = true := by
  have : y = 0 ∨ y = 1 ∨ y = 2 := by omega
  rcases this with rfl | rfl | rfl <;> decide

structure Rfn (a c : V) : Prop where
  oa : okB a.l = true
  oc : okB c.l = true
  s : a.s = c.s
  len : a.l.length = c.l.length
  bit : ∀ i, i < a.l.length → leqB (nth a.l i) (nth c.l i) = true
  na : nnL a.l
  nc : nnL c.l
theorem four {l : List Int} (h : okB l = true) (n : nnL l) (i : Nat) : nth l i ∈ L4 := mem4 (n.nth i) (ok_le h i)
theorem Rfn.bitAll {a c : V} (h : Rfn a c) (i : Nat) : leqB (nth a.l i) (nth c.l i) = true := by
  by_cases hi : i < a.l.length
  · exact h.bit i hi
  · rw [nth_out (by omega), nth_out (by rw [← h.len]; omega)]; exact leqB_refl _
theorem Rfn.refl {a : V} (o : okB a.l = true) (n : nnL a.l) : Rfn a a := ⟨o, o, rfl, rfl, fun _ _ => leqB_refl _, n, n⟩
theorem Rfn.kn {a c : V} (h : Rfn a c) (k : knL a.l = true) : a = c := by
  refine V.ext' (list_ext h.len fun i hi => ?_) h.s
  have h1 := knL_iff.1 k i hi
  exact leq_known _ (four h.oa h.na i) _ (four h.oc h.nc i) (h.bit i hi) (by rcases h1 with e | e <;> rw [e] <;> rfl)

/-! Balancing. -/
theorem bal_rfn {a b c d : V} (h : Rfn a c) (k : Rfn b d) : balS a b = balS c d ∧ balN a b = balN c d ∧ Rfn (balL a b) (balL c d) ∧ Rfn (balR a b) (balR c d) := by
  have e1 : balS a b = balS c d := by unfold balS; rw [nrm_of h.oa, nrm_of h.oc, nrm_of k.oa, nrm_of k.oc, h.s, k.s]
  have e2 : balN a b = balN c d := by unfold balN; rw [nrm_of h.oa, nrm_of h.oc, nrm_of k.oa, nrm_of k.oc, h.len, k.len]
  have key : ∀ (x y : V) (S : Bool) (N : Nat), Rfn x y → ∀ i, leqB (nth (fitV ⟨x.l, S⟩ N).l i) (nth (fitV ⟨y.l, S⟩ N).l i) = true := fun x y S N r i => by
    by_cases hi : i < N
    · unfold fitV
      rw [nth_tab _ hi, nth_tab _ hi]
      unfold ext fill
      simp only [← r.len]
      split
      · exact r.bitAll i
      · split
        · exact r.bitAll _
        · exact leqB_refl _
    · rw [nth_out (by rw [fitV, tab_len]; omega), nth_out (by rw [fitV, tab_len]; omega)]; exact leqB_refl _
  refine ⟨e1, e2, ⟨balL_ok _ _, balL_ok _ _, ?_, ?_, fun i _ => ?_, balL_nn h.na, balL_nn h.nc⟩, ⟨balR_ok _ _, balR_ok _ _, ?_, ?_, fun i _ => ?_, balR_nn k.na, balR_nn k.nc⟩⟩
  · exact e1
  · rw [(bal_len a b).1, (bal_len c d).1, e2]
  · have := key a c (balS a b) (balN a b) h i
    unfold balL
    rw [nrm_of h.oa, nrm_of h.oc, ← e1, ← e2]
    exact this
  · exact e1
  · rw [(bal_len a b).2, (bal_len c d).2, e2]
  · have := key b d (balS a b) (balN a b) k i
    unfold balR
    rw [nrm_of k.oa, nrm_of k.oc, ← e1, ← e2]
    exact this

/-! What 'below' says of results. -/
theorem bel_refl (x : V) : belV x x = true := (belV_iff x x).2 ⟨rfl, rfl, fun _ _ => leqB_refl _⟩
theorem bel_all {x : V} {N : Nat} {S : Bool} (hl : x.l.length = N) (hs : x.s = S) : belV (allV 2 N S) x = true := by
  refine (belV_iff _ _).2 ⟨hs.symm, (len_all _ _ _).trans hl.symm, fun i hi => ?_⟩
  rw [len_all] at hi
  unfold belB allV
  rw [nth_tab _ hi]
  exact leqB_two (bufI_bd _).1 (bufI_bd _).2
theorem ar_len (F : Nat → Nat → Nat → Option Nat) (a b : V) : (arV F a b).l.length = balN a b ∧ (arV F a b).s = balS a b := by
  unfold arV
  split
  · split
    · exact ⟨frN_len _ _, rfl⟩
    · exact ⟨len_all _ _ _, rfl⟩
  · exact ⟨len_all _ _ _, rfl⟩
theorem mo_ar (F : Nat → Nat → Nat → Option Nat) {a b c d : V} (h : Rfn a c) (k : Rfn b d) : belV (arV F a b) (arV F c d) = true := by
  obtain ⟨e1, e2, r1, r2⟩ := bal_rfn h k
  cases g : (knL (balL a b).l && knL (balR a b).l)
  · have e : arV F a b = allV 2 (balN a b) (balS a b) := by unfold arV; rw [g]; rfl
    rw [e]
    exact bel_all ((ar_len F c d).1.trans e2.symm) ((ar_len F c d).2.trans e1.symm)
  · simp only [Bool.and_eq_true] at g
    have x1 := r1.kn g.1
    have x2 := r2.kn g.2
    have e : arV F a b = arV F c d := by unfold arV; rw [x1, x2, e1, e2]
    rw [e]
    exact bel_refl _
theorem mo_neg {a c : V} (h : Rfn a c) : belV (negV a) (negV c) = true := by
  unfold negV
  rw [nrm_of h.oa, nrm_of h.oc, ← h.len, ← h.s]
  refine mo_ar _ (Rfn.refl (ok_mk ?_ ?_ fun i _ => ?_) (nnL_tab fun _ _ => by decide)) h
  · rw [len_all]; exact (ok_len h.oa).1
  · rw [len_all]; exact (ok_len h.oa).2
  · by_cases hi : i < a.l.length
    · unfold allV; rw [nth_tab _ hi]; decide
    · unfold allV; rw [nth_out (by rw [tab_len]; omega)]; decide
end Go.Proofs.YtognpmggfplekaaGreatDoor
