/-
  Reductions of known vectors, equality, truth. Mathematics, no conditions.
-/
import Derived.Test.YtognpmggfplekaaGreatDoorPbI3
set_option maxRecDepth 100000
namespace Go.Proofs.YtognpmggfplekaaGreatDoor
open Go Go.RowKit

theorem red_and_k {l : List Int} (hk : knL l = true) : ∀ k, k < l.length → (redU andI l k = 0 ∨ redU andI l k = 1) ∧ (redU andI l k = 1 ↔ ∀ i, i ≤ k → nth l i = 1)
  | 0, h => by
    have e := knL_iff.1 hk 0 h
    have q : (∀ i, i ≤ 0 → nth l i = 1) ↔ nth l 0 = 1 := ⟨fun f => f 0 (Nat.le_refl _), fun f i hi => by rw [Nat.le_zero.1 hi]; exact f⟩
    rw [q]
    unfold redU
    rcases e with e | e <;> rw [e] <;> decide
  | k + 1, h => by
    obtain ⟨a, b⟩ := red_and_k hk k (by omega)
    have e := knL_iff.1 hk (k + 1) h
    have q : (∀ i, i ≤ k + 1 → nth l i = 1) ↔ (redU andI l k = 1 ∧ nth l (k + 1) = 1) := by
      rw [b]
      constructor
      · exact fun f => ⟨fun i hi => f i (by omega), f _ (Nat.le_refl _)⟩
      · rintro ⟨f, g⟩ i hi
        by_cases c : i = k + 1
        · rw [c]; exact g
        · exact f i (by omega)
    rw [q]
    rw [show redU andI l (k + 1) = andI (redU andI l k) (nth l (k + 1)) from rfl]
    rcases a with a | a <;> rcases e with e | e <;> rw [a, e] <;> decide
theorem red_or_k {l : List Int} (hk : knL l = true) : ∀ k, k < l.length → (redU orI l k = 0 ∨ redU orI l k = 1) ∧ (redU orI l k = 0 ↔ ∀ i, i ≤ k → nth l i = 0)
  | 0, h => by
    have e := knL_iff.1 hk 0 h
    have q : (∀ i, i ≤ 0 → nth l i = 0) ↔ nth l 0 = 0 := ⟨fun f => f 0 (Nat.le_refl _), fun f i hi => by rw [Nat.le_zero.1 hi]; exact f⟩
    rw [q]
    unfold redU
    rcases e with e | e <;> rw [e] <;> decide
  | k + 1, h => by
    obtain ⟨a, b⟩ := red_or_k hk k (by omega)
    have e := knL_iff.1 hk (k + 1) h
    have q : (∀ i, i ≤ k + 1 → nth l i = 0) ↔ (redU orI l k = 0 ∧ nth l (k + 1) = 0) := by
      rw [b]
      constructor
      · exact fun f => ⟨fun i hi => f i (by omega), f _ (Nat.le_refl _)⟩
      · rintro ⟨f, g⟩ i hi
        by_cases c : i = k + 1
        · rw [c]; exact g
        · exact f i (by omega)
    rw [q]
    rw [show redU orI l (k + 1) = orI (redU orI l k) (nth l (k + 1)) from rfl]
    rcases a with a | a <;> rcases e with e | e <;> rw [a, e] <;> decide
theorem num_zero {l : List Int} (hk : knL l = true) : num l = 0 ↔ ∀ i, i < l.length → nth l i = 0 := by
  constructor
  · intro h i hi
    have e := num_bit l i
    rw [h, Nat.zero_testBit] at e
    rcases knL_iff.1 hk i hi with c | c
    · exact c
    · rw [c] at e; exact absurd e (by decide)
  · intro h
    apply Nat.eq_of_testBit_eq
    intro i
    rw [num_bit, Nat.zero_testBit]
    by_cases c : i < l.length
    · rw [h i c]; rfl
    · rw [nth_out (by omega)]; rfl
theorem num_eq {x y : List Int} (kx : knL x = true) (ky : knL y = true) (h : x.length = y.length) : x = y ↔ num x = num y :=
  ⟨fun e => by rw [e], fun e => by rw [← frN_num kx, ← frN_num ky, h, e]⟩
theorem zv_inj {S : Bool} {n x y : Nat} (hx : x < 2 ^ n) (hy : y < 2 ^ n) : zvS S n x = zvS S n y ↔ x = y :=
  ⟨fun e => by rw [zv_fi (S := S) hx, zv_fi (S := S) hy, e], fun e => by rw [e]⟩
theorem fromI_of {z : Int} {p : Prop} [Decidable p] (h : z = 0 ∨ z = 1) (e : z = 1 ↔ p) : z = fromI (decide p) := by
  by_cases c : p
  · rw [decide_eq_true c, e.2 c]; rfl
  · rw [decide_eq_false c]
    rcases h with h | h
    · rw [h]; rfl
    · exact absurd (e.1 h) c
theorem truth_int {a : V} (ha : okB a.l = true) (ka : knL a.l = true) : truth a = fromI (decide (bvl a.s a.l ≠ 0)) := by
  have h0 := (ok_len ha).1
  unfold truth red
  rw [nrm_of ha]
  obtain ⟨h1, h2⟩ := red_or_k ka (a.l.length - 1) (by omega)
  refine fromI_of h1 ?_
  have q : bvl a.s a.l = 0 ↔ redU orI a.l (a.l.length - 1) = 0 := by
    rw [h2]
    unfold bvl
    rw [zv_zero (num_lt' rfl), num_zero ka]
    exact ⟨fun f i hi => f i (by omega), fun f i hi => f i (by omega)⟩
  rw [ne_eq, q]
  omega
theorem eq_int {a b : V} (ha : okB a.l = true) (hb : okB b.l = true) (ka : knL a.l = true) (kb : knL b.l = true) :
    eqV a b = fromI (decide (bvl (a.s && b.s) a.l = bvl (a.s && b.s) b.l)) := by
  obtain ⟨e1, e2, k1, k2, _, _⟩ := bal_nums ha hb ka kb
  obtain ⟨v1, v2, x1, x2, l1, l2⟩ := bal_vals ha hb
  have h0 := (ok_len ha).1
  have hN : 0 < balN a b ∧ balN a b ≤ 128 := by have := (ok_len ha).2; have := (ok_len hb).2; rw [e2]; omega
  have t : ∀ i, i < balN a b → ((nth (balL a b).l i = 0 ∨ nth (balL a b).l i = 1) ∧ (nth (balR a b).l i = 0 ∨ nth (balR a b).l i = 1)) := fun i hi => ⟨knL_iff.1 k1 i (by omega), knL_iff.1 k2 i (by omega)⟩
  have el : ∀ i, i < balN a b → nth (bwV eqI a b).l i = eqI (nth (balL a b).l i) (nth (balR a b).l i) := fun i hi => by unfold bwV; exact nth_tab _ hi
  have ll : (bwV eqI a b).l.length = balN a b := by unfold bwV; exact tab_len _ _
  have kk : knL (bwV eqI a b).l = true := knL_iff.2 fun i hi => by
    rw [el i (by omega)]
    obtain ⟨p, q⟩ := t i (by omega)
    rcases p with p | p <;> rcases q with q | q <;> rw [p, q] <;> decide
  have ok : okB (bwV eqI a b).l = true := ok_mk (by omega) (by omega) fun i hi => by
    rcases knL_iff.1 kk i hi with c | c <;> rw [c] <;> decide
  unfold eqV red
  rw [nrm_of ok]
  obtain ⟨h1, h2⟩ := red_and_k kk ((bwV eqI a b).l.length - 1) (by omega)
  refine fromI_of h1 ?_
  rw [h2, ← v1, ← v2, zv_inj x1 x2, ← num_eq k1 k2 (by omega)]
  constructor
  · intro f
    refine list_ext (by omega) fun i hi => ?_
    have := f i (by omega)
    rw [el i (by omega)] at this
    obtain ⟨p, q⟩ := t i (by omega)
    rcases p with p | p <;> rcases q with q | q <;> rw [p, q] at this ⊢ <;> first | rfl | exact absurd this (by decide)
  · intro f i hi
    rw [el i (by omega), f]
    obtain ⟨_, q⟩ := t i (by omega)
    rcases q with q | q <;> rw [q] <;> decide
end Go.Proofs.YtognpmggfplekaaGreatDoor
