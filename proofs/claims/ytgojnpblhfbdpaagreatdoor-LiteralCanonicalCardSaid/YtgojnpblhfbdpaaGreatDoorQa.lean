/-
  Words for memory that the walks of this place share: what a call leaves ('Below'), a block known whole ('Own'), a slice that reads as a list ('Rd'). No conditions; any program.
  The plain mathematics of layer 3 (package bv): bits of natural numbers, one bit put in place, carries and borrows, products and quotients bit by bit. No conditions; nothing of the program.
  The plain mathematics of layer 4 (package vec): bits as integers, vectors as lists of bits with a sign, the operators as functions on them. No conditions; nothing of the program.
  Slices of bits as lists: 'Rb' (a slice that reads as a list), 'Nb' (such a slice in a row of the call's own), and the laws of make and append in these words. No conditions.
-/
import Derived.WalkKit
import Derived.Below
import Derived.Lib.Hide
import Derived.Deep.Draws
import Derived.Laws.OwnMore
import Derived.OwnWalk
import Derived.Deep.AppendLies
import Derived.Test.YtgojnpblhfbdpaaGreatDoorProg
import Derived.Maps.AppendAt
import Derived.Laws.MakeOwn
import Derived.Deep.OwnRows
import Derived.Laws.CopyOwn
import Derived.Laws.AppendOwnNone
import Derived.Laws.Rows
import Derived.Laws.ResultCell

namespace Go.Proofs.YtgojnpblhfbdpaaGreatDoor
open Go Go.RowKit

theorem bcell {W w1 : World} (hb : Below W.heap.size W w1) : (∀ b o, b < W.heap.size → w1.cell? ⟨b, o, none⟩ = W.cell? ⟨b, o, none⟩) ∧ (∀ b o, b < W.heap.size → w1.frozen? ⟨b, o, none⟩ = W.frozen? ⟨b, o, none⟩) :=
  ⟨fun b o h => hb.cell (p := ⟨b, o, none⟩) h, fun b o h => hb.frozen (p := ⟨b, o, none⟩) h⟩
theorem below_drewN {B : Nat} {a w : World} (h : Below B a w) (n : Nat) : Below B a (w.drewN n) := ⟨h.os, h.tape, h.output, h.size, h.block⟩
theorem below_step {w b c : World} (h : Below w.heap.size w b) (k : Below b.heap.size b c) : Below w.heap.size w c := h.trans (k.mono h.size)
theorem below_new {w b : World} (h : Below w.heap.size w b) (o : Obj) : Below w.heap.size w (b.alloc o) := h.alloc h.size o
theorem below_set {w b : World} (h : Below w.heap.size w b) {p : Addr} (hp : w.heap.size ≤ p.block) (v : Value) : Below w.heap.size w (b.setCell p v) := h.setCell hp v
theorem below_of_drewN {w : World} {n : Nat} {b : World} (h : Below (w.drewN n).heap.size (w.drewN n) b) : Below w.heap.size w b := ⟨h.os, h.tape, h.output, h.size, h.block⟩
theorem ret_i {k : IntKind} {a b : Int} (h : a = b) : Ending.returned (.int k a) = .returned (.int k b) := by rw [h]
theorem ret_b {a b : Bool} (h : a = b) : Ending.returned (.bool a) = .returned (.bool b) := by rw [h]

/-- Block g is just these cells, none of them frozen. -/
def Own (w : World) (g : Nat) (t : TypeId) (cs : Array Value) : Prop := w.heap[g]? = some (.cells cs t (0, 0))
section
variable {w u : World} {g : Nat} {t : TypeId} {cs : Array Value}
theorem Own.lt (h : Own w g t cs) : g < w.heap.size := (Array.getElem?_eq_some_iff.1 h).1
theorem Own.cell (h : Own w g t cs) : ∀ i, w.cell? ⟨g, i, none⟩ = cs[i]? := fun i => by
  unfold World.cell?
  rw [show w.heap[(⟨g, i, none⟩ : Addr).block]? = _ from h]
  rfl
theorem Own.free (h : Own w g t cs) : ∀ i, w.frozen? ⟨g, i, none⟩ = false := fun i => by
  unfold World.frozen?
  rw [show w.heap[(⟨g, i, none⟩ : Addr).block]? = _ from h]
  simp
theorem Own.new (w : World) (t : TypeId) (cs : Array Value) : Own (w.alloc (.cells cs t)) w.heap.size t cs := by
  show (w.heap.push _)[w.heap.size]? = _
  simp
theorem Own.alloc (h : Own w g t cs) (o : Obj) : Own (w.alloc o) g t cs := (Below.heap_alloc w o g h.lt).trans h
theorem Own.drewN (h : Own w g t cs) (n : Nat) : Own (w.drewN n) g t cs := h
theorem Own.drew (h : Own w g t cs) : Own w.drew g t cs := h
theorem Own.put (h : Own w g t cs) (i : Nat) (v : Value) : Own (w.setCell ⟨g, i, none⟩ v) g t (cs.setIfInBounds i v) := by
  have h' : w.heap[g]? = some (.cells cs t (0, 0)) := h
  show (w.setCell _ v).heap[g]? = _
  simp [World.setCell, Array.getElem?_modify, h']
theorem Own.far (h : Own w g t cs) {p : Addr} (hp : g ≠ p.block) (v : Value) : Own (w.setCell p v) g t cs := (Below.heap_setCell w p v g hp).trans h
theorem Own.below {B : Nat} (h : Own w g t cs) (hb : Below B w u) (hg : g < B) : Own u g t cs := (hb.block g hg).trans h
theorem Own.step (h : Own w g t cs) (hb : Below w.heap.size w u) : Own u g t cs := h.below hb h.lt
theorem Own.grown {row : Option Nat} (h : Own w g t cs) (hb : w.grownBy u row) (hg : some g ≠ row) : Own u g t cs := (hb.block g h.lt hg).trans h
end
end Go.Proofs.YtgojnpblhfbdpaaGreatDoor

namespace Go.Proofs.YtgojnpblhfbdpaaGreatDoor

theorem pow_s (k : Nat) : 2 ^ (k + 1) = 2 * 2 ^ k := by rw [Nat.pow_succ, Nat.mul_comm]
theorem pow_p (k : Nat) : 0 < 2 ^ k := Nat.pow_pos (by decide)
theorem toNat_le (b : Bool) : b.toNat ≤ 1 := by cases b <;> decide

/-- The lowest k + 1 bits are the lowest k and the next one. -/
theorem mod_step (x k : Nat) : x % 2 ^ (k + 1) = x % 2 ^ k + 2 ^ k * (x.testBit k).toNat := by
  rw [Nat.toNat_testBit, Nat.pow_succ, Nat.mod_mul]
/-- What is left without the lowest k bits. -/
theorem div_step (x k : Nat) : x / 2 ^ k = 2 * (x / 2 ^ (k + 1)) + (x.testBit k).toNat := by
  rw [Nat.toNat_testBit, Nat.pow_succ, ← Nat.div_div_eq_div_mul]
  omega
theorem mod_lt' (x k : Nat) : x % 2 ^ k < 2 ^ k := Nat.mod_lt _ (pow_p k)

/-- x with the bit p put to s. -/
def setb (x p : Nat) (s : Bool) : Nat := x - 2 ^ p * (x.testBit p).toNat + 2 ^ p * s.toNat
theorem bit_le (x p : Nat) : 2 ^ p * (x.testBit p).toNat ≤ x := by
  rw [Nat.toNat_testBit]
  have h := Nat.div_mul_le_self x (2 ^ p)
  have h2 : x / 2 ^ p % 2 ≤ x / 2 ^ p := Nat.mod_le _ _
  calc 2 ^ p * (x / 2 ^ p % 2) ≤ 2 ^ p * (x / 2 ^ p) := Nat.mul_le_mul_left _ h2
    _ = x / 2 ^ p * 2 ^ p := Nat.mul_comm _ _
    _ ≤ x := h
theorem setb_split (x p : Nat) (s : Bool) : setb x p s = 2 ^ p * (2 * (x / 2 ^ (p + 1)) + s.toNat) + x % 2 ^ p := by
  have h := div_step x p
  have e : x = 2 ^ p * (x / 2 ^ p) + x % 2 ^ p := (Nat.div_add_mod x (2 ^ p)).symm
  have hle := bit_le x p
  unfold setb
  rw [h] at e
  rw [Nat.mul_add] at e ⊢
  omega
theorem setb_bit (x p : Nat) (s : Bool) (i : Nat) : (setb x p s).testBit i = if i = p then s else x.testBit i := by
  rw [setb_split, Nat.testBit_two_pow_mul_add _ (mod_lt' x p)]
  by_cases h : i < p
  · rw [if_pos h, if_neg (by omega), Nat.testBit_mod_two_pow]; simp [h]
  · rw [if_neg h]
    by_cases h2 : i = p
    · subst h2; rw [if_pos rfl, Nat.sub_self, Nat.testBit_zero]; cases s <;> simp <;> omega
    · rw [if_neg h2]
      obtain ⟨j, rfl⟩ : ∃ j, i = p + 1 + j := ⟨i - p - 1, by omega⟩
      rw [show p + 1 + j - p = j + 1 by omega, Nat.testBit_add_one]
      have : (2 * (x / 2 ^ (p + 1)) + s.toNat) / 2 = x / 2 ^ (p + 1) := by have := toNat_le s; omega
      rw [this, Nat.testBit_div_two_pow]
      congr 1; omega
theorem setb_eq (x p : Nat) (s : Bool) : setb x p s + 2 ^ p * (x.testBit p).toNat = x + 2 ^ p * s.toNat := by
  have := bit_le x p; unfold setb; omega
theorem lt_of_bits {x n : Nat} (h : ∀ i, n ≤ i → x.testBit i = false) : x < 2 ^ n := Nat.lt_pow_two_of_testBit x h
theorem setb_lt {x p n : Nat} {s : Bool} (hx : x < 2 ^ n) (hp : p < n) : setb x p s < 2 ^ n := lt_of_bits fun i hi => by
  rw [setb_bit, if_neg (by omega)]
  exact Nat.testBit_lt_two_pow (Nat.lt_of_lt_of_le hx (Nat.pow_le_pow_right (by decide) hi))
theorem high_bit {x k i : Nat} (h : x < 2 ^ k) (hi : k ≤ i) : x.testBit i = false := Nat.testBit_lt_two_pow (Nat.lt_of_lt_of_le h (Nat.pow_le_pow_right (by decide) hi))
theorem setb_new {x k : Nat} {s : Bool} (h : x < 2 ^ k) : setb x k s = x + 2 ^ k * s.toNat := by
  unfold setb; rw [high_bit h (Nat.le_refl _)]; simp
theorem add_bit {x k : Nat} (s : Bool) (h : x < 2 ^ k) (i : Nat) : (x + 2 ^ k * s.toNat).testBit i = if i = k then s else x.testBit i := by
  rw [← setb_new h]; exact setb_bit x k s i
theorem add_bit_lt {x k : Nat} (s : Bool) (h : x < 2 ^ k) : x + 2 ^ k * s.toNat < 2 ^ (k + 1) := by
  have := pow_s k; cases s <;> simp <;> omega

/-- A full adder. -/
theorem full (x y c : Bool) : ((x != y) != c).toNat + 2 * (x && y || c && (x || y)).toNat = x.toNat + y.toNat + c.toNat := by
  cases x <;> cases y <;> cases c <;> rfl
theorem add_step {S P X Y C x y c : Nat} {s c' : Nat} (h : S + P * c = X + Y + C) (hf : s + 2 * c' = x + y + c) : (S + P * s) + 2 * P * c' = (X + P * x) + (Y + P * y) + C := by
  have : P * s + 2 * P * c' = P * x + P * y + P * c := by
    rw [← Nat.mul_add, ← Nat.mul_add, ← hf, Nat.mul_add, Nat.mul_comm 2 P, Nat.mul_assoc]
  omega
/-- The lowest bits of a sum. -/
theorem sum_mod {S n c T : Nat} (h : S + 2 ^ n * c = T) (hs : S < 2 ^ n) : S = T % 2 ^ n := by
  rw [← h, Nat.add_mul_mod_self_left, Nat.mod_eq_of_lt hs]

/-- The complement of the lowest n bits. -/
theorem compl_step (x k : Nat) (b : Bool) (C : Nat) (h : C + x % 2 ^ k + 1 = 2 ^ k) (hb : b = !x.testBit k) : (C + 2 ^ k * b.toNat) + x % 2 ^ (k + 1) + 1 = 2 ^ (k + 1) := by
  rw [mod_step, pow_s]; subst hb; cases x.testBit k <;> simp <;> omega
end Go.Proofs.YtgojnpblhfbdpaaGreatDoor

namespace Go.Proofs.YtgojnpblhfbdpaaGreatDoor

def stI (a : Int) : Int := if a > 3 then 2 else a
def tabI (l : List Int) (k : Int) : Int := l.getD k.toNat 2
def andI (a b : Int) : Int := tabI [0, 0, 0, 0, 0, 1, 2, 2, 0, 2, 2, 2, 0, 2, 2, 2] (4 * stI a + stI b)
def orI (a b : Int) : Int := tabI [0, 1, 2, 2, 1, 1, 1, 1, 2, 1, 2, 2, 2, 1, 2, 2] (4 * stI a + stI b)
def xorI (a b : Int) : Int := tabI [0, 1, 2, 2, 1, 0, 2, 2, 2, 2, 2, 2, 2, 2, 2, 2] (4 * stI a + stI b)
def comI (a b : Int) : Int := tabI [0, 2, 2, 2, 2, 1, 2, 2, 2, 2, 2, 2, 2, 2, 2, 2] (4 * stI a + stI b)
def notI (a : Int) : Int := tabI [1, 0, 2, 2] (stI a)
def bufI (a : Int) : Int := tabI [0, 1, 2, 2] (stI a)
def muxI (s a b : Int) : Int := if s = 0 then bufI b else if s = 1 then bufI a else comI a b
def eqI (a b : Int) : Int := notI (xorI a b)
def knownB (a : Int) : Bool := a == 0 || a == 1
def validB (a : Int) : Bool := decide (a ≤ 3)
def sameB (a b : Int) : Bool := stI a == stI b
def leqB (a b : Int) : Bool := sameB a b || (!knownB a && knownB b)
def fromI (v : Bool) : Int := if v then 1 else 0

/-- Bit i of a vector. -/
def nth (l : List Int) (i : Nat) : Int := l.getD i 2
/-- The vector of n bits whose bit i is f i. -/
def tab (n : Nat) (f : Nat → Int) : List Int := (List.range n).map f
theorem tab_len (n : Nat) (f : Nat → Int) : (tab n f).length = n := by simp [tab]
theorem nth_tab {n i : Nat} (f : Nat → Int) (h : i < n) : nth (tab n f) i = f i := by simp [nth, tab, List.getD_eq_getElem?_getD, h]
theorem nth_out {l : List Int} {i : Nat} (h : l.length ≤ i) : nth l i = 2 := by simp [nth, List.getD_eq_getElem?_getD, List.getElem?_eq_none h]
theorem nth_get {l : List Int} {i : Nat} (h : i < l.length) : l[i]? = some (nth l i) := by simp [nth, List.getD_eq_getElem?_getD, h]
theorem nth_mem {l : List Int} {i : Nat} (h : i < l.length) : nth l i ∈ l := by
  have := nth_get h; exact List.mem_of_getElem? this
theorem list_ext {l m : List Int} (hl : l.length = m.length) (h : ∀ i, i < l.length → nth l i = nth m i) : l = m := by
  apply List.ext_getElem?
  intro i
  by_cases hi : i < l.length
  · rw [nth_get hi, nth_get (by omega), h i hi]
  · rw [List.getElem?_eq_none (by omega), List.getElem?_eq_none (by omega)]
theorem tab_nth (l : List Int) : tab l.length (nth l) = l := list_ext (by rw [tab_len]) fun i hi => nth_tab _ (by rwa [tab_len] at hi)
theorem tab_congr {n : Nat} {f g : Nat → Int} (h : ∀ i, i < n → f i = g i) : tab n f = tab n g := list_ext (by rw [tab_len, tab_len]) fun i hi => by
  rw [tab_len] at hi; rw [nth_tab _ hi, nth_tab _ hi, h i hi]
theorem tab_take {n k : Nat} (f : Nat → Int) (h : k ≤ n) : (tab n f).take k = tab k f := list_ext (by simp [tab_len, h]) fun i hi => by
  have hi : i < k := by simp [tab_len] at hi; omega
  rw [nth_tab _ hi]; simp only [nth, List.getD_eq_getElem?_getD, List.getElem?_take, hi, if_true]
  have := nth_get (l := tab n f) (i := i) (by rw [tab_len]; omega)
  rw [this, nth_tab _ (by omega)]; rfl
theorem tab_snoc (n : Nat) (f : Nat → Int) : tab (n + 1) f = tab n f ++ [f n] := by simp [tab, List.range_succ]
theorem tab_zero (f : Nat → Int) : tab 0 f = [] := rfl

/-- A vector. -/
structure V where
  l : List Int
  s : Bool
deriving DecidableEq

theorem V.ext' {a b : V} (h : a.l = b.l) (k : a.s = b.s) : a = b := by cases a; cases b; simp_all
def nnL (l : List Int) : Prop := ∀ x ∈ l, 0 ≤ x
theorem nnL.nth {l : List Int} (h : nnL l) (i : Nat) : 0 ≤ nth l i := by
  by_cases hi : i < l.length
  · exact h _ (nth_mem hi)
  · rw [nth_out (by omega)]; decide
theorem nnL_tab {n : Nat} {f : Nat → Int} (h : ∀ i, i < n → 0 ≤ f i) : nnL (tab n f) := by
  intro x hx; simp only [tab, List.mem_map, List.mem_range] at hx; obtain ⟨i, hi, rfl⟩ := hx; exact h i hi
/-- All bits valid, and at least one but not too many. -/
def badB (a : Int) : Bool := !validB a
def okB (l : List Int) : Bool := decide (0 < l.length) && decide (l.length ≤ 128) && !l.any badB
def chk (l : List Int) : Int := if l.length = 0 then 4 else if 128 < l.length then 5 else if l.any badB then 1 else 0
theorem chk_ok (l : List Int) : chk l = 0 ↔ okB l = true := by
  unfold chk okB
  split
  · rename_i h; simp [h]
  · split
    · rename_i h h2; simp; omega
    · rename_i h h2
      cases h3 : l.any badB <;> simp <;> omega
def nrm (v : V) : V := if okB v.l then v else ⟨[2], false⟩
theorem nrm_ok (v : V) : okB (nrm v).l = true := by unfold nrm; split; assumption; rfl
theorem nrm_of {v : V} (h : okB v.l = true) : nrm v = v := by unfold nrm; rw [if_pos h]
theorem nrm_no {v : V} (h : okB v.l = false) : nrm v = ⟨[2], false⟩ := by unfold nrm; rw [h]; rfl
theorem nrm_nrm (v : V) : nrm (nrm v) = nrm v := nrm_of (nrm_ok v)
theorem ok_len {l : List Int} (h : okB l = true) : 0 < l.length ∧ l.length ≤ 128 := by
  unfold okB at h; simp only [Bool.and_eq_true, decide_eq_true_eq] at h; exact h.1
theorem ok_le {l : List Int} (h : okB l = true) (i : Nat) : nth l i ≤ 3 := by
  by_cases hi : i < l.length
  · unfold okB at h
    simp only [Bool.and_eq_true, Bool.not_eq_true', List.any_eq_false] at h
    have := h.2 _ (nth_mem hi)
    simpa [badB, validB] using this
  · rw [nth_out (by omega)]; decide
theorem ok_mk {l : List Int} (h0 : 0 < l.length) (h1 : l.length ≤ 128) (h : ∀ i, i < l.length → nth l i ≤ 3) : okB l = true := by
  unfold okB
  simp only [Bool.and_eq_true, decide_eq_true_eq, Bool.not_eq_true', List.any_eq_false]
  refine ⟨⟨h0, h1⟩, fun x hx => ?_⟩
  obtain ⟨i, hi, rfl⟩ := List.mem_iff_getElem.1 hx
  have e : nth l i = l[i] := by simp [nth, List.getD_eq_getElem?_getD, hi]
  have := h i hi
  rw [e] at this
  simpa [badB, validB] using this
theorem nrm_len (v : V) : 0 < (nrm v).l.length ∧ (nrm v).l.length ≤ 128 := ok_len (nrm_ok v)
theorem nrm_le (v : V) (i : Nat) : nth (nrm v).l i ≤ 3 := ok_le (nrm_ok v) i
theorem nrm_nn {v : V} (h : nnL v.l) : nnL (nrm v).l := by unfold nrm; split; exact h; (intro x hx; simp at hx; omega)

def knL (l : List Int) : Bool := l.all knownB
def kn (v : V) : Bool := knL (nrm v).l
def leqV (a b : V) : Bool := (nrm a).s == (nrm b).s && ((nrm a).l.length == (nrm b).l.length && (List.range (nrm a).l.length).all fun i => leqB (nth (nrm a).l i) (nth (nrm b).l i))
/-- The bit by which a vector is extended. -/
def fill (v : V) : Int := if v.s then nth v.l (v.l.length - 1) else 0
def ext (v : V) (i : Nat) : Int := if i < v.l.length then nth v.l i else fill v
def fitV (v : V) (n : Nat) : V := ⟨tab n (ext v), v.s⟩
def balS (a b : V) : Bool := (nrm a).s && (nrm b).s
def balN (a b : V) : Nat := max (nrm a).l.length (nrm b).l.length
def balL (a b : V) : V := fitV ⟨(nrm a).l, balS a b⟩ (balN a b)
def balR (a b : V) : V := fitV ⟨(nrm b).l, balS a b⟩ (balN a b)
def bwV (f : Int → Int → Int) (a b : V) : V := ⟨tab (balN a b) fun i => f (nth (balL a b).l i) (nth (balR a b).l i), balS a b⟩
/-- The first k + 1 bits combined. -/
def redU (f : Int → Int → Int) (l : List Int) : Nat → Int
  | 0 => bufI (nth l 0)
  | k + 1 => f (redU f l k) (nth l (k + 1))
def red (f : Int → Int → Int) (v : V) : Int := redU f (nrm v).l ((nrm v).l.length - 1)
def one1 (b : Int) : V := ⟨[b], false⟩
def truth (v : V) : Int := red orI v
def notV (v : V) : V := ⟨tab (nrm v).l.length fun i => notI (nth (nrm v).l i), (nrm v).s⟩
def allV (b : Int) (n : Nat) (s : Bool) : V := ⟨tab n fun _ => b, s⟩
/-- The number of a known vector, and back. -/
def num : List Int → Nat
  | [] => 0
  | b :: l => (if b = 1 then 1 else 0) + 2 * num l
def frN (n x : Nat) : List Int := tab n fun i => fromI (x.testBit i)
theorem num_lt : ∀ l : List Int, num l < 2 ^ l.length
  | [] => by decide
  | b :: l => by have := num_lt l; rw [num, List.length_cons, Nat.pow_succ]; split <;> omega
theorem num_bit : ∀ (l : List Int) (i : Nat), (num l).testBit i = (nth l i == 1)
  | [], i => by simp [num, nth]
  | b :: l, 0 => by
    rw [num, Nat.testBit_zero]; simp only [nth, List.getD_cons_zero]
    by_cases h : b = 1
    · subst h; simp
    · simp [h]
  | b :: l, i + 1 => by
    rw [num, Nat.testBit_add_one, show ((if b = 1 then 1 else 0) + 2 * num l) / 2 = num l by split <;> omega, num_bit l i]
    rfl
theorem num_frN {n x : Nat} (h : x < 2 ^ n) : num (frN n x) = x := by
  apply Nat.eq_of_testBit_eq
  intro i
  rw [num_bit]
  by_cases hi : i < n
  · rw [frN, nth_tab _ hi]; cases x.testBit i <;> rfl
  · rw [nth_out (by rw [frN, tab_len]; omega), high_bit h (by omega)]; rfl
theorem knL_iff {l : List Int} : knL l = true ↔ ∀ i, i < l.length → nth l i = 0 ∨ nth l i = 1 := by
  unfold knL
  rw [List.all_eq_true]
  constructor
  · intro h i hi
    have := h _ (nth_mem hi)
    simpa [knownB] using this
  · intro h x hx
    obtain ⟨i, hi, rfl⟩ := List.mem_iff_getElem.1 hx
    have e : nth l i = l[i] := by simp [nth, List.getD_eq_getElem?_getD, hi]
    have := h i hi
    rw [e] at this
    simpa [knownB] using this
theorem frN_num {l : List Int} (h : knL l = true) : frN l.length (num l) = l := list_ext (by rw [frN, tab_len]) fun i hi => by
  rw [frN, tab_len] at hi
  rw [frN, nth_tab _ hi, num_bit]
  rcases knL_iff.1 h i hi with e | e <;> rw [e] <;> rfl
theorem frN_kn (n x : Nat) : knL (frN n x) = true := knL_iff.2 fun i hi => by
  rw [frN, tab_len] at hi
  rw [frN, nth_tab _ hi]; cases x.testBit i <;> decide
theorem frN_len (n x : Nat) : (frN n x).length = n := tab_len _ _
/-- Arithmetic on balanced operands: f gives the number, or nothing. -/
def arV (f : Nat → Nat → Nat → Option Nat) (a b : V) : V :=
  if knL (balL a b).l && knL (balR a b).l then
    match f (balN a b) (num (balL a b).l) (num (balR a b).l) with
    | some x => ⟨frN (balN a b) x, balS a b⟩
    | none => allV 2 (balN a b) (balS a b)
  else allV 2 (balN a b) (balS a b)

theorem bal_len (a b : V) : (balL a b).l.length = balN a b ∧ (balR a b).l.length = balN a b := ⟨tab_len _ _, tab_len _ _⟩
theorem balN_bd (a b : V) : 0 < balN a b ∧ balN a b ≤ 128 := by
  have h1 := nrm_len a; have h2 := nrm_len b; unfold balN; omega
theorem fill_le {v : V} (h : ∀ i, nth v.l i ≤ 3) : fill v ≤ 3 := by unfold fill; split; exact h _; decide
theorem ext_le {v : V} (h : ∀ i, nth v.l i ≤ 3) (i : Nat) : ext v i ≤ 3 := by unfold ext; split; exact h _; exact fill_le h
theorem fill_nn {v : V} (h : nnL v.l) : 0 ≤ fill v := by unfold fill; split; exact h.nth _; decide
theorem ext_nn {v : V} (h : nnL v.l) (i : Nat) : 0 ≤ ext v i := by unfold ext; split; exact h.nth _; exact fill_nn h
theorem fit_ok {v : V} {n : Nat} (h : ∀ i, nth v.l i ≤ 3) (h0 : 0 < n) (h1 : n ≤ 128) : okB (fitV v n).l = true := ok_mk (by rw [fitV, tab_len]; exact h0) (by rw [fitV, tab_len]; exact h1) fun i hi => by
  rw [fitV, tab_len] at hi; rw [fitV, nth_tab _ hi]; exact ext_le h i
theorem fit_nn {v : V} {n : Nat} (h : nnL v.l) : nnL (fitV v n).l := nnL_tab fun i _ => ext_nn h i
theorem balL_ok (a b : V) : okB (balL a b).l = true := fit_ok (v := ⟨(nrm a).l, balS a b⟩) (nrm_le a) (balN_bd a b).1 (balN_bd a b).2
theorem balR_ok (a b : V) : okB (balR a b).l = true := fit_ok (v := ⟨(nrm b).l, balS a b⟩) (nrm_le b) (balN_bd a b).1 (balN_bd a b).2
theorem balL_nn {a b : V} (h : nnL a.l) : nnL (balL a b).l := fit_nn (v := ⟨(nrm a).l, balS a b⟩) (nrm_nn h)
theorem balR_nn {a b : V} (h : nnL b.l) : nnL (balR a b).l := fit_nn (v := ⟨(nrm b).l, balS a b⟩) (nrm_nn h)

/-! The bits' own facts. -/
theorem bit_cases {a : Int} (h : 0 ≤ a) (k : a ≤ 3) : a = 0 ∨ a = 1 ∨ a = 2 ∨ a = 3 := by omega
theorem stI_bd {a : Int} (h : 0 ≤ a) : 0 ≤ stI a ∧ stI a ≤ 3 := by unfold stI; split <;> omega
theorem stI_of {a : Int} (k : a ≤ 3) : stI a = a := by unfold stI; split <;> omega
theorem tabI_bd (l : List Int) (h : ∀ x ∈ l, 0 ≤ x ∧ x ≤ 2) (k : Int) : 0 ≤ tabI l k ∧ tabI l k ≤ 2 := by
  unfold tabI
  rw [List.getD_eq_getElem?_getD]
  by_cases hk : k.toNat < l.length
  · rw [List.getElem?_eq_getElem hk]
    exact h _ (List.getElem_mem _)
  · rw [List.getElem?_eq_none (by omega)]
    decide
theorem andI_bd (a b : Int) : 0 ≤ andI a b ∧ andI a b ≤ 2 := tabI_bd _ (by decide) _
theorem orI_bd (a b : Int) : 0 ≤ orI a b ∧ orI a b ≤ 2 := tabI_bd _ (by decide) _
theorem xorI_bd (a b : Int) : 0 ≤ xorI a b ∧ xorI a b ≤ 2 := tabI_bd _ (by decide) _
theorem comI_bd (a b : Int) : 0 ≤ comI a b ∧ comI a b ≤ 2 := tabI_bd _ (by decide) _
theorem notI_bd (a : Int) : 0 ≤ notI a ∧ notI a ≤ 2 := tabI_bd _ (by decide) _
theorem bufI_bd (a : Int) : 0 ≤ bufI a ∧ bufI a ≤ 2 := tabI_bd _ (by decide) _
theorem eqI_bd (a b : Int) : 0 ≤ eqI a b ∧ eqI a b ≤ 2 := notI_bd _
theorem muxI_bd (s a b : Int) : 0 ≤ muxI s a b ∧ muxI s a b ≤ 2 := by unfold muxI; split; exact bufI_bd _; (split; exact bufI_bd _; exact comI_bd _ _)
theorem fromI_bd (v : Bool) : 0 ≤ fromI v ∧ fromI v ≤ 1 := by cases v <;> decide
theorem redU_bd {f : Int → Int → Int} (hf : ∀ a b, 0 ≤ f a b ∧ f a b ≤ 2) (l : List Int) (k : Nat) : 0 ≤ redU f l k ∧ redU f l k ≤ 2 := by
  cases k with
  | zero => exact bufI_bd _
  | succ k => exact hf _ _
theorem orI_zero {b : Int} (h : 0 ≤ b) : orI 0 b = bufI b := by
  unfold orI bufI
  have := stI_bd h
  generalize stI b = s at *
  rcases bit_cases this.1 this.2 with rfl | rfl | rfl | rfl <;> decide
theorem bufI_eqI (a b : Int) : bufI (eqI a b) = eqI a b := by
  have := eqI_bd a b
  generalize eqI a b = s at *
  rcases bit_cases this.1 (by omega) with rfl | rfl | rfl | rfl <;> first | decide | omega
theorem andI_one {b : Int} (h : 0 ≤ b) : andI 1 b = bufI b := by
  unfold andI bufI
  have := stI_bd h
  generalize stI b = s at *
  rcases bit_cases this.1 this.2 with rfl | rfl | rfl | rfl <;> decide
end Go.Proofs.YtgojnpblhfbdpaaGreatDoor

namespace Go.Proofs.YtgojnpblhfbdpaaGreatDoor
open Go Go.RowKit

theorem Own.at1 (w : World) (t : TypeId) (cs : Array Value) {g : Nat} (h : w.heap.size = g) : Own (w.alloc (.cells cs t)) g t cs := h ▸ Own.new w t cs
def il (l : List Int) : List Value := l.map (Value.int .u8)
def ia (l : List Int) : Array Value := (il l).toArray
theorem il_length (l : List Int) : (il l).length = l.length := by simp [il]
theorem ia_size (l : List Int) : (ia l).size = l.length := by simp [ia, il]
theorem il_get {l : List Int} {i : Nat} (h : i < l.length) : (il l)[i]? = some (.int .u8 (nth l i)) := by simp [il, nth_get h]
theorem ia_get {l : List Int} {i : Nat} (h : i < l.length) : (ia l)[i]? = some (.int .u8 (nth l i)) := by simp [ia, il, nth_get h]
theorem il_one (l : List Int) : ∀ u ∈ il l, u.oneCell' = true := fun u hu => by
  simp only [il, List.mem_map] at hu; obtain ⟨i, _, rfl⟩ := hu; rfl
theorem il_cat (l m : List Int) : il l ++ il m = il (l ++ m) := by simp [il]
theorem il_set (l : List Int) (p : Nat) (v : Int) : (il l).set p (.int .u8 v) = il (l.set p v) := by simp [il, List.map_set]
theorem ia_set (l : List Int) (p : Nat) (v : Int) : (ia l).setIfInBounds p (.int .u8 v) = ia (l.set p v) := by simp [ia, il, List.map_set]
theorem ia_made (n : Nat) : madeCells #[.int .u8 0] n = ia (tab n fun _ => 0) := by
  apply Array.ext_getElem?
  intro i
  by_cases h2 : i < n
  · rw [ia_get (by rw [tab_len]; exact h2), nth_tab _ h2]; simp [madeCells, h2, Nat.mod_one]
  · rw [Array.getElem?_eq_none (by rw [size_madeCells]; omega), Array.getElem?_eq_none (by rw [ia_size, tab_len]; omega)]

/-- The slice at A of length n reads as the bits l. -/
def Rb (w : World) (A : Option Addr) (n : Nat) (l : List Int) : Prop := l.length = n ∧ nnL l ∧ (0 < n → ∃ b o, A = some ⟨b, o, none⟩ ∧ b < w.heap.size ∧ ∀ i, i < n → w.cell? ⟨b, o + i, none⟩ = some (.int .u8 (nth l i)))
/-- .. and lies in a row that was made behind block B. -/
def Nb (w : World) (B : Nat) (A : Option Addr) (n c : Nat) (l : List Int) : Prop := l.length = n ∧ nnL l ∧ w.ownsRow B 58 1 (.slice A n c) n (il l)

section
variable {w u W : World} {A : Option Addr} {n c B g : Nat} {l : List Int}
theorem Rb.len (h : Rb w A n l) : l.length = n := h.1
theorem Rb.nn (h : Rb w A n l) : nnL l := h.2.1
theorem Rb.at_ {k : Nat} (h : Rb w A n l) (hk : k < n) : ∃ b o, A = some ⟨b, o, none⟩ ∧ b < w.heap.size ∧ w.cell? ⟨b, o + k, none⟩ = some (.int .u8 (nth l k)) := by
  obtain ⟨b, o, e, hb, hc⟩ := h.2.2 (by omega)
  exact ⟨b, o, e, hb, hc k hk⟩
theorem Rb.step (h : Rb w A n l) (hb : Below w.heap.size w u) : Rb u A n l :=
  ⟨h.1, h.2.1, fun hn => by
    obtain ⟨b, o, e, hlt, hc⟩ := h.2.2 hn
    exact ⟨b, o, e, Nat.lt_of_lt_of_le hlt hb.size, fun i hi => (hb.cell (p := ⟨b, o + i, none⟩) hlt).trans (hc i hi)⟩⟩
theorem Rb.at_later (hb : Below w.heap.size w u) (h : Rb w A n l) : Rb u A n l := h.step hb
theorem Rb.alloc (h : Rb w A n l) (o : Obj) : Rb (w.alloc o) A n l := h.step (below_new (Below.refl _ _) o)
theorem Rb.drewN (h : Rb w A n l) (k : Nat) : Rb (w.drewN k) A n l := h
theorem Rb.drew (h : Rb w A n l) : Rb w.drew A n l := h
theorem Rb.nil (w : World) : Rb w none 0 [] := ⟨rfl, fun _ h => by simp at h, fun h => absurd h (by decide)⟩
theorem Rb.of_own (h : Own w g 58 (ia l)) (hl : nnL l) (hn : l.length = n) : Rb w (some ⟨g, 0, none⟩) n l :=
  ⟨hn, hl, fun _ => ⟨g, 0, rfl, h.lt, fun i hi => by rw [Nat.zero_add, h.cell i, ia_get (by omega)]⟩⟩
theorem Nb.rd (h : Nb w B A n c l) : Rb w A n l := by
  refine ⟨h.1, h.2.1, fun hn => ?_⟩
  obtain ⟨g, cap, e, _, hlt⟩ := h.2.2.form hn
  simp only [Value.slice.injEq] at e
  obtain ⟨rfl, _, rfl⟩ := e
  exact ⟨g, 0, rfl, hlt, fun i hi => by rw [Nat.zero_add, h.2.2.cellAt i (by omega), il_get (by rw [h.1]; exact hi)]⟩
theorem Nb.len (h : Nb w B A n c l) : l.length = n := h.1
theorem Nb.nn (h : Nb w B A n c l) : nnL l := h.2.1
theorem Nb.le (h : Nb w B A n c l) : n ≤ c := by
  rcases h.2.2.2 with ⟨e, h0⟩ | ⟨g, cap, cur, e, _, _, hc, _⟩
  · have := h.1; simp only [Value.slice.injEq] at e; omega
  · simp only [Value.slice.injEq] at e; omega
theorem Nb.mono {B' : Nat} (h : Nb w B A n c l) (hB : B' ≤ B) : Nb w B' A n c l :=
  ⟨h.1, h.2.1, h.2.2.1, h.2.2.2.imp id fun ⟨g, cap, cur, h1, h2, h3⟩ => ⟨g, cap, cur, h1, Nat.le_trans hB h2, h3⟩⟩
theorem Nb.step (h : Nb w B A n c l) (hb : Below w.heap.size w u) : Nb u B A n c l := by
  refine ⟨h.1, h.2.1, h.2.2.1, h.2.2.2.imp id fun ⟨g, cap, cur, h1, h2, h3, h4⟩ => ⟨g, cap, cur, h1, h2, ?_, h4⟩⟩
  exact (hb.block g (Array.getElem?_eq_some_iff.1 h3).1).trans h3
theorem Nb.at_later (hb : Below w.heap.size w u) (h : Nb w B A n c l) : Nb u B A n c l := h.step hb
theorem Nb.alloc (h : Nb w B A n c l) (o : Obj) : Nb (w.alloc o) B A n c l := h.step (below_new (Below.refl _ _) o)
theorem Nb.drewN (h : Nb w B A n c l) (k : Nat) : Nb (w.drewN k) B A n c l := h
theorem Nb.drew (h : Nb w B A n c l) : Nb w.drew B A n c l := h
theorem Nb.nil (w : World) (B : Nat) : Nb w B none 0 0 [] := ⟨rfl, fun _ h => by simp at h, by simp [il], .inl ⟨rfl, rfl⟩⟩
theorem Nb.of_own (h : Own w g 58 (ia l)) (hl : nnL l) (hn : l.length = n) (hB : B ≤ g) (hm : n ≤ maxLen) : Nb w B (some ⟨g, 0, none⟩) n n l :=
  ⟨hn, hl, by simp [il_length, hn], .inr ⟨g, n, ia l, rfl, hB, h, Nat.le_refl _, hm, by simp [ia_size, hn], by simp [ia, List.take_of_length_le, il_length, hn]⟩⟩
theorem Nb.own (h : Nb w B A n c l) (hn : 0 < n) : ∃ g cur, A = some ⟨g, 0, none⟩ ∧ B ≤ g ∧ Own w g 58 cur ∧ cur.toList.take n = il l ∧ n ≤ cur.size := by
  rcases h.2.2.2 with ⟨e, h0⟩ | ⟨g, cap, cur, e, hB, hh, hc, hm, hs, ht⟩
  · have := h.1; simp only [Value.slice.injEq] at e; omega
  · simp only [Value.slice.injEq] at e
    exact ⟨g, cur, e.1, hB, hh, by simpa using ht, by simp at hs; omega⟩
end

/-- What a call leaves that returns a slice of its own with these bits. -/
def RetB (w : World) (l : List Int) (e : Ending) (w' : World) : Prop := ∃ A c, e = .returned (.slice A l.length c) ∧ Nb w' w.heap.size A l.length c l ∧ Below w.heap.size w w'
/-- What a call leaves that returns a vector of its own. -/
def RetV (w : World) (v : V) (e : Ending) (w' : World) : Prop := ∃ A c, e = .returned (.agg #[.slice A v.l.length c, .bool v.s]) ∧ Nb w' w.heap.size A v.l.length c v.l ∧ Below w.heap.size w w'
/-- .. and an error beside it. -/
def RetE (w : World) (v : V) (er : Int) (e : Ending) (w' : World) : Prop := ∃ A c, e = .returned (.tuple #[.agg #[.slice A v.l.length c, .bool v.s], .int .i64 er]) ∧ Nb w' w.heap.size A v.l.length c v.l ∧ Below w.heap.size w w'

theorem bit_info : (Tryz.prog.info? 58).map (fun i => (i.zero, i.size, i.bytes)) = some (some (.int .u8 0), 1, 1) := by kernel_rfl
theorem run_makeV (n : Nat) (hn : n ≤ 1000000) (w : World) :
    (Instr.makeSlice 24 (.int .i64 (n : Int)) (.int .i64 (n : Int))).run Tryz.prog w = .ok (.slice (some ⟨w.heap.size, 0, none⟩) n n) (w.alloc (.cells (ia (tab n fun _ => 0)) 58)) := by
  rw [← ia_made]
  exact run_make_row' _ _ _ 1 Tryz.underlying24 bit_info rfl _ _ n (by omega) (by omega) w

section
variable {w W : World} {B : Nat}
theorem grown_ownV {A : Option Addr} {n c : Nat} {l : List Int} {w' : World} (hv : Nb w W.heap.size A n c l) (hg : w.grownBy w' (Value.slice A n c).ownBlock) (hb : Below W.heap.size W w) : Below W.heap.size W w' :=
  hb.grown hg hb.size fun k hk => (hv.2.2.lt k hk).1
/-- append(v, xs...) onto a row of the call's own. -/
theorem run_catV (hbase : B ≤ w.heap.size) {A : Option Addr} {n c : Nat} {l : List Int} (hv : Nb w B A n c l) {X : Option Addr} {m d : Nat} {y : List Int} (hx : Rb w X m y) (hn : n + m ≤ 1000000) :
    ∃ A' c' w', (Builtin.append_ #[24, 24] 24 #[.slice A n c, .slice X m d]).run Tryz.prog w = .ok (.slice A' (n + m) c') w' ∧ Nb w' B A' (n + m) c' (l ++ y) ∧ w.grownBy w' (Value.slice A n c).ownBlock := by
  obtain ⟨i, hi, hzz⟩ := Option.map_eq_some_iff.1 bit_info
  simp only [Prod.mk.injEq] at hzz
  obtain ⟨hz, hs, hby⟩ := hzz
  have hln : (l ++ y).length = n + m := by simp [hv.1, hx.1]
  have hnn : nnL (l ++ y) := fun a ha => by
    rcases List.mem_append.1 ha with h | h
    · exact hv.2.1 a h
    · exact hx.2.1 a h
  have hform : ∀ v' w', w'.ownsRow B 58 1 v' (n + m) (il l ++ il y) → ∃ A' c', v' = .slice A' (n + m) c' ∧ Nb w' B A' (n + m) c' (l ++ y) := by
    intro v' w' h
    rw [il_cat] at h
    rcases h.2 with ⟨rfl, h0⟩ | ⟨g, cap, cur, rfl, _⟩
    · rw [h0] at h ⊢; exact ⟨_, _, rfl, by rw [← h0]; exact hln, hnn, h⟩
    · exact ⟨_, _, rfl, hln, hnn, h⟩
  rcases X with _ | ad
  · have hm : m = 0 := by
      rcases Nat.eq_zero_or_pos m with h0 | h0
      · exact h0
      · obtain ⟨b, o, h, _⟩ := hx.2.2 h0; cases h
    subst hm
    have hy : y = [] := List.length_eq_zero_iff.1 hx.1
    subst hy
    refine ⟨A, c, w, ?_, by simpa using hv, World.grownBy.refl w _⟩
    rcases hv.2.2.2 with ⟨e, h0⟩ | ⟨g, cap, cur, e, _, hh, hnc, _⟩
    · simp only [Value.slice.injEq] at e
      obtain ⟨rfl, rfl, rfl⟩ := e
      simp [Builtin.append_, run_underlying Tryz.underlying24, sizeOf, typeInfo, hi, Builtin.lenOf, Builtin.firstCells]
    · simp only [Value.slice.injEq] at e
      obtain ⟨rfl, _, rfl⟩ := e
      simp [Builtin.append_, run_underlying Tryz.underlying24, sizeOf, typeInfo, hi, Builtin.lenOf, Builtin.firstCells, hnc, storeCells]
  · have hcells : ∀ j u, (il y)[j]? = some u → w.cell? (ad.add j) = some u := by
      intro j u hu
      have hj : j < m := by have := (List.getElem?_eq_some_iff.1 hu).1; rw [il_length, hx.1] at this; exact this
      rw [il_get (by rw [hx.1]; exact hj)] at hu
      obtain ⟨b, o, h, _, hc⟩ := hx.2.2 (by omega)
      obtain rfl := Option.some.inj h
      have := hc j hj
      unfold Addr.add
      split
      · rename_i h0; subst h0; rw [← hu]; exact this
      · rw [← hu]; exact this
    obtain ⟨v', w', hrun, h2, h3, _, _⟩ := run_append_own_at (P := Tryz.prog) w B 24 24 58 i _ 1 1 Tryz.underlying24 hi hz hs hby rfl (by decide) _ n _ hv.2.2 ad m d (il y) (by simp [il_length, hx.1]) hcells (il_one y) (by unfold maxLen; omega) (by omega) hbase
    obtain ⟨A', c', rfl, h4⟩ := hform v' w' h2
    exact ⟨A', c', w', hrun, h4, h3⟩

theorem wpList_catV {ops : Array Oper} {rest : List Oper} {o : Oper} {a : Act} {Q : Exit → Act → World → Prop} (hgd : o.guard = none) (s x : Operand)
    (ho : o.op = .call { callee := .builtin .append, args := #[s, x], argTypes := #[24, 24] }) (hty : o.type = 24)
    (hb : Below W.heap.size W w) {A : Option Addr} {n c : Nat} {l : List Int} (hs : a.eval s = .slice A n c) (hv : Nb w W.heap.size A n c l) {X : Option Addr} {m d : Nat} {y : List Int} (hx : a.eval x = .slice X m d) (hr : Rb w X m y) (hn : n + m ≤ 1000000)
    (h : ∀ A' c' w', Nb w' W.heap.size A' (n + m) c' (l ++ y) → Below W.heap.size W w' → wpList Tryz.prog ops Q rest (a.put o.dst (.slice A' (n + m) c')) w') : wpList Tryz.prog ops Q (o :: rest) a w := by
  refine wpList_plain hgd fun K hK => ?_
  obtain ⟨A', c', w', hrun, h2, h3⟩ := run_catV (d := d) hb.size hv hr hn
  unfold Oper.wp execOp
  simp only [ho, hty, resolve, invoke, builtin, Sem.run_bind, Sem.run_pure, Result.andThen_ok, List.map_toArray, List.map_cons, List.map_nil, hs, hx, hrun]
  exact hK _ _ (h A' c' w' h2 (grown_ownV hv h3 hb))

theorem nnL_one {b : Int} (h : 0 ≤ b) : nnL [b] := fun x hx => by simp at hx; omega
/-- append(v, b), b in a cell of its own. -/
theorem wpList_pushV {ops : Array Oper} {rest : List Oper} {o : Oper} {a : Act} {Q : Exit → Act → World → Prop} (hgd : o.guard = none) (s x : Operand)
    (ho : o.op = .call { callee := .builtin .append, args := #[s, x], argTypes := #[24, 24] }) (hty : o.type = 24)
    (hb : Below W.heap.size W w) {A : Option Addr} {n c : Nat} {l : List Int} (hs : a.eval s = .slice A n c) (hv : Nb w W.heap.size A n c l) (H : Nat) (hH : w.heap.size = H) (b : Int) (hb0 : 0 ≤ b) (hx : a.eval x = .slice (some ⟨H, 0, none⟩) 1 1) (hn : n ≤ 100000)
    (h : ∀ A' c' w', Nb w' W.heap.size A' (n + 1) c' (l ++ [b]) → Below W.heap.size W w' → wpList Tryz.prog ops Q rest (a.put o.dst (.slice A' (n + 1) c')) w') : wpList Tryz.prog ops Q (o :: rest) a (w.alloc (.cells #[.int .u8 b] 58)) := by
  subst hH
  have ho1 : Own (w.alloc (.cells #[.int .u8 b] 58)) w.heap.size 58 (ia [b]) := Own.new w 58 #[.int .u8 b]
  exact wpList_catV hgd s x ho hty (below_new hb _) hs (hv.alloc _) hx (Rb.of_own ho1 (nnL_one hb0) rfl) (by omega) h
end

/-! Structs of two cells, and results that lie in memory. -/
section
variable {w u U W : World} {g h : Nat} {x y x' y' : Value} {T : TypeId}
theorem Own.put2 (O : Own w g T #[x, y]) (x' y' : Value) : Own ((w.setCell ⟨g, 0, none⟩ x').setCell ⟨g, 1, none⟩ y') g T #[x', y'] := by
  simpa using (O.put 0 x').put 1 y'
theorem Own.puts (O : Own w g T #[x, y]) (y' : Value) : Own (w.setCell ⟨g, 1, none⟩ y') g T #[x, y'] := by simpa using O.put 1 y'
theorem Own.far2 {cs : Array Value} (O : Own w h T cs) (hne : h ≠ g) (x' y' : Value) : Own ((w.setCell ⟨g, 0, none⟩ x').setCell ⟨g, 1, none⟩ y') h T cs := (O.far (p := ⟨g, 0, none⟩) hne x').far (p := ⟨g, 1, none⟩) hne y'
theorem below_set2 (hb : Below W.heap.size W w) (hg : W.heap.size ≤ g) (x' y' : Value) : Below W.heap.size W ((w.setCell ⟨g, 0, none⟩ x').setCell ⟨g, 1, none⟩ y') := below_set (below_set hb hg x') hg y'
theorem Nb.far {B : Nat} {A : Option Addr} {n c : Nat} {l : List Int} (H : Nb w B A n c l) {p : Addr} (hp : p.block < B) (v : Value) : Nb (w.setCell p v) B A n c l :=
  ⟨H.1, H.2.1, H.2.2.1, H.2.2.2.imp id fun ⟨g, cap, cur, h1, h2, h3, h4⟩ => ⟨g, cap, cur, h1, h2, (Below.heap_setCell w p v g (fun e => by omega)).trans h3, h4⟩⟩
theorem Nb.far2 {B : Nat} {A : Option Addr} {n c : Nat} {l : List Int} (H : Nb w B A n c l) (hp : g < B) (x' y' : Value) : Nb ((w.setCell ⟨g, 0, none⟩ x').setCell ⟨g, 1, none⟩ y') B A n c l := (H.far (p := ⟨g, 0, none⟩) hp x').far (p := ⟨g, 1, none⟩) hp y'
theorem ret_vec {fn : Func} {p : Tmp} (hres : fn.results = #[.cell p 26]) {R : Ending → World → Prop} {a : Act} (hp : a.tmps.getD p undef = .pointer (some ⟨g, 0, none⟩)) (hd : a.defers = [])
    (O : Own U g 26 #[x, y]) (hR : R (.returned (.agg #[x, y])) U) : bodyPost Tryz.prog fn R .ret a U :=
  bodyPost_ret (results_cell_row hres a.tmps U g _ _ _ _ hp O Tryz.underlying26 rfl (by kernel_rfl)) hd hR
theorem ret_vecE {fn : Func} {p q : Tmp} (hres : fn.results = #[.cell p 26, .tmp q]) {R : Ending → World → Prop} {a : Act} {er : Value} (hp : a.tmps.getD p undef = .pointer (some ⟨g, 0, none⟩)) (hq : a.tmps.getD q undef = er) (hd : a.defers = [])
    (O : Own U g 26 #[x, y]) (hR : R (.returned (.tuple #[.agg #[x, y], er])) U) : bodyPost Tryz.prog fn R .ret a U := by
  refine bodyPost_ret ?_ hd hR
  rw [results_cell_tmp hres, hp, hq]
  have h0 := O.cell 0
  have h1 := O.cell 1
  simp [go_sem, h0, h1]
theorem ret_vec2 {fn : Func} {p q : Tmp} (hres : fn.results = #[.cell p 26, .cell q 26]) {R : Ending → World → Prop} {a : Act} (hp : a.tmps.getD p undef = .pointer (some ⟨g, 0, none⟩)) (hq : a.tmps.getD q undef = .pointer (some ⟨h, 0, none⟩)) (hd : a.defers = [])
    (O : Own U g 26 #[x, y]) (O' : Own U h 26 #[x', y']) (hR : R (.returned (.tuple #[.agg #[x, y], .agg #[x', y']])) U) : bodyPost Tryz.prog fn R .ret a U := by
  refine bodyPost_ret ?_ hd hR
  have h0 := O.cell 0
  have h1 := O.cell 1
  have h2 := O'.cell 0
  have h3 := O'.cell 1
  have hp' : a.tmps[p]?.getD undef = .pointer (some ⟨g, 0, none⟩) := by simpa using hp
  have hq' : a.tmps[q]?.getD undef = .pointer (some ⟨h, 0, none⟩) := by simpa using hq
  simp [results, hres, go_sem, h0, h1, h2, h3, hp', hq']
end
theorem RetV.mk' {w u : World} {v : V} {A : Option Addr} {n c : Nat} (hN : Nb u w.heap.size A n c v.l) (hB : Below w.heap.size w u) : RetV w v (.returned (.agg #[.slice A n c, .bool v.s])) u := by
  have := hN.len; subst this; exact ⟨_, _, rfl, hN, hB⟩
theorem RetE.mk' {w u : World} {v : V} {A : Option Addr} {n c : Nat} {er : Int} (hN : Nb u w.heap.size A n c v.l) (hB : Below w.heap.size w u) : RetE w v er (.returned (.tuple #[.agg #[.slice A n c, .bool v.s], .int .i64 er])) u := by
  have := hN.len; subst this; exact ⟨_, _, rfl, hN, hB⟩
theorem RetB.mk' {w u : World} {l : List Int} {A : Option Addr} {n c : Nat} (hN : Nb u w.heap.size A n c l) (hB : Below w.heap.size w u) : RetB w l (.returned (.slice A n c)) u := by
  have := hN.len; subst this; exact ⟨_, _, rfl, hN, hB⟩
end Go.Proofs.YtgojnpblhfbdpaaGreatDoor
