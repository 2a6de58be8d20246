/-
  Contracts of the reference's Int and window. Conditions: at most a million bits.
  Contracts of the reference's Slice. Conditions: at most a million bits.
  Contracts of the reference's Put. Conditions: at most a million bits.
  Contracts of the reference's Concat. Conditions: at most a thousand vectors of at most a million bits.
  Contracts of the reference's Cond. Conditions: at most a million bits.
  Contracts of the reference's Match. Conditions: at most a million bits.
-/
import Derived.Test.YtgojnpblhfbdpaaGreatDoorQp
import Derived.Test.YtgojnpblhfbdpaaGreatDoorQk
import Derived.Test.YtgojnpblhfbdpaaGreatDoorQl
import Derived.Test.YtgojnpblhfbdpaaGreatDoorQo
import Derived.Test.YtgojnpblhfbdpaaGreatDoorQn
import Derived.Test.YtgojnpblhfbdpaaGreatDoorQj
import Derived.Test.YtgojnpblhfbdpaaGreatDoorQi

namespace Go.Proofs.YtgojnpblhfbdpaaGreatDoor
open Go Go.RowKit

set_option maxRecDepth 100000 in
theorem fit_snoc {l : List Int} {n : Nat} (hl : l.length = n) (s : Bool) : (fitV ⟨l, s⟩ (n + 1)).l = l ++ [fill ⟨l, s⟩] := by
  unfold fitV
  rw [tab_snoc]
  have e1 : tab n (ext ⟨l, s⟩) = l := by
    have h2 : tab n (ext ⟨l, s⟩) = tab n (nth l) := tab_congr fun i hi => by unfold ext; rw [if_pos (show i < l.length by omega)]
    rw [h2, ← hl, tab_nth]
  rw [e1]
  congr 1
  unfold ext
  rw [if_neg (show ¬ n < l.length by omega)]
set_option maxRecDepth 100000 in
theorem iVal_ext {n x : Nat} (h : x < 2 ^ n) (_h0 : 0 < n) : B.sval (n + 1) (x + 2 ^ n * (B.neg n x).toNat) = B.sval n x := by
  have hneg : B.neg (n + 1) (x + 2 ^ n * (B.neg n x).toNat) = B.neg n x := by
    show (x + 2 ^ n * (B.neg n x).toNat).testBit (n + 1 - 1) = B.neg n x
    rw [Nat.add_sub_cancel]
    generalize B.neg n x = b
    cases b
    · rw [show (false : Bool).toNat = 0 from rfl, Nat.mul_zero, Nat.add_zero]
      exact Nat.testBit_lt_two_pow h
    · rw [show (true : Bool).toNat = 1 from rfl, Nat.mul_one, Nat.testBit_eq_decide_div_mod_eq, Nat.add_div_right _ (Nat.two_pow_pos n), Nat.div_eq_of_lt h]
      rfl
  have hp : 2 ^ (n + 1) = 2 ^ n + 2 ^ n := by rw [Nat.pow_succ]; omega
  cases hb : B.neg n x
  · rw [hb] at hneg
    rw [B.sval_pos hneg, B.sval_pos hb]
    simp
  · rw [hb] at hneg
    rw [B.sval_neg hneg, B.sval_neg hb, hp, show (true : Bool).toNat = 1 from rfl, Nat.mul_one]
    push_cast
    omega
set_option maxRecDepth 100000 in
theorem neg_num {l : List Int} {n : Nat} (_hl : l.length = n) : B.neg n (num l) = (nth l (n - 1) == 1) := by
  show (num l).testBit (n - 1) = _
  rw [num_bit]
set_option maxRecDepth 100000 in
theorem int_signed {l : List Int} {n : Nat} (hl : l.length = n) (h0 : 0 < n) : B.iVal (n + 1) (num (fitV ⟨l, true⟩ (n + 1)).l) = B.iVal n (num l) ∧ B.iOk (n + 1) (num (fitV ⟨l, true⟩ (n + 1)).l) = B.iOk n (num l) := by
  have e : num (fitV ⟨l, true⟩ (n + 1)).l = num l + 2 ^ n * (B.neg n (num l)).toNat := by
    rw [fit_snoc hl, num_snoc, hl, neg_num hl]
    show num l + 2 ^ n * (nth l (l.length - 1) == 1).toNat = _
    rw [hl]
  have hs := iVal_ext (num_lt' hl) h0
  rw [e]
  have hi : B.iFit (n + 1) (num l + 2 ^ n * (B.neg n (num l)).toNat) ↔ B.iFit n (num l) := by unfold B.iFit; rw [hs]
  exact ⟨by unfold B.iVal; simp only [hi, hs], by unfold B.iOk; simp only [hi]⟩
set_option maxRecDepth 100000 in
theorem int_unsigned {l : List Int} {n : Nat} (hl : l.length = n) : num (fitV ⟨l, false⟩ (n + 1)).l = num l := by
  rw [fit_snoc hl, num_snoc]
  show num l + 2 ^ l.length * ((0 : Int) == 1).toNat = _
  rw [show ((0 : Int) == 1) = false from rfl]
  simp
end Go.Proofs.YtgojnpblhfbdpaaGreatDoor

namespace Go.Proofs.YtgojnpblhfbdpaaGreatDoor
open Go Go.RowKit

set_option maxRecDepth 100000 in
theorem slF_in {l : List Int} {lo : Int} {j p : Nat} (h : lo + (j : Int) = p) (hp : p < l.length) : slF l lo j = nth l p := by
  unfold slF atI
  rw [h, if_pos ⟨by omega, by omega⟩, Int.toNat_natCast]
set_option maxRecDepth 100000 in
theorem slF_out {l : List Int} {lo z : Int} {j : Nat} (h : lo + (j : Int) = z) (hp : z < 0 ∨ (l.length : Int) ≤ z) : slF l lo j = 2 := by
  unfold slF atI
  rw [h, if_neg (by rintro ⟨h1, h2⟩; omega)]
end Go.Proofs.YtgojnpblhfbdpaaGreatDoor

namespace Go.Proofs.YtgojnpblhfbdpaaGreatDoor
open Go Go.RowKit

def rowV (B g n c : Nat) (l : List Int) : Value → World → Prop := fun _ u => Nb u B (some ⟨g, 0, none⟩) n c l
instance (B g n c : Nat) (l : List Int) : StV (rowV B g n c l) := ⟨fun _ _ _ hb h => Nb.step h hb⟩
/-- j bits put from place lo on. -/
def ptJ (x y : List Int) (lo : Int) (j N : Nat) : List Int := tab N fun i => if lo ≤ i ∧ (i : Int) < lo + j then nth y (i - lo).toNat else nth x i
set_option maxRecDepth 100000 in
theorem ptJ_zero {x y : List Int} {lo : Int} {N : Nat} (hx : x.length = N) : ptJ x y lo 0 N = x := by
  unfold ptJ
  rw [show tab N (fun i => if lo ≤ i ∧ (i : Int) < lo + (0 : Nat) then nth y (i - lo).toNat else nth x i) = tab N (nth x) from tab_congr fun i _ => by rw [if_neg (by omega)], ← hx, tab_nth]
set_option maxRecDepth 100000 in
theorem ptJ_len (x y : List Int) (lo : Int) (j N : Nat) : (ptJ x y lo j N).length = N := tab_len _ _
set_option maxRecDepth 100000 in
theorem ptJ_in {x y : List Int} {lo : Int} {j N p : Nat} (h : lo + (j : Int) = p) (hp : p < N) : ptJ x y lo (j + 1) N = (ptJ x y lo j N).set p (nth y j) := by
  apply list_ext (by rw [List.length_set, ptJ_len, ptJ_len])
  intro i hi
  rw [ptJ_len] at hi
  have e1 : nth (ptJ x y lo (j + 1) N) i = if lo ≤ i ∧ (i : Int) < lo + (j + 1 : Nat) then nth y (i - lo).toNat else nth x i := nth_tab _ hi
  have e2 : nth (ptJ x y lo j N) i = if lo ≤ i ∧ (i : Int) < lo + j then nth y (i - lo).toNat else nth x i := nth_tab _ hi
  rw [e1]
  by_cases hip : i = p
  · subst hip
    rw [if_pos (by omega), show ((i : Int) - lo).toNat = j by omega]
    unfold nth
    rw [List.getD_eq_getElem?_getD, List.getD_eq_getElem?_getD, List.getElem?_set_self (by rw [ptJ_len]; exact hi)]
    simp
  · have e3 : nth ((ptJ x y lo j N).set p (nth y j)) i = nth (ptJ x y lo j N) i := by
      unfold nth
      rw [List.getD_eq_getElem?_getD, List.getElem?_set_ne (Ne.symm hip), List.getD_eq_getElem?_getD]
    rw [e3, e2]
    by_cases hc : lo ≤ i ∧ (i : Int) < lo + j
    · rw [if_pos hc, if_pos (by omega)]
    · rw [if_neg hc, if_neg (by omega)]
set_option maxRecDepth 100000 in
theorem ptJ_out {x y : List Int} {lo z : Int} {j N : Nat} (h : lo + (j : Int) = z) (hp : z < 0 ∨ (N : Int) ≤ z) : ptJ x y lo (j + 1) N = ptJ x y lo j N := tab_congr fun i hi => by
  by_cases hc : lo ≤ i ∧ (i : Int) < lo + j
  · rw [if_pos hc, if_pos (by omega)]
  · rw [if_neg hc, if_neg (by omega)]
set_option maxRecDepth 100000 in
theorem ptJ_all {x y : List Int} {lo hi : Int} {j N : Nat} (h : hi = lo + j - 1) : ptJ x y lo j N = tab N (ptF x y hi lo) := tab_congr fun i _ => by
  unfold ptF
  by_cases hc : lo ≤ i ∧ (i : Int) < lo + j
  · rw [if_pos hc, if_neg (by omega)]
  · rw [if_neg hc, if_pos (by omega)]
end Go.Proofs.YtgojnpblhfbdpaaGreatDoor

namespace Go.Proofs.YtgojnpblhfbdpaaGreatDoor
open Go Go.RowKit

instance (g n : Nat) (l : List Int) : SsV g (isSl n l) := ⟨fun _ _ _ _ _ _ _ O ⟨A, c, h1, h2⟩ => ⟨A, c, h1, h2.row O⟩⟩
section
variable {o : Oper} {a : Act} {w : World} {K : Act → World → Prop} {Q : Exit → Act → World → Prop}
set_option maxRecDepth 100000 in
theorem run_ixV (b p n c k : Nat) (hk : k < n) (W : World) : (Instr.indexAt 73 (.slice (some ⟨b, p, none⟩) n c) (.int .i64 k)).run Tryz.prog W = .ok (.pointer (some ⟨b, p + k * 2, none⟩)) W := by
  have i1 : (k : Int) < n := by omega
  have i0 : (0 : Int) ≤ k := by omega
  simp [go_sem, i0, i1]
set_option maxRecDepth 100000 in
theorem wp_ixV (x y : Operand) (ho : o.op = .indexAddr 73 x y) {b p n c k : Nat} (hx : a.eval x = .slice (some ⟨b, p, none⟩) n c) (hy : a.eval y = .int .i64 k) (hk : k < n) (h : K (a.put o.dst (.pointer (some ⟨b, p + k * 2, none⟩))) w) : o.wp Tryz.prog a w K Q := by
  refine wp_val ?_ h
  unfold execOp
  simp only [ho, hx, hy, Sem.run_bind, run_ixV _ _ _ _ _ hk, Result.andThen_ok, Sem.run_pure]
set_option maxRecDepth 100000 in
theorem run_ldV {b p : Nat} {x y : Value} (h1 : w.cell? ⟨b, p, none⟩ = some x) (h2 : w.cell? ⟨b, p + 1, none⟩ = some y) : (Instr.loadAt 26 (.pointer (some ⟨b, p, none⟩))).run Tryz.prog w = .ok (.agg #[x, y]) w := by simp [go_sem, h1, h2]
set_option maxRecDepth 100000 in
theorem wp_ldV (x : Operand) (ho : o.op = .load 26 x) {b p : Nat} (hx : a.eval x = .pointer (some ⟨b, p, none⟩)) {q r : Value} (h1 : w.cell? ⟨b, p, none⟩ = some q) (h2 : w.cell? ⟨b, p + 1, none⟩ = some r) (h : K (a.put o.dst (.agg #[q, r])) w) : o.wp Tryz.prog a w K Q := by
  refine wp_val ?_ h
  unfold execOp
  simp only [ho, hx, Sem.run_bind, run_ldV h1 h2, Result.andThen_ok, Sem.run_pure]
end
end Go.Proofs.YtgojnpblhfbdpaaGreatDoor

namespace Go.Proofs.YtgojnpblhfbdpaaGreatDoor
open Go Go.RowKit

set_option maxRecDepth 100000 in
theorem row_cell {B g n c j : Nat} {l : List Int} {u : World} {x : Int} (h : nbs B (some ⟨g, 0, none⟩) n c l u) (hj : j < n) (hx : nth l j = x) : u.cell? ⟨g, 0 + j, none⟩ = some (.int .u8 x) := by
  obtain ⟨b, o, e, _, hc⟩ := (Nb.rd h).at_ hj
  have e1 := Option.some.inj e
  simp only [Addr.mk.injEq, and_true] at e1
  obtain ⟨rfl, rfl⟩ := e1
  rw [hc, hx]
def cel (g p : Nat) (q : Value) : World → Prop := fun u => u.cell? ⟨g, p, none⟩ = some q
instance (g p : Nat) (q : Value) : Stb (cel g p q) := ⟨fun _ _ hb h => cell_step hb h⟩
/-- The first j bits combined in place. -/
def pwJ (f : Int → Int → Int) (x y : List Int) (j N : Nat) : List Int := tab N fun i => if i < j then f (nth x i) (nth y i) else nth x i
set_option maxRecDepth 100000 in
theorem pwJ_zero {f : Int → Int → Int} {x y : List Int} {N : Nat} (hx : x.length = N) : pwJ f x y 0 N = x := by
  unfold pwJ
  rw [show tab N (fun i => if i < 0 then f (nth x i) (nth y i) else nth x i) = tab N (nth x) from tab_congr fun i _ => by rw [if_neg (by omega)], ← hx, tab_nth]
set_option maxRecDepth 100000 in
theorem pwJ_at {f : Int → Int → Int} {x y : List Int} {j N : Nat} (h : j < N) : nth (pwJ f x y j N) j = nth x j := by
  unfold pwJ; rw [nth_tab _ h, if_neg (by omega)]
set_option maxRecDepth 100000 in
theorem pwJ_next {f : Int → Int → Int} {x y : List Int} {j N : Nat} (h : j < N) : pwJ f x y (j + 1) N = (pwJ f x y j N).set j (f (nth x j) (nth y j)) := by
  apply list_ext (by rw [List.length_set]; unfold pwJ; rw [tab_len, tab_len])
  intro i hi
  have hi' : i < N := by unfold pwJ at hi; rwa [tab_len] at hi
  have e1 : nth (pwJ f x y (j + 1) N) i = if i < j + 1 then f (nth x i) (nth y i) else nth x i := nth_tab _ hi'
  have e2 : nth (pwJ f x y j N) i = if i < j then f (nth x i) (nth y i) else nth x i := nth_tab _ hi'
  rw [e1]
  by_cases hij : i = j
  · subst hij
    rw [if_pos (by omega)]
    unfold nth
    rw [List.getD_eq_getElem?_getD (l := List.set _ _ _), List.getElem?_set_self (by unfold pwJ; rw [tab_len]; exact h)]
    simp
  · have e3 : nth ((pwJ f x y j N).set j (f (nth x j) (nth y j))) i = nth (pwJ f x y j N) i := by
      unfold nth
      rw [List.getD_eq_getElem?_getD, List.getElem?_set_ne (Ne.symm hij), List.getD_eq_getElem?_getD]
    rw [e3, e2]
    by_cases hc : i < j
    · rw [if_pos hc, if_pos (by omega)]
    · rw [if_neg hc, if_neg (by omega)]
set_option maxRecDepth 100000 in
theorem pwJ_all (f : Int → Int → Int) (x y : List Int) (N : Nat) : pwJ f x y N N = tab N fun i => f (nth x i) (nth y i) := tab_congr fun i hi => by rw [if_pos hi]
end Go.Proofs.YtgojnpblhfbdpaaGreatDoor

namespace Go.Proofs.YtgojnpblhfbdpaaGreatDoor
open Go Go.RowKit

def wl (fr : Bool) : Int → Bool := if fr then unkB else zW
set_option maxRecDepth 100000 in
theorem bit4 {p : Int} (h0 : 0 ≤ p) (h3 : p ≤ 3) : p = 0 ∨ p = 1 ∨ p = 2 ∨ p = 3 := by omega
set_option maxRecDepth 100000 in
theorem tst_val (fr : Bool) {p q : Int} (hp0 : 0 ≤ p) (hp3 : p ≤ 3) (hq0 : 0 ≤ q) (hq3 : q ≤ 3) : (sameB p q || (wl fr p || wl fr q)) = ((p == 3) || ((q == 3) || ((fr && ((p == 2) || (q == 2))) || (p == q)))) := by
  rcases bit4 hp0 hp3 with rfl | rfl | rfl | rfl <;> rcases bit4 hq0 hq3 with rfl | rfl | rfl | rfl <;> cases fr <;> rfl
set_option maxRecDepth 100000 in
theorem valid_le {l : List Int} {n i : Nat} (h : okB l = true) (hl : l.length = n) (hi : i < n) : nth l i ≤ 3 := by
  unfold okB at h
  simp only [Bool.and_eq_true, Bool.not_eq_true'] at h
  have h2 := List.any_eq_false.1 h.2 (nth l i) (by rw [nth, List.getD_eq_getElem?_getD, List.getElem?_eq_getElem (by omega)]; exact List.getElem_mem _)
  unfold badB validB at h2
  simpa using h2
end Go.Proofs.YtgojnpblhfbdpaaGreatDoor
