/-
  Contracts of the reference's Int and window. Conditions: at most a million bits.
  Contracts of the reference's Slice. Conditions: at most a million bits.
  Contracts of the reference's Put. Conditions: at most a million bits.
  Contracts of the reference's Concat. Conditions: at most a thousand vectors of at most a million bits.
  Contracts of the reference's Cond. Conditions: at most a million bits.
  Contracts of the reference's Match. Conditions: at most a million bits.
-/
import Derived.Test.YtognpmggfplekaaGreatDoorPaQp
import Derived.Test.YtognpmggfplekaaGreatDoorPaQk
import Derived.Test.YtognpmggfplekaaGreatDoorPaQl
import Derived.Test.YtognpmggfplekaaGreatDoorPaQo
import Derived.Test.YtognpmggfplekaaGreatDoorPaQn
import Derived.Test.YtognpmggfplekaaGreatDoorPaQj
import Derived.Test.YtognpmggfplekaaGreatDoorPaQi

set_option maxRecDepth 100000
namespace Go.Proofs.YtognpmggfplekaaGreatDoor
open Go Go.RowKit

theorem fit_snoc {l : List Int} {n : Nat} (hl : l.length = n) (s : Bool) : (fitV ⟨l, s⟩ (n + 1)).l = l ++ [fill ⟨l, s⟩] := by
  unfold fitV
  rw [tab_snoc]
  have e1 : tab n (ext ⟨l, s⟩) = l := by
    have h2 : tab n (ext ⟨l, s⟩) = tab n (nth l) := tab_congr fun i hi => by unfold ext; rw [if_pos (show i < l.length by omega)]
    rw [h2, ← hl, tab_nth]
  rw [e1]
  congr 1
  unfold ext
  rw [if_neg (show ¬ n < l.length by omega)]
theorem iVal_ext {n x : Nat} (h : x < 2 ^ n) (_h0 : 0 < n) : B.sval (n + 1) (x + 2 ^ n * (B.neg n x).toNat) = B.sval n x := by
  have hneg : B.neg (n + 1) (x + 2 ^ n * (B.neg n x).toNat) = B.neg n x := by
    show (x + 2 ^ n * (B.neg n x).toNat).testBit (n + 1 - 1) = B.neg n x
    rw [Nat.add_sub_cancel]
    generalize B.neg n x = b
    cases b
    · rw [show (false : Bool).toNat = 0 from rfl, Nat.mul_zero, Nat.add_zero]
      exact Nat.testBit_lt_two_pow h
    · rw [show (true : Bool).toNat = 1 from rfl, Nat.mul_one, Nat.testBit_eq_decide_div_mod_eq, Nat.add_div_right _ (Nat.two_pow_pos n), Nat.div_eq_of_lt h]
      rfl
  have hp : 2 ^ (n + 1) = 2 ^ n + 2 ^ n := by rw [Nat.pow_succ]; omega
  cases hb : B.neg n x
  · rw [hb] at hneg
    rw [B.sval_pos hneg, B.sval_pos hb]
    simp
  · rw [hb] at hneg
    rw [B.sval_neg hneg, B.sval_neg hb, hp, show (true : Bool).toNat = 1 from rfl, Nat.mul_one]
    push_cast
    omega
theorem neg_num {l : List Int} {n : Nat} (_hl : l.length = n) : B.neg n (num l) = (nth l (n - 1) == 1) := by
  show (num l).testBit (n - 1) = _
  rw [num_bit]
theorem int_signed {l : List Int} {n : Nat} (hl : l.length = n) (h0 : 0 < n) : B.iVal (n + 1) (num (fitV ⟨l, true⟩ (n + 1)).l) = B.iVal n (num l) ∧ B.iOk (n + 1) (num (fitV ⟨l, true⟩ (n + 1)).l) = B.iOk n (num l) := by
  have e : num (fitV ⟨l, true⟩ (n + 1)).l = num l + 2 ^ n * (B.neg n (num l)).toNat := by
    rw [fit_snoc hl, num_snoc, hl, neg_num hl]
    show num l + 2 ^ n * (nth l (l.length - 1) == 1).toNat = _
    rw [hl]
  have hs := iVal_ext (num_lt' hl) h0
  rw [e]
  have hi : B.iFit (n + 1) (num l + 2 ^ n * (B.neg n (num l)).toNat) ↔ B.iFit n (num l) := by unfold B.iFit; rw [hs]
  exact ⟨by unfold B.iVal; simp only [hi, hs], by unfold B.iOk; simp only [hi]⟩
theorem int_unsigned {l : List Int} {n : Nat} (hl : l.length = n) : num (fitV ⟨l, false⟩ (n + 1)).l = num l := by
  rw [fit_snoc hl, num_snoc]
  show num l + 2 ^ l.length * ((0 : Int) == 1).toNat = _
  rw [show ((0 : Int) == 1) = false from rfl]
  simp
end Go.Proofs.YtognpmggfplekaaGreatDoor

namespace Go.Proofs.YtognpmggfplekaaGreatDoor
open Go Go.RowKit

end Go.Proofs.YtognpmggfplekaaGreatDoor

namespace Go.Proofs.YtognpmggfplekaaGreatDoor
open Go Go.RowKit

def rowV (B g n c : Nat) (l : List Int) : Value → World → Prop := fun _ u => Nb u B (some ⟨g, 0, none⟩) n c l
instance (B g n c : Nat) (l : List Int) : StV (rowV B g n c l) := ⟨fun _ _ _ hb h => Nb.step h hb⟩
end Go.Proofs.YtognpmggfplekaaGreatDoor

namespace Go.Proofs.YtognpmggfplekaaGreatDoor
open Go Go.RowKit

section
variable {o : Oper} {a : Act} {w : World} {K : Act → World → Prop} {Q : Exit → Act → World → Prop}
end
end Go.Proofs.YtognpmggfplekaaGreatDoor

namespace Go.Proofs.YtognpmggfplekaaGreatDoor
open Go Go.RowKit

theorem row_cell {B g n c j : Nat} {l : List Int} {u : World} {x : Int} (h : nbs B (some ⟨g, 0, none⟩) n c l u) (hj : j < n) (hx : nth l j = x) : u.cell? ⟨g, 0 + j, none⟩ = some (.int .u8 x) := by
  obtain ⟨b, o, e, _, hc⟩ := (Nb.rd h).at_ hj
  have e1 := Option.some.inj e
  simp only [Addr.mk.injEq, and_true] at e1
  obtain ⟨rfl, rfl⟩ := e1
  rw [hc, hx]
def cel (g p : Nat) (q : Value) : World → Prop := fun u => u.cell? ⟨g, p, none⟩ = some q
instance (g p : Nat) (q : Value) : Stb (cel g p q) := ⟨fun _ _ hb h => cell_step hb h⟩
def pwJ (f : Int → Int → Int) (x y : List Int) (j N : Nat) : List Int := tab N fun i => if i < j then f (nth x i) (nth y i) else nth x i
theorem pwJ_zero {f : Int → Int → Int} {x y : List Int} {N : Nat} (hx : x.length = N) : pwJ f x y 0 N = x := by
  unfold pwJ
  rw [show tab N (fun i => if i < 0 then f (nth x i) (nth y i) else nth x i) = tab N (nth x) from tab_congr fun i _ => by rw [if_neg (by omega)], ← hx, tab_nth]
theorem pwJ_at {f : Int → Int → Int} {x y : List Int} {j N : Nat} (h : j < N) : nth (pwJ f x y j N) j = nth x j := by
  unfold pwJ; rw [nth_tab _ h, if_neg (by omega)]
theorem pwJ_next {f : Int → Int → Int} {x y : List Int} {j N : Nat} (h : j < N) : pwJ f x y (j + 1) N = (pwJ f x y j N).set j (f (nth x j) (nth y j)) := by
  apply list_ext (by rw [List.length_set]; unfold pwJ; rw [tab_len, tab_len])
  intro i hi
  have hi' : i < N := by unfold pwJ at hi; rwa [tab_len] at hi
  have e1 : nth (pwJ f x y (j + 1) N) i = if i < j + 1 then f (nth x i) (nth y i) else nth x i := nth_tab _ hi'
  have e2 : nth (pwJ f x y j N) i = if i < j then f (nth x i) (nth y i) else nth x i := nth_tab _ hi'
  rw [e1]
  by_cases hij : i = j
  · subst hij
    rw [if_pos (by omega)]
    unfold nth
    rw [List.getD_eq_getElem?_getD (l := List.set _ _ _), List.getElem?_set_self (by unfold pwJ; rw [tab_len]; exact h)]
    simp
  · have e3 : nth ((pwJ f x y j N).set j (f (nth x j) (nth y j))) i = nth (pwJ f x y j N) i := by
      unfold nth
      rw [List.getD_eq_getElem?_getD, List.getElem?_set_ne (Ne.symm hij), List.getD_eq_getElem?_getD]
    rw [e3, e2]
    by_cases hc : i < j
    · rw [if_pos hc, if_pos (by omega)]
    · rw [if_neg hc, if_neg (by omega)]
theorem pwJ_all (f : Int → Int → Int) (x y : List Int) (N : Nat) : pwJ f x y N N = tab N fun i => f (nth x i) (nth y i) := tab_congr fun i hi => by rw [if_pos hi]
end Go.Proofs.YtognpmggfplekaaGreatDoor

namespace Go.Proofs.YtognpmggfplekaaGreatDoor
open Go Go.RowKit

def wl (fr : Bool) : Int → Bool := if fr then unkB else zW
theorem bit4 {p : Int} (h0 : 0 ≤ p) (h3 : p ≤ 3) : p = 0 ∨ p = 1 ∨ p = 2 ∨ p = 3 := by omega
theorem tst_val (fr : Bool) {p q : Int} (hp0 : 0 ≤ p) (hp3 : p ≤ 3) (hq0 : 0 ≤ q) (hq3 : q ≤ 3) : (sameB p q || (wl fr p || wl fr q)) = ((p == 3) || ((q == 3) || ((fr && ((p == 2) || (q == 2))) || (p == q)))) := by
  rcases bit4 hp0 hp3 with rfl | rfl | rfl | rfl <;> rcases bit4 hq0 hq3 with rfl | rfl | rfl | rfl <;> cases fr <;> rfl
theorem valid_le {l : List Int} {n i : Nat} (h : okB l = true) (hl : l.length = n) (hi : i < n) : nth l i ≤ 3 := by
  unfold okB at h
  simp only [Bool.and_eq_true, Bool.not_eq_true'] at h
  have h2 := List.any_eq_false.1 h.2 (nth l i) (by rw [nth, List.getD_eq_getElem?_getD, List.getElem?_eq_getElem (by omega)]; exact List.getElem_mem _)
  unfold badB validB at h2
  simpa using h2
set_option maxHeartbeats 4000000 in
theorem rMatch_any (A Y : Option Addr) (n m c d : Nat) (s t fr : Bool) (l k : List Int) (w : World) (h : Rb w A n l) (h' : Rb w Y m k) (hn : n ≤ 1000000) (hm : m ≤ 1000000) :
    Calls Tryz.prog 22 #[.agg #[.slice A n c, .bool s], .agg #[.slice Y m d, .bool t], .bool fr] w fun e w' => e = .returned (.bool (mtB (wl fr) ⟨l, s⟩ ⟨k, t⟩)) ∧ Below w.heap.size w w' := by
  have O0 := ((Own.at1 w 24 #[.slice A n c, .bool s] (g := w.heap.size) (by simp)).alloc (.cells #[.slice Y m d, .bool t] 24))
  have O1 := (Own.at1 (w.alloc (.cells #[.slice A n c, .bool s] 24)) 24 #[.slice Y m d, .bool t] (g := w.heap.size + 1) (by simp))
  have BB := (below_new (below_new (Below.refl w.heap.size w) (.cells #[.slice A n c, .bool s] 24)) (.cells #[.slice Y m d, .bool t] 24))
  have HB := Lib.hid (rBalance_q A Y n m c d s t l k _ (h.step BB) (h'.step BB) hn hm)
  have hbd := balN_bd ⟨l, s⟩ ⟨k, t⟩
  unfold mtB
  have okx := balL_ok ⟨l, s⟩ ⟨k, t⟩
  have oky := balR_ok ⟨l, s⟩ ⟨k, t⟩
  have hlx := (bal_len ⟨l, s⟩ ⟨k, t⟩).1
  have hly := (bal_len ⟨l, s⟩ ⟨k, t⟩).2
  generalize (balL ⟨l, s⟩ ⟨k, t⟩).l = lx at *
  generalize (balR ⟨l, s⟩ ⟨k, t⟩).l = ly at *
  generalize balN ⟨l, s⟩ ⟨k, t⟩ = N at *
  generalize balS ⟨l, s⟩ ⟨k, t⟩ = sy at *
  obtain ⟨z, hz⟩ : ∃ z, mtL (wl fr) lx ly N = z := ⟨_, rfl⟩
  rw [hz]
  replace hz := Lib.hid hz
  replace okx := Lib.hid okx
  replace oky := Lib.hid oky
  replace hlx := Lib.hid hlx
  replace hly := Lib.hid hly
  clear h h'
  go_enter Tryz.func22, Tryz.ntmps22
  go_wp2_with (go_at_call 103; refine HB.out.mono ?_; rintro e w1 ⟨A1, c1, A2, c2, rfl, n1, n2, hb1⟩; have L1 := hb1.size; replace BB := below_new (below_new (below_step BB hb1) (.cells #[.slice A1 N c1, .bool sy] 24)) (.cells #[.slice A2 N c2, .bool sy] 24); have O7 := (Own.at1 w1 24 #[.slice A1 N c1, .bool sy] (g := w1.heap.size) rfl).alloc (.cells #[.slice A2 N c2, .bool sy] 24); have O8 := Own.at1 (w1.alloc (.cells #[.slice A1 N c1, .bool sy] 24)) 24 #[.slice A2 N c2, .bool sy] (g := w1.heap.size + 1) (by simp); replace n1 := (n1.alloc (.cells #[.slice A1 N c1, .bool sy] 24)).alloc (.cells #[.slice A2 N c2, .bool sy] 24); replace n2 := (n2.alloc (.cells #[.slice A1 N c1, .bool sy] 24)).alloc (.cells #[.slice A2 N c2, .bool sy] 24))
  have r1 := n1.rd
  have r2 := n2.rd
  have hbW := Lib.hid BB
  clear O0 O1 BB n1 n2 hb1
  generalize ((w1.alloc (.cells #[.slice A1 N c1, .bool sy] 24)).alloc (.cells #[.slice A2 N c2, .bool sy] 24)) = W0 at *
  generalize w1.heap.size = g7 at *
  go_loopw [9, 10, 11] (fun i _ _ wr => ∃ j : Nat, j ≤ N ∧ i = .int .i64 j ∧ Hid (Below W0.heap.size W0 wr) ∧ Hid (∀ i, i < j → tst (wl fr) lx ly i = true)) (fun i _ _ _ => N - (intOf i).toNat)
  case atStart => exact ⟨0, Nat.zero_le _, rfl, Lib.hid (Below.refl _ _), Lib.hid fun j hj => absurd hj (Nat.not_lt_zero _)⟩
  case round =>
    obtain ⟨j, hj, rfl, HW, HT⟩ := hrel
    have p0 := (O7.step HW.out).cell 0
    have p1 := (O8.step HW.out).cell 0
    by_cases hlt : j < N
    · obtain ⟨b1, o1, rfl, hl1, hc1⟩ := (r1.step HW.out).at_ hlt
      obtain ⟨b2, o2, rfl, hl2, hc2⟩ := (r2.step HW.out).at_ hlt
      have i1 : (j : Int) < N := by omega
      have hT : tst (wl fr) lx ly j = _ := tst_val fr (r1.nn.nth j) (valid_le okx.out hlx.out hlt) (r2.nn.nth j) (valid_le oky.out hly.out hlt)
      replace O7 := Lib.hid O7
      replace O8 := Lib.hid O8
      replace r1 := Lib.hid r1
      replace r2 := Lib.hid r2
      generalize nth lx j = p at *
      generalize nth ly j = q at *
      cases ea : (p == 3)
      · rw [ea] at hT
        cases eb : (q == 3)
        · rw [eb] at hT
          cases fr
          · rw [Bool.false_and] at hT
            cases ee : (p == q)
            · rw [ee] at hT
              have em : (p != q) = true := by rw [bne, ee]; rfl
              clear ee
              have hno := Lib.hid ((mtL_no hlt (hT.trans (by simp))).symm.trans hz.out)
              clear hT
              go_wp2
              go_quiet (fail)
              all_goals go_wp2
              all_goals go_ret
              all_goals exact ⟨ret_b hno.out, below_step hbW.out (below_drewN HW.out _)⟩
            · rw [ee] at hT
              have em : (p != q) = false := by rw [bne, ee]; rfl
              clear ee
              have hnx := Lib.hid (all_next HT.out (hT.trans (by simp)))
              clear hT
              go_wp2
              go_quiet (fail)
              all_goals go_wp2
              all_goals go_roundw
              case rel => exact ⟨j + 1, by omega, by go_num, Lib.hid (below_drewN HW.out _), hnx⟩
              case measure => simp [intOf]; omega

          · cases ec : (p == 2)
            · rw [ec] at hT
              cases ed : (q == 2)
              · rw [ed] at hT
                cases ee : (p == q)
                · rw [ee] at hT
                  have em : (p != q) = true := by rw [bne, ee]; rfl
                  clear ee
                  have hno := Lib.hid ((mtL_no hlt (hT.trans (by simp))).symm.trans hz.out)
                  clear hT
                  go_wp2
                  go_quiet (fail)
                  all_goals go_wp2
                  all_goals go_ret
                  all_goals exact ⟨ret_b hno.out, below_step hbW.out (below_drewN HW.out _)⟩
                · rw [ee] at hT
                  have em : (p != q) = false := by rw [bne, ee]; rfl
                  clear ee
                  have hnx := Lib.hid (all_next HT.out (hT.trans (by simp)))
                  clear hT
                  go_wp2
                  go_quiet (fail)
                  all_goals go_wp2
                  all_goals go_roundw
                  case rel => exact ⟨j + 1, by omega, by go_num, Lib.hid (below_drewN HW.out _), hnx⟩
                  case measure => simp [intOf]; omega

              · rw [ed] at hT
                have hnx := Lib.hid (all_next HT.out (hT.trans (by simp)))
                clear hT
                go_wp2
                go_quiet (fail)
                all_goals go_wp2
                all_goals go_roundw
                case rel => exact ⟨j + 1, by omega, by go_num, Lib.hid (below_drewN HW.out _), hnx⟩
                case measure => simp [intOf]; omega
            · rw [ec] at hT
              have hnx := Lib.hid (all_next HT.out (hT.trans (by simp)))
              clear hT
              go_wp2
              go_quiet (fail)
              all_goals go_wp2
              all_goals go_roundw
              case rel => exact ⟨j + 1, by omega, by go_num, Lib.hid (below_drewN HW.out _), hnx⟩
              case measure => simp [intOf]; omega
        · rw [eb] at hT
          have hnx := Lib.hid (all_next HT.out (hT.trans (by simp)))
          clear hT
          go_wp2
          go_quiet (fail)
          all_goals go_wp2
          all_goals go_roundw
          case rel => exact ⟨j + 1, by omega, by go_num, Lib.hid (below_drewN HW.out _), hnx⟩
          case measure => simp [intOf]; omega
      · rw [ea] at hT
        have hnx := Lib.hid (all_next HT.out (hT.trans (by simp)))
        clear hT
        go_wp2
        go_quiet (fail)
        all_goals go_wp2
        all_goals go_roundw
        case rel => exact ⟨j + 1, by omega, by go_num, Lib.hid (below_drewN HW.out _), hnx⟩
        case measure => simp [intOf]; omega
    · obtain rfl : j = N := by omega
      have hl := Lib.hid ((mtL_all HT.out).symm.trans hz.out)
      clear r1 r2
      go_wp2
      go_ret
      exact ⟨ret_b hl.out, below_step hbW.out HW.out⟩
end Go.Proofs.YtognpmggfplekaaGreatDoor
