/-
  Contracts of the program's bitwise operators, equality and the operators of one bit. No conditions.
  Contracts of the program's comparisons. No conditions.
  Contracts of the program's order relations. No conditions.
  Contracts of the program's matching. No conditions.
-/
import Derived.Test.YtognpmggfplekaaDoorQh
import Derived.Test.YtognpmggfplekaaDoorQf

namespace Go.Proofs.YtognpmggfplekaaDoor
open Go Go.RowKit

set_option maxRecDepth 100000 in
theorem notV_one {z : Int} (h : z ≤ 3) : notV (one1 z) = one1 (notI z) := by
  have e : nrm (one1 z) = one1 z := nrm_of (ok_mk (by simp [one1]) (by simp [one1]) fun i hi => by
    have : i = 0 := by simp [one1] at hi; exact hi
    subst this; exact h)
  unfold notV
  rw [e]
  rfl
set_option maxRecDepth 100000 in
set_option maxHeartbeats 1000000 in
theorem vAnd_any (A B : Option Addr) (n m c d : Nat) (s t : Bool) (l k : List Int) (w : World) (h : Rb w A n l) (h' : Rb w B m k) (TT : Tabs w) :
    Calls Tryd.prog 27 #[.agg #[.slice A n c, .bool s], .agg #[.slice B m d, .bool t]] w (RetV w (bwV andI ⟨l, s⟩ ⟨k, t⟩)) := by
  have O0 := (((Own.at1 w 24 #[.slice A n c, .bool s] (g := w.heap.size) (by simp)).alloc (.cells #[.slice B m d, .bool t] 24)).alloc (.cells #[.slice none 0 0, .bool false] 24))
  have O1 := ((Own.at1 (w.alloc (.cells #[.slice A n c, .bool s] 24)) 24 #[.slice B m d, .bool t] (g := w.heap.size + 1) (by simp)).alloc (.cells #[.slice none 0 0, .bool false] 24))
  have O2 := (Own.at1 ((w.alloc (.cells #[.slice A n c, .bool s] 24)).alloc (.cells #[.slice B m d, .bool t] 24)) 24 #[.slice none 0 0, .bool false] (g := w.heap.size + 1 + 1) (by simp))
  have BB := (below_new (below_new (below_new (Below.refl w.heap.size w) (.cells #[.slice A n c, .bool s] 24)) (.cells #[.slice B m d, .bool t] 24)) (.cells #[.slice none 0 0, .bool false] 24))
  have HR := Lib.hid (bitwise_any _ #[] andI A B n m c d s t l k _ ent_and (fn_and (TT.step BB)) (fun a b _ _ => (andI_bd a b).1) (h.step BB) (h'.step BB))
  generalize bwV andI ⟨l, s⟩ ⟨k, t⟩ = z at *
  clear h h' TT
  go_enter Tryd.func27, Tryd.ntmps27
  go_wp2_with (go_at_call 45; refine HR.out.mono ?_; rintro e w1 ⟨A1, c1, rfl, n1, hb1⟩; have L1 := O2.lt; have U2 := O2.step hb1; have qU20 := U2.cell 0; have qU21 := U2.cell 1; have fU20 := U2.free 0; have fU21 := U2.free 1)
  exact ret_vec Tryd.results27 rfl rfl (U2.put2 _ _) (RetV.mk' (v := z) ((n1.far2 L1 _ _).mono BB.size) (below_set2 (below_step BB hb1) (by omega) _ _))
/-- Whether two vectors are equal, as far as is known. -/
def eqV (a b : V) : Int := red andI (bwV eqI a b)
set_option maxRecDepth 100000 in
theorem eqV_bd (a b : V) : 0 ≤ eqV a b ∧ eqV a b ≤ 2 := redU_bd andI_bd _ _
set_option maxRecDepth 100000 in
set_option maxHeartbeats 1000000 in
theorem eq_v (A B : Option Addr) (n m c d : Nat) (s t : Bool) (l k : List Int) (w : World) (h : Rb w A n l) (h' : Rb w B m k) (TT : Tabs w) :
    Calls Tryd.prog 22 #[.agg #[.slice A n c, .bool s], .agg #[.slice B m d, .bool t]] w (RetV w (one1 (eqV ⟨l, s⟩ ⟨k, t⟩))) := by
  have O0 := (((Own.at1 w 24 #[.slice A n c, .bool s] (g := w.heap.size) (by simp)).alloc (.cells #[.slice B m d, .bool t] 24)).alloc (.cells #[.slice none 0 0, .bool false] 24))
  have O1 := ((Own.at1 (w.alloc (.cells #[.slice A n c, .bool s] 24)) 24 #[.slice B m d, .bool t] (g := w.heap.size + 1) (by simp)).alloc (.cells #[.slice none 0 0, .bool false] 24))
  have O2 := (Own.at1 ((w.alloc (.cells #[.slice A n c, .bool s] 24)).alloc (.cells #[.slice B m d, .bool t] 24)) 24 #[.slice none 0 0, .bool false] (g := w.heap.size + 1 + 1) (by simp))
  have BB := (below_new (below_new (below_new (Below.refl w.heap.size w) (.cells #[.slice A n c, .bool s] 24)) (.cells #[.slice B m d, .bool t] 24)) (.cells #[.slice none 0 0, .bool false] 24))
  have HR := Lib.hid (bitwise_any _ #[] eqI A B n m c d s t l k _ ent_eq (fn_eq (TT.step BB)) (fun a b _ _ => (eqI_bd a b).1) (h.step BB) (h'.step BB))
  unfold eqV
  generalize bwV eqI ⟨l, s⟩ ⟨k, t⟩ = z at *
  replace TT := Lib.hid TT
  clear h h'
  go_enter Tryd.func22, Tryd.ntmps22
  go_wp2_with (first
    | (go_at_call 45; refine HR.out.mono ?_; rintro e w1 ⟨A1, c1, rfl, n1, hb1⟩; replace BB := below_step BB hb1; replace O2 := O2.step hb1)
    | (go_at_call 58; refine (RedAnd_any A1 _ c1 _ _ _ n1.rd n1.le (TT.out.step BB)).mono ?_; rintro e w2 ⟨A2, c2, rfl, n2, hb2⟩; have L1 := O2.lt; have U2 := O2.step hb2; have qU20 := U2.cell 0; have qU21 := U2.cell 1; have fU20 := U2.free 0; have fU21 := U2.free 1))
  exact ret_vec Tryd.results22 rfl rfl (U2.put2 _ _) (RetV.mk' (v := one1 (red andI z)) ((n2.far2 L1 _ _).mono BB.size) (below_set2 (below_step BB hb2) (by omega) _ _))
end Go.Proofs.YtognpmggfplekaaDoor

namespace Go.Proofs.YtognpmggfplekaaDoor
open Go Go.RowKit

set_option maxRecDepth 100000 in
theorem kn_ok {l : List Int} {s : Bool} (h : okB l = true) : kn ⟨l, s⟩ = knL l := by unfold kn; rw [nrm_of h]
/-- What a function value says of an order. -/
def Hd (g : Nat) (p : Int → Bool) : Prop := ∀ (W : World) (z : Int), Calls Tryd.prog g (#[.int .i64 z] ++ #[]) W fun e w' => e = .returned (.bool (p z)) ∧ Below W.heap.size W w'
def cmpB (S : Bool) (N x y : Nat) : Int := if S then B.cmpI (B.sval N x) (B.sval N y) else B.cmpI x y
def cmpV (p : Int → Bool) (a b : V) : Int := if knL (balL a b).l && knL (balR a b).l then fromI (p (cmpB (balS a b) (balN a b) (num (balL a b).l) (num (balR a b).l))) else 2
set_option maxRecDepth 100000 in
theorem cmpV_bd (p : Int → Bool) (a b : V) : 0 ≤ cmpV p a b ∧ cmpV p a b ≤ 2 := by
  unfold cmpV
  split
  · have := fromI_bd (p (cmpB (balS a b) (balN a b) (num (balL a b).l) (num (balR a b).l))); omega
  · decide
set_option maxRecDepth 100000 in
theorem ent_cmp : Ent 103 := enters_of Tryd.func103 (by kernel_rfl) rfl
end Go.Proofs.YtognpmggfplekaaDoor

namespace Go.Proofs.YtognpmggfplekaaDoor
open Go Go.RowKit

def pLt (z : Int) : Bool := decide (z < 0)
def pLe (z : Int) : Bool := decide (z ≤ 0)
def pGt (z : Int) : Bool := decide (0 < z)
def pGe (z : Int) : Bool := decide (0 ≤ z)
end Go.Proofs.YtognpmggfplekaaDoor

namespace Go.Proofs.YtognpmggfplekaaDoor
open Go Go.RowKit

def tst (wild : Int → Bool) (x y : List Int) (i : Nat) : Bool := sameB (nth x i) (nth y i) || (wild (nth x i) || wild (nth y i))
set_option maxRecDepth 100000 in
theorem all_next {T : Nat → Bool} {j : Nat} (h : ∀ i, i < j → T i = true) (hj : T j = true) : ∀ i, i < j + 1 → T i = true := fun i hi => by
  rcases Nat.lt_or_ge i j with h1 | h1
  · exact h i h1
  · obtain rfl : i = j := by omega
    exact hj
def mtL (wild : Int → Bool) (x y : List Int) (n : Nat) : Bool := (List.range n).all (tst wild x y)
def mtB (wild : Int → Bool) (a b : V) : Bool := mtL wild (balL a b).l (balR a b).l (balN a b)
set_option maxRecDepth 100000 in
theorem mtL_all {wild : Int → Bool} {x y : List Int} {n : Nat} (h : ∀ j, j < n → tst wild x y j = true) : mtL wild x y n = true := by
  unfold mtL; rw [List.all_eq_true]; intro j hj; exact h j (List.mem_range.1 hj)
set_option maxRecDepth 100000 in
theorem mtL_no {wild : Int → Bool} {x y : List Int} {n k : Nat} (hk : k < n) (h : tst wild x y k = false) : mtL wild x y n = false := by
  unfold mtL; rw [List.all_eq_false]; exact ⟨k, List.mem_range.2 hk, by rw [h]; decide⟩
set_option maxRecDepth 100000 in
set_option maxHeartbeats 8000000 in
theorem match_v (g : Nat) (wild : Int → Bool) (A Y : Option Addr) (n m c d : Nat) (s t : Bool) (l k : List Int) (w : World) (h : Rb w A n l) (h' : Rb w Y m k) (eg : Ent g) (hp : Pd w g #[] wild) :
    Calls Tryd.prog 50 #[.agg #[.slice A n c, .bool s], .agg #[.slice Y m d, .bool t], .func (.func g) #[] #[]] w fun e w' => e = .returned (.bool (mtB wild ⟨l, s⟩ ⟨k, t⟩)) ∧ Below w.heap.size w w' := by
  unfold Ent at eg
  have O0 := ((Own.at1 w 24 #[.slice A n c, .bool s] (g := w.heap.size) (by simp)).alloc (.cells #[.slice Y m d, .bool t] 24))
  have O1 := (Own.at1 (w.alloc (.cells #[.slice A n c, .bool s] 24)) 24 #[.slice Y m d, .bool t] (g := w.heap.size + 1) (by simp))
  have BB := (below_new (below_new (Below.refl w.heap.size w) (.cells #[.slice A n c, .bool s] 24)) (.cells #[.slice Y m d, .bool t] 24))
  have HB := Lib.hid (balance_q A Y n m c d s t l k _ (h.step BB) (h'.step BB))
  have hbd := balN_bd ⟨l, s⟩ ⟨k, t⟩
  have okx := balL_ok ⟨l, s⟩ ⟨k, t⟩
  have oky := balR_ok ⟨l, s⟩ ⟨k, t⟩
  unfold mtB
  generalize (balL ⟨l, s⟩ ⟨k, t⟩).l = lx at *
  generalize (balR ⟨l, s⟩ ⟨k, t⟩).l = ly at *
  generalize balN ⟨l, s⟩ ⟨k, t⟩ = N at *
  generalize balS ⟨l, s⟩ ⟨k, t⟩ = sy at *
  clear h h' okx oky
  have HP := Lib.hid hp
  clear hp
  go_enter Tryd.func50, Tryd.ntmps50
  go_wp2_with (go_at_call 79; refine HB.out.mono ?_; rintro e w1 ⟨A1, c1, A2, c2, rfl, n1, n2, hb1⟩; replace BB := below_step BB hb1; replace O0 := O0.step hb1; replace O1 := O1.step hb1; have qO00 := O0.cell 0; have qO01 := O0.cell 1; have fO00 := O0.free 0; have fO01 := O0.free 1; have qO10 := O1.cell 0; have qO11 := O1.cell 1; have fO10 := O1.free 0; have fO11 := O1.free 1; have C1 := below_set2 (below_set2 BB (Nat.le_refl _) (.slice A1 N c1) (.bool sy)) (Nat.le_succ _) (.slice A2 N c2) (.bool sy); have U0 := (O0.put2 (.slice A1 N c1) (.bool sy)).far2 (Nat.ne_of_lt (Nat.lt_succ_self _)) (.slice A2 N c2) (.bool sy); have U1 := (O1.far2 (Nat.succ_ne_self _) (.slice A1 N c1) (.bool sy)).put2 (.slice A2 N c2) (.bool sy); have r1 := (n1.rd.set2 O0 (.slice A1 N c1) (.bool sy)).set2 (O1.far2 (Nat.succ_ne_self _) (.slice A1 N c1) (.bool sy)) (.slice A2 N c2) (.bool sy); have r2 := (n2.rd.set2 O0 (.slice A1 N c1) (.bool sy)).set2 (O1.far2 (Nat.succ_ne_self _) (.slice A1 N c1) (.bool sy)) (.slice A2 N c2) (.bool sy); have qU00 := U0.cell 0; have qU01 := U0.cell 1; have qU10 := U1.cell 0; have qU11 := U1.cell 1)
  generalize ((((w1.setCell ⟨w.heap.size, 0, none⟩ (.slice A1 N c1)).setCell ⟨w.heap.size, 1, none⟩ (.bool sy)).setCell ⟨w.heap.size + 1, 0, none⟩ (.slice A2 N c2)).setCell ⟨w.heap.size + 1, 1, none⟩ (.bool sy)) = W0 at *
  clear qU00 qU01 qU10 qU11 qO00 qO01 qO10 qO11 fO00 fO01 fO10 fO11 O0 O1 BB
  go_loopw [19] (fun i wr => ∃ k : Nat, k ≤ N ∧ i = .int .i64 k ∧ Hid (Below W0.heap.size W0 wr) ∧ Hid (∀ j, j < k → tst wild lx ly j = true)) (fun i _ => N - (intOf i).toNat)
  case atStart => exact ⟨0, Nat.zero_le _, rfl, Lib.hid (Below.refl _ _), Lib.hid fun j hj => absurd hj (Nat.not_lt_zero _)⟩
  case round =>
    obtain ⟨j, hj, rfl, HW, HT⟩ := hrel
    by_cases hlt : j < N
    · obtain ⟨b1, o1, rfl, hl1, hc1⟩ := (r1.step HW.out).at_ hlt
      obtain ⟨b2, o2, rfl, hl2, hc2⟩ := (r2.step HW.out).at_ hlt
      have u0 := (U1.step HW.out).cell 0
      have hP := fun (u : World) (hb : Below wr.heap.size wr u) (a : Int) => HP.out u a (below_step (below_step C1 HW.out) hb)
      have ht : tst wild lx ly j = (sameB (nth lx j) (nth ly j) || (wild (nth lx j) || wild (nth ly j))) := rfl
      generalize nth lx j = y at *
      generalize nth ly j = z at *
      replace ht := Lib.hid ht
      replace r1 := Lib.hid r1
      replace r2 := Lib.hid r2
      replace U0 := Lib.hid U0
      replace U1 := Lib.hid U1
      replace C1 := Lib.hid C1
      have hPy := Lib.hid fun (u : World) (hb : Below wr.heap.size wr u) => hP u hb y
      have hPz := Lib.hid fun (u : World) (hb : Below wr.heap.size wr u) => hP u hb z
      have hsame := Lib.hid fun (u : World) => same_any y z u
      clear hP
      cases e1 : sameB y z
      · cases e2 : wild y
        · cases e3 : wild z
          · rw [e1] at hsame
            rw [e2] at hPy
            rw [e3] at hPz
            rw [e1, e2, e3] at ht
            clear e1 e2 e3
            go_wp2_with (first
              | (go_at_call 83; refine (hsame.out _).mono ?_; rintro e w4 ⟨rfl, q, rfl⟩)
              | (go_at_fn g; refine (hPy.out _ (below_drewN (Below.refl _ _) q)).mono ?_; rintro e w5 ⟨rfl, hb5⟩; clear hPy; have hb5' := below_step (below_drewN (Below.refl _ wr) q) hb5)
              | (go_at_fn g; refine (hPz.out _ hb5').mono ?_; rintro e w6 ⟨rfl, hb6⟩))
            go_ret
            exact ⟨ret_b (mtL_no hlt (by rw [ht.out]; rfl)).symm, below_step (below_step (below_step C1.out HW.out) hb5') hb6⟩
          · rw [e1] at hsame
            rw [e2] at hPy
            rw [e3] at hPz
            rw [e1, e2, e3] at ht
            clear e1 e2 e3
            go_wp2_with (first
              | (go_at_call 83; refine (hsame.out _).mono ?_; rintro e w4 ⟨rfl, q, rfl⟩)
              | (go_at_fn g; refine (hPy.out _ (below_drewN (Below.refl _ _) q)).mono ?_; rintro e w5 ⟨rfl, hb5⟩; clear hPy; have hb5' := below_step (below_drewN (Below.refl _ wr) q) hb5)
              | (go_at_fn g; refine (hPz.out _ hb5').mono ?_; rintro e w6 ⟨rfl, hb6⟩))
            go_roundw
            case rel => exact ⟨j + 1, by omega, by go_num, Lib.hid (below_step (below_step HW.out hb5') hb6), Lib.hid (all_next HT.out ht.out)⟩
            case measure => simp [intOf]; omega
        · rw [e1] at hsame
          rw [e2] at hPy
          rw [e1, e2] at ht
          clear e1 e2
          go_wp2_with (first
              | (go_at_call 83; refine (hsame.out _).mono ?_; rintro e w4 ⟨rfl, q, rfl⟩)
              | (go_at_fn g; refine (hPy.out _ (below_drewN (Below.refl _ _) q)).mono ?_; rintro e w5 ⟨rfl, hb5⟩; clear hPy; have hb5' := below_step (below_drewN (Below.refl _ wr) q) hb5))
          go_roundw
          case rel => exact ⟨j + 1, by omega, by go_num, Lib.hid (below_step HW.out hb5'), Lib.hid (all_next HT.out ht.out)⟩
          case measure => simp [intOf]; omega
      · rw [e1] at hsame
        rw [e1] at ht
        clear e1
        go_wp2_with (go_at_call 83; refine (hsame.out _).mono ?_; rintro e w4 ⟨rfl, q, rfl⟩)
        go_roundw
        case rel => exact ⟨j + 1, by omega, by go_num, Lib.hid (below_drewN HW.out q), Lib.hid (all_next HT.out ht.out)⟩
        case measure => simp [intOf]; omega
    · obtain rfl : j = N := by omega
      go_wp2
      go_ret
      exact ⟨ret_b (mtL_all HT.out).symm, below_step C1 HW.out⟩
def noW (_ : Int) : Bool := false
set_option maxRecDepth 100000 in
theorem pd_CaseEq (w : World) : Pd w 51 #[] noW := by
  intro W a hb
  show Calls _ _ #[.int .u8 a] W _
  unfold noW
  go_enter Tryd.func51, Tryd.ntmps51
  go_wp2
  go_ret
  exact ⟨rfl, Below.refl _ _⟩
set_option maxRecDepth 100000 in
theorem ent_CaseEq : Ent 51 := enters_of Tryd.func51 (by kernel_rfl) rfl
def zW (a : Int) : Bool := a == 3
set_option maxRecDepth 100000 in
theorem pd_MatchZ (w : World) : Pd w 53 #[] zW := by
  intro W a hb
  show Calls _ _ #[.int .u8 a] W _
  unfold zW
  go_enter Tryd.func53, Tryd.ntmps53
  go_wp2
  go_ret
  exact ⟨rfl, Below.refl _ _⟩
set_option maxRecDepth 100000 in
theorem ent_MatchZ : Ent 53 := enters_of Tryd.func53 (by kernel_rfl) rfl
set_option maxRecDepth 100000 in
theorem pd_MatchX (w : World) : Pd w 54 #[] unkB := by
  intro W a hb
  show Calls _ _ #[.int .u8 a] W _
  unfold unkB
  go_enter Tryd.func54, Tryd.ntmps54
  go_wp2_with (go_at_call 55; refine (known_any _ _).mono ?_; rintro e w1 ⟨rfl, m, rfl⟩)
  go_ret
  exact ⟨rfl, below_drewN (Below.refl _ _) m⟩
set_option maxRecDepth 100000 in
theorem ent_MatchX : Ent 54 := enters_of Tryd.func54 (by kernel_rfl) rfl
set_option maxRecDepth 100000 in
theorem MatchZ_any (A Y : Option Addr) (n m c d : Nat) (s t : Bool) (l k : List Int) (w : World) (h : Rb w A n l) (h' : Rb w Y m k) :
    Calls Tryd.prog 19 #[.agg #[.slice A n c, .bool s], .agg #[.slice Y m d, .bool t]] w fun e w' => e = .returned (.bool (mtB zW ⟨l, s⟩ ⟨k, t⟩)) ∧ Below w.heap.size w w' := by
  have O0 := ((Own.at1 w 24 #[.slice A n c, .bool s] (g := w.heap.size) (by simp)).alloc (.cells #[.slice Y m d, .bool t] 24))
  have O1 := (Own.at1 (w.alloc (.cells #[.slice A n c, .bool s] 24)) 24 #[.slice Y m d, .bool t] (g := w.heap.size + 1) (by simp))
  have BB := (below_new (below_new (Below.refl w.heap.size w) (.cells #[.slice A n c, .bool s] 24)) (.cells #[.slice Y m d, .bool t] 24))
  have HR := Lib.hid (match_v _ zW A Y n m c d s t l k _ (h.step BB) (h'.step BB) ent_MatchZ (pd_MatchZ _))
  generalize mtB zW ⟨l, s⟩ ⟨k, t⟩ = z at *
  clear h h' O0 O1
  go_enter Tryd.func19, Tryd.ntmps19
  go_wp2_with (go_at_call 50; refine HR.out.mono ?_; rintro e w1 ⟨rfl, hb1⟩)
  go_ret
  exact ⟨rfl, below_step BB hb1⟩
set_option maxRecDepth 100000 in
theorem MatchX_any (A Y : Option Addr) (n m c d : Nat) (s t : Bool) (l k : List Int) (w : World) (h : Rb w A n l) (h' : Rb w Y m k) :
    Calls Tryd.prog 20 #[.agg #[.slice A n c, .bool s], .agg #[.slice Y m d, .bool t]] w fun e w' => e = .returned (.bool (mtB unkB ⟨l, s⟩ ⟨k, t⟩)) ∧ Below w.heap.size w w' := by
  have O0 := ((Own.at1 w 24 #[.slice A n c, .bool s] (g := w.heap.size) (by simp)).alloc (.cells #[.slice Y m d, .bool t] 24))
  have O1 := (Own.at1 (w.alloc (.cells #[.slice A n c, .bool s] 24)) 24 #[.slice Y m d, .bool t] (g := w.heap.size + 1) (by simp))
  have BB := (below_new (below_new (Below.refl w.heap.size w) (.cells #[.slice A n c, .bool s] 24)) (.cells #[.slice Y m d, .bool t] 24))
  have HR := Lib.hid (match_v _ unkB A Y n m c d s t l k _ (h.step BB) (h'.step BB) ent_MatchX (pd_MatchX _))
  generalize mtB unkB ⟨l, s⟩ ⟨k, t⟩ = z at *
  clear h h' O0 O1
  go_enter Tryd.func20, Tryd.ntmps20
  go_wp2_with (go_at_call 50; refine HR.out.mono ?_; rintro e w1 ⟨rfl, hb1⟩)
  go_ret
  exact ⟨rfl, below_step BB hb1⟩
set_option maxRecDepth 100000 in
set_option maxHeartbeats 1000000 in
theorem caseEq_any (A Y : Option Addr) (n m c d : Nat) (s t : Bool) (l k : List Int) (w : World) (h : Rb w A n l) (h' : Rb w Y m k) :
    Calls Tryd.prog 17 #[.agg #[.slice A n c, .bool s], .agg #[.slice Y m d, .bool t]] w (RetV w (one1 (fromI (mtB noW ⟨l, s⟩ ⟨k, t⟩)))) := by
  have O0 := (((Own.at1 w 24 #[.slice A n c, .bool s] (g := w.heap.size) (by simp)).alloc (.cells #[.slice Y m d, .bool t] 24)).alloc (.cells #[.slice none 0 0, .bool false] 24))
  have O1 := ((Own.at1 (w.alloc (.cells #[.slice A n c, .bool s] 24)) 24 #[.slice Y m d, .bool t] (g := w.heap.size + 1) (by simp)).alloc (.cells #[.slice none 0 0, .bool false] 24))
  have O2 := (Own.at1 ((w.alloc (.cells #[.slice A n c, .bool s] 24)).alloc (.cells #[.slice Y m d, .bool t] 24)) 24 #[.slice none 0 0, .bool false] (g := w.heap.size + 1 + 1) (by simp))
  have BB := (below_new (below_new (below_new (Below.refl w.heap.size w) (.cells #[.slice A n c, .bool s] 24)) (.cells #[.slice Y m d, .bool t] 24)) (.cells #[.slice none 0 0, .bool false] 24))
  have HR := Lib.hid (match_v _ noW A Y n m c d s t l k _ (h.step BB) (h'.step BB) ent_CaseEq (pd_CaseEq _))
  generalize mtB noW ⟨l, s⟩ ⟨k, t⟩ = z at *
  clear h h'
  go_enter Tryd.func17, Tryd.ntmps17
  go_wp2_with (first
    | (go_at_call 50; refine HR.out.mono ?_; rintro e w1 ⟨rfl, hb1⟩; replace BB := below_step BB hb1; replace O2 := O2.step hb1)
    | (go_at_call 49; refine (quietB (from_any _ _)).mono ?_; rintro e w2 ⟨rfl, hb2⟩; replace BB := below_step BB hb2; replace O2 := O2.step hb2)
    | (go_at_call 48; refine (single_any _ _ (fromI_bd _).1).mono ?_; rintro e w3 ⟨A9, c9, rfl, n9, hb9⟩; have L1 := O2.lt; have W2 := O2.step hb9; have qW20 := W2.cell 0; have qW21 := W2.cell 1; have fW20 := W2.free 0; have fW21 := W2.free 1))
  exact ret_vec Tryd.results17 rfl rfl (W2.put2 _ _) (RetV.mk' (v := one1 (fromI z)) ((n9.far2 L1 _ _).mono BB.size) (below_set2 (below_step BB hb9) (by omega) _ _))
set_option maxRecDepth 100000 in
set_option maxHeartbeats 1000000 in
theorem caseNe_any (A Y : Option Addr) (n m c d : Nat) (s t : Bool) (l k : List Int) (w : World) (h : Rb w A n l) (h' : Rb w Y m k) (TT : Tabs w) :
    Calls Tryd.prog 18 #[.agg #[.slice A n c, .bool s], .agg #[.slice Y m d, .bool t]] w (RetV w (one1 (notI (fromI (mtB noW ⟨l, s⟩ ⟨k, t⟩))))) := by
  have O0 := (((Own.at1 w 24 #[.slice A n c, .bool s] (g := w.heap.size) (by simp)).alloc (.cells #[.slice Y m d, .bool t] 24)).alloc (.cells #[.slice none 0 0, .bool false] 24))
  have O1 := ((Own.at1 (w.alloc (.cells #[.slice A n c, .bool s] 24)) 24 #[.slice Y m d, .bool t] (g := w.heap.size + 1) (by simp)).alloc (.cells #[.slice none 0 0, .bool false] 24))
  have O2 := (Own.at1 ((w.alloc (.cells #[.slice A n c, .bool s] 24)).alloc (.cells #[.slice Y m d, .bool t] 24)) 24 #[.slice none 0 0, .bool false] (g := w.heap.size + 1 + 1) (by simp))
  have BB := (below_new (below_new (below_new (Below.refl w.heap.size w) (.cells #[.slice A n c, .bool s] 24)) (.cells #[.slice Y m d, .bool t] 24)) (.cells #[.slice none 0 0, .bool false] 24))
  have HR := Lib.hid (caseEq_any A Y n m c d s t l k _ (h.step BB) (h'.step BB))
  rw [← notV_one (Int.le_trans (fromI_bd _).2 (by decide))]
  generalize fromI (mtB noW ⟨l, s⟩ ⟨k, t⟩) = z at *
  replace TT := Lib.hid TT
  clear h h'
  go_enter Tryd.func18, Tryd.ntmps18
  go_wp2_with (first
    | (go_at_call 17; refine HR.out.mono ?_; rintro e w1 ⟨A1, c1, rfl, n1, hb1⟩; replace BB := below_step BB hb1; replace O2 := O2.step hb1)
    | (go_at_call 52; refine (not_v A1 _ c1 _ _ _ n1.rd (TT.out.step BB)).mono ?_; rintro e w2 ⟨A2, c2, rfl, n2, hb2⟩; have L1 := O2.lt; have U2 := O2.step hb2; have qU20 := U2.cell 0; have qU21 := U2.cell 1; have fU20 := U2.free 0; have fU21 := U2.free 1))
  exact ret_vec Tryd.results18 rfl rfl (U2.put2 _ _) (RetV.mk' (v := notV (one1 z)) ((n2.far2 L1 _ _).mono BB.size) (below_set2 (below_step BB hb2) (by omega) _ _))
end Go.Proofs.YtognpmggfplekaaDoor
