/-
  Contracts of the program's bitwise operators, equality and the operators of one bit. No conditions.
  Contracts of the program's comparisons. No conditions.
  Contracts of the program's order relations. No conditions.
  Contracts of the program's matching. No conditions.
-/
import Derived.Test.YtognpmggfplekaaGreatDoorPcQh
import Derived.Test.YtognpmggfplekaaGreatDoorPcQf

set_option maxRecDepth 100000
namespace Go.Proofs.YtognpmggfplekaaGreatDoor
open Go Go.RowKit

theorem notV_one {z : Int} (h : z ≤ 3) : notV (one1 z) = one1 (notI z) := by
  have e : nrm (one1 z) = one1 z := nrm_of (ok_mk (by simp [one1]) (by simp [one1]) fun i hi => by
    have : i = 0 := by simp [one1] at hi; exact hi
    subst this; exact h)
  unfold notV
  rw [e]
  rfl
set_option maxHeartbeats 1000000 in
theorem RedNand_any (A : Option Addr) (n c : Nat) (s : Bool) (l : List Int) (w : World) (h : Rb w A n l) (hcap : n ≤ c) (TT : Tabs w) :
    Calls Tryz.prog 69 #[.agg #[.slice A n c, .bool s]] w (RetV w (one1 (notI (red andI ⟨l, s⟩)))) := by
  have O0 := ((Own.at1 w 24 #[.slice A n c, .bool s] (g := w.heap.size) (by simp)).alloc (.cells #[.slice none 0 0, .bool false] 24))
  have O1 := (Own.at1 (w.alloc (.cells #[.slice A n c, .bool s] 24)) 24 #[.slice none 0 0, .bool false] (g := w.heap.size + 1) (by simp))
  have BB := (below_new (below_new (Below.refl w.heap.size w) (.cells #[.slice A n c, .bool s] 24)) (.cells #[.slice none 0 0, .bool false] 24))
  have HR := Lib.hid (RedAnd_any A n c s l _ (h.step BB) hcap (TT.step BB))
  have hz := redU_bd andI_bd (nrm ⟨l, s⟩).l ((nrm ⟨l, s⟩).l.length - 1)
  rw [← notV_one (show red andI ⟨l, s⟩ ≤ 3 from Int.le_trans hz.2 (by decide))]
  generalize red andI ⟨l, s⟩ = z at *
  replace TT := Lib.hid TT
  clear h hz
  go_enter Tryz.func69, Tryz.ntmps69
  go_wp2_with (first
    | (go_at_call 66; refine HR.out.mono ?_; rintro e w1 ⟨A1, c1, rfl, n1, hb1⟩; replace BB := below_step BB hb1; replace O1 := O1.step hb1)
    | (go_at_call 55; refine (not_v A1 _ c1 _ _ _ n1.rd (TT.out.step BB)).mono ?_; rintro e w2 ⟨A2, c2, rfl, n2, hb2⟩; have L1 := O1.lt; have O2 := O1.step hb2; have qO20 := O2.cell 0; have qO21 := O2.cell 1; have fO20 := O2.free 0; have fO21 := O2.free 1))
  exact ret_vec Tryz.results69 rfl rfl (O2.put2 _ _) (RetV.mk' (v := notV (one1 z)) ((n2.far2 L1 _ _).mono BB.size) (below_set2 (below_step BB hb2) (by omega) _ _))
set_option maxHeartbeats 1000000 in
theorem RedNor_any (A : Option Addr) (n c : Nat) (s : Bool) (l : List Int) (w : World) (h : Rb w A n l) (hcap : n ≤ c) (TT : Tabs w) :
    Calls Tryz.prog 70 #[.agg #[.slice A n c, .bool s]] w (RetV w (one1 (notI (red orI ⟨l, s⟩)))) := by
  have O0 := ((Own.at1 w 24 #[.slice A n c, .bool s] (g := w.heap.size) (by simp)).alloc (.cells #[.slice none 0 0, .bool false] 24))
  have O1 := (Own.at1 (w.alloc (.cells #[.slice A n c, .bool s] 24)) 24 #[.slice none 0 0, .bool false] (g := w.heap.size + 1) (by simp))
  have BB := (below_new (below_new (Below.refl w.heap.size w) (.cells #[.slice A n c, .bool s] 24)) (.cells #[.slice none 0 0, .bool false] 24))
  have HR := Lib.hid (RedOr_any A n c s l _ (h.step BB) hcap (TT.step BB))
  have hz := redU_bd orI_bd (nrm ⟨l, s⟩).l ((nrm ⟨l, s⟩).l.length - 1)
  rw [← notV_one (show red orI ⟨l, s⟩ ≤ 3 from Int.le_trans hz.2 (by decide))]
  generalize red orI ⟨l, s⟩ = z at *
  replace TT := Lib.hid TT
  clear h hz
  go_enter Tryz.func70, Tryz.ntmps70
  go_wp2_with (first
    | (go_at_call 67; refine HR.out.mono ?_; rintro e w1 ⟨A1, c1, rfl, n1, hb1⟩; replace BB := below_step BB hb1; replace O1 := O1.step hb1)
    | (go_at_call 55; refine (not_v A1 _ c1 _ _ _ n1.rd (TT.out.step BB)).mono ?_; rintro e w2 ⟨A2, c2, rfl, n2, hb2⟩; have L1 := O1.lt; have O2 := O1.step hb2; have qO20 := O2.cell 0; have qO21 := O2.cell 1; have fO20 := O2.free 0; have fO21 := O2.free 1))
  exact ret_vec Tryz.results70 rfl rfl (O2.put2 _ _) (RetV.mk' (v := notV (one1 z)) ((n2.far2 L1 _ _).mono BB.size) (below_set2 (below_step BB hb2) (by omega) _ _))
set_option maxHeartbeats 1000000 in
theorem RedXnor_any (A : Option Addr) (n c : Nat) (s : Bool) (l : List Int) (w : World) (h : Rb w A n l) (hcap : n ≤ c) (TT : Tabs w) :
    Calls Tryz.prog 71 #[.agg #[.slice A n c, .bool s]] w (RetV w (one1 (notI (red xorI ⟨l, s⟩)))) := by
  have O0 := ((Own.at1 w 24 #[.slice A n c, .bool s] (g := w.heap.size) (by simp)).alloc (.cells #[.slice none 0 0, .bool false] 24))
  have O1 := (Own.at1 (w.alloc (.cells #[.slice A n c, .bool s] 24)) 24 #[.slice none 0 0, .bool false] (g := w.heap.size + 1) (by simp))
  have BB := (below_new (below_new (Below.refl w.heap.size w) (.cells #[.slice A n c, .bool s] 24)) (.cells #[.slice none 0 0, .bool false] 24))
  have HR := Lib.hid (RedXor_any A n c s l _ (h.step BB) hcap (TT.step BB))
  have hz := redU_bd xorI_bd (nrm ⟨l, s⟩).l ((nrm ⟨l, s⟩).l.length - 1)
  rw [← notV_one (show red xorI ⟨l, s⟩ ≤ 3 from Int.le_trans hz.2 (by decide))]
  generalize red xorI ⟨l, s⟩ = z at *
  replace TT := Lib.hid TT
  clear h hz
  go_enter Tryz.func71, Tryz.ntmps71
  go_wp2_with (first
    | (go_at_call 68; refine HR.out.mono ?_; rintro e w1 ⟨A1, c1, rfl, n1, hb1⟩; replace BB := below_step BB hb1; replace O1 := O1.step hb1)
    | (go_at_call 55; refine (not_v A1 _ c1 _ _ _ n1.rd (TT.out.step BB)).mono ?_; rintro e w2 ⟨A2, c2, rfl, n2, hb2⟩; have L1 := O1.lt; have O2 := O1.step hb2; have qO20 := O2.cell 0; have qO21 := O2.cell 1; have fO20 := O2.free 0; have fO21 := O2.free 1))
  exact ret_vec Tryz.results71 rfl rfl (O2.put2 _ _) (RetV.mk' (v := notV (one1 z)) ((n2.far2 L1 _ _).mono BB.size) (below_set2 (below_step BB hb2) (by omega) _ _))
set_option maxHeartbeats 1000000 in
theorem lnot_any (A : Option Addr) (n c : Nat) (s : Bool) (l : List Int) (w : World) (h : Rb w A n l) (hcap : n ≤ c) (TT : Tabs w) :
    Calls Tryz.prog 72 #[.agg #[.slice A n c, .bool s]] w (RetV w (one1 (notI (truth ⟨l, s⟩)))) := by
  have O0 := ((Own.at1 w 24 #[.slice A n c, .bool s] (g := w.heap.size) (by simp)).alloc (.cells #[.slice none 0 0, .bool false] 24))
  have O1 := (Own.at1 (w.alloc (.cells #[.slice A n c, .bool s] 24)) 24 #[.slice none 0 0, .bool false] (g := w.heap.size + 1) (by simp))
  have BB := (below_new (below_new (Below.refl w.heap.size w) (.cells #[.slice A n c, .bool s] 24)) (.cells #[.slice none 0 0, .bool false] 24))
  have HR := Lib.hid (truth_any A n c s l _ (h.step BB) hcap (TT.step BB))
  have hz := truth_bd ⟨l, s⟩
  generalize truth ⟨l, s⟩ = z at *
  have HN := Lib.hid (fun (u : World) (t : Tabs u) => b_not u hz.1 t)
  have HS := Lib.hid (fun (u : World) => single_any (notI z) u (notI_bd z).1)
  generalize notI z = y at *
  replace TT := Lib.hid TT
  clear h hz
  go_enter Tryz.func72, Tryz.ntmps72
  go_wp2_with (first
    | (go_at_call 35; refine HR.out.mono ?_; rintro e w1 ⟨rfl, hb1⟩; replace BB := below_step BB hb1; replace O1 := O1.step hb1)
    | (go_at_call 148; refine (HN.out _ (TT.out.step BB)).mono ?_; rintro e w3 ⟨rfl, hb3⟩; replace BB := below_step BB hb3; replace O1 := O1.step hb3)
    | (go_at_call 161; refine (HS.out _).mono ?_; rintro e w2 ⟨A2, c2, rfl, n2, hb2⟩; have L1 := O1.lt; have O2 := O1.step hb2; have qO20 := O2.cell 0; have qO21 := O2.cell 1; have fO20 := O2.free 0; have fO21 := O2.free 1))
  exact ret_vec Tryz.results72 rfl rfl (O2.put2 _ _) (RetV.mk' (v := one1 y) ((n2.far2 L1 _ _).mono BB.size) (below_set2 (below_step BB hb2) (by omega) _ _))
set_option maxHeartbeats 1000000 in
theorem vAnd_any (A B : Option Addr) (n m c d : Nat) (s t : Bool) (l k : List Int) (w : World) (h : Rb w A n l) (h' : Rb w B m k) (TT : Tabs w) :
    Calls Tryz.prog 88 #[.agg #[.slice A n c, .bool s], .agg #[.slice B m d, .bool t]] w (RetV w (bwV andI ⟨l, s⟩ ⟨k, t⟩)) := by
  have O0 := (((Own.at1 w 24 #[.slice A n c, .bool s] (g := w.heap.size) (by simp)).alloc (.cells #[.slice B m d, .bool t] 24)).alloc (.cells #[.slice none 0 0, .bool false] 24))
  have O1 := ((Own.at1 (w.alloc (.cells #[.slice A n c, .bool s] 24)) 24 #[.slice B m d, .bool t] (g := w.heap.size + 1) (by simp)).alloc (.cells #[.slice none 0 0, .bool false] 24))
  have O2 := (Own.at1 ((w.alloc (.cells #[.slice A n c, .bool s] 24)).alloc (.cells #[.slice B m d, .bool t] 24)) 24 #[.slice none 0 0, .bool false] (g := w.heap.size + 1 + 1) (by simp))
  have BB := (below_new (below_new (below_new (Below.refl w.heap.size w) (.cells #[.slice A n c, .bool s] 24)) (.cells #[.slice B m d, .bool t] 24)) (.cells #[.slice none 0 0, .bool false] 24))
  have HR := Lib.hid (bitwise_any _ #[] andI A B n m c d s t l k _ ent_and (fn_and (TT.step BB)) (fun a b _ _ => (andI_bd a b).1) (h.step BB) (h'.step BB))
  generalize bwV andI ⟨l, s⟩ ⟨k, t⟩ = z at *
  clear h h' TT
  go_enter Tryz.func88, Tryz.ntmps88
  go_wp2_with (go_at_call 143; refine HR.out.mono ?_; rintro e w1 ⟨A1, c1, rfl, n1, hb1⟩; have L1 := O2.lt; have U2 := O2.step hb1; have qU20 := U2.cell 0; have qU21 := U2.cell 1; have fU20 := U2.free 0; have fU21 := U2.free 1)
  exact ret_vec Tryz.results88 rfl rfl (U2.put2 _ _) (RetV.mk' (v := z) ((n1.far2 L1 _ _).mono BB.size) (below_set2 (below_step BB hb1) (by omega) _ _))
set_option maxHeartbeats 1000000 in
theorem vOr_any (A B : Option Addr) (n m c d : Nat) (s t : Bool) (l k : List Int) (w : World) (h : Rb w A n l) (h' : Rb w B m k) (TT : Tabs w) :
    Calls Tryz.prog 57 #[.agg #[.slice A n c, .bool s], .agg #[.slice B m d, .bool t]] w (RetV w (bwV orI ⟨l, s⟩ ⟨k, t⟩)) := by
  have O0 := (((Own.at1 w 24 #[.slice A n c, .bool s] (g := w.heap.size) (by simp)).alloc (.cells #[.slice B m d, .bool t] 24)).alloc (.cells #[.slice none 0 0, .bool false] 24))
  have O1 := ((Own.at1 (w.alloc (.cells #[.slice A n c, .bool s] 24)) 24 #[.slice B m d, .bool t] (g := w.heap.size + 1) (by simp)).alloc (.cells #[.slice none 0 0, .bool false] 24))
  have O2 := (Own.at1 ((w.alloc (.cells #[.slice A n c, .bool s] 24)).alloc (.cells #[.slice B m d, .bool t] 24)) 24 #[.slice none 0 0, .bool false] (g := w.heap.size + 1 + 1) (by simp))
  have BB := (below_new (below_new (below_new (Below.refl w.heap.size w) (.cells #[.slice A n c, .bool s] 24)) (.cells #[.slice B m d, .bool t] 24)) (.cells #[.slice none 0 0, .bool false] 24))
  have HR := Lib.hid (bitwise_any _ #[] orI A B n m c d s t l k _ ent_or (fn_or (TT.step BB)) (fun a b _ _ => (orI_bd a b).1) (h.step BB) (h'.step BB))
  generalize bwV orI ⟨l, s⟩ ⟨k, t⟩ = z at *
  clear h h' TT
  go_enter Tryz.func57, Tryz.ntmps57
  go_wp2_with (go_at_call 143; refine HR.out.mono ?_; rintro e w1 ⟨A1, c1, rfl, n1, hb1⟩; have L1 := O2.lt; have U2 := O2.step hb1; have qU20 := U2.cell 0; have qU21 := U2.cell 1; have fU20 := U2.free 0; have fU21 := U2.free 1)
  exact ret_vec Tryz.results57 rfl rfl (U2.put2 _ _) (RetV.mk' (v := z) ((n1.far2 L1 _ _).mono BB.size) (below_set2 (below_step BB hb1) (by omega) _ _))
def eqV (a b : V) : Int := red andI (bwV eqI a b)
theorem eqV_bd (a b : V) : 0 ≤ eqV a b ∧ eqV a b ≤ 2 := redU_bd andI_bd _ _
set_option maxHeartbeats 1000000 in
theorem eq_v (A B : Option Addr) (n m c d : Nat) (s t : Bool) (l k : List Int) (w : World) (h : Rb w A n l) (h' : Rb w B m k) (TT : Tabs w) :
    Calls Tryz.prog 91 #[.agg #[.slice A n c, .bool s], .agg #[.slice B m d, .bool t]] w (RetV w (one1 (eqV ⟨l, s⟩ ⟨k, t⟩))) := by
  have O0 := (((Own.at1 w 24 #[.slice A n c, .bool s] (g := w.heap.size) (by simp)).alloc (.cells #[.slice B m d, .bool t] 24)).alloc (.cells #[.slice none 0 0, .bool false] 24))
  have O1 := ((Own.at1 (w.alloc (.cells #[.slice A n c, .bool s] 24)) 24 #[.slice B m d, .bool t] (g := w.heap.size + 1) (by simp)).alloc (.cells #[.slice none 0 0, .bool false] 24))
  have O2 := (Own.at1 ((w.alloc (.cells #[.slice A n c, .bool s] 24)).alloc (.cells #[.slice B m d, .bool t] 24)) 24 #[.slice none 0 0, .bool false] (g := w.heap.size + 1 + 1) (by simp))
  have BB := (below_new (below_new (below_new (Below.refl w.heap.size w) (.cells #[.slice A n c, .bool s] 24)) (.cells #[.slice B m d, .bool t] 24)) (.cells #[.slice none 0 0, .bool false] 24))
  have HR := Lib.hid (bitwise_any _ #[] eqI A B n m c d s t l k _ ent_eq (fn_eq (TT.step BB)) (fun a b _ _ => (eqI_bd a b).1) (h.step BB) (h'.step BB))
  unfold eqV
  generalize bwV eqI ⟨l, s⟩ ⟨k, t⟩ = z at *
  replace TT := Lib.hid TT
  clear h h'
  go_enter Tryz.func91, Tryz.ntmps91
  go_wp2_with (first
    | (go_at_call 143; refine HR.out.mono ?_; rintro e w1 ⟨A1, c1, rfl, n1, hb1⟩; replace BB := below_step BB hb1; replace O2 := O2.step hb1)
    | (go_at_call 66; refine (RedAnd_any A1 _ c1 _ _ _ n1.rd n1.le (TT.out.step BB)).mono ?_; rintro e w2 ⟨A2, c2, rfl, n2, hb2⟩; have L1 := O2.lt; have U2 := O2.step hb2; have qU20 := U2.cell 0; have qU21 := U2.cell 1; have fU20 := U2.free 0; have fU21 := U2.free 1))
  exact ret_vec Tryz.results91 rfl rfl (U2.put2 _ _) (RetV.mk' (v := one1 (red andI z)) ((n2.far2 L1 _ _).mono BB.size) (below_set2 (below_step BB hb2) (by omega) _ _))
set_option maxHeartbeats 1000000 in
theorem ne_v (A B : Option Addr) (n m c d : Nat) (s t : Bool) (l k : List Int) (w : World) (h : Rb w A n l) (h' : Rb w B m k) (TT : Tabs w) :
    Calls Tryz.prog 80 #[.agg #[.slice A n c, .bool s], .agg #[.slice B m d, .bool t]] w (RetV w (one1 (notI (eqV ⟨l, s⟩ ⟨k, t⟩)))) := by
  have O0 := (((Own.at1 w 24 #[.slice A n c, .bool s] (g := w.heap.size) (by simp)).alloc (.cells #[.slice B m d, .bool t] 24)).alloc (.cells #[.slice none 0 0, .bool false] 24))
  have O1 := ((Own.at1 (w.alloc (.cells #[.slice A n c, .bool s] 24)) 24 #[.slice B m d, .bool t] (g := w.heap.size + 1) (by simp)).alloc (.cells #[.slice none 0 0, .bool false] 24))
  have O2 := (Own.at1 ((w.alloc (.cells #[.slice A n c, .bool s] 24)).alloc (.cells #[.slice B m d, .bool t] 24)) 24 #[.slice none 0 0, .bool false] (g := w.heap.size + 1 + 1) (by simp))
  have BB := (below_new (below_new (below_new (Below.refl w.heap.size w) (.cells #[.slice A n c, .bool s] 24)) (.cells #[.slice B m d, .bool t] 24)) (.cells #[.slice none 0 0, .bool false] 24))
  have HR := Lib.hid (eq_v A B n m c d s t l k _ (h.step BB) (h'.step BB) (TT.step BB))
  have hz := eqV_bd ⟨l, s⟩ ⟨k, t⟩
  rw [← notV_one (Int.le_trans hz.2 (by decide))]
  generalize eqV ⟨l, s⟩ ⟨k, t⟩ = z at *
  replace TT := Lib.hid TT
  clear h h' hz
  go_enter Tryz.func80, Tryz.ntmps80
  go_wp2_with (first
    | (go_at_call 91; refine HR.out.mono ?_; rintro e w1 ⟨A1, c1, rfl, n1, hb1⟩; replace BB := below_step BB hb1; replace O2 := O2.step hb1)
    | (go_at_call 55; refine (not_v A1 _ c1 _ _ _ n1.rd (TT.out.step BB)).mono ?_; rintro e w2 ⟨A2, c2, rfl, n2, hb2⟩; have L1 := O2.lt; have U2 := O2.step hb2; have qU20 := U2.cell 0; have qU21 := U2.cell 1; have fU20 := U2.free 0; have fU21 := U2.free 1))
  exact ret_vec Tryz.results80 rfl rfl (U2.put2 _ _) (RetV.mk' (v := notV (one1 z)) ((n2.far2 L1 _ _).mono BB.size) (below_set2 (below_step BB hb2) (by omega) _ _))
set_option maxHeartbeats 4000000 in
theorem LAnd_any (A B : Option Addr) (n m c d : Nat) (s t : Bool) (l k : List Int) (w : World) (h : Rb w A n l) (h' : Rb w B m k) (hcap : n ≤ c) (hcap2 : m ≤ d) (TT : Tabs w) :
    Calls Tryz.prog 73 #[.agg #[.slice A n c, .bool s], .agg #[.slice B m d, .bool t]] w (RetV w (one1 (andI (truth ⟨l, s⟩) (truth ⟨k, t⟩)))) := by
  have O0 := (((Own.at1 w 24 #[.slice A n c, .bool s] (g := w.heap.size) (by simp)).alloc (.cells #[.slice B m d, .bool t] 24)).alloc (.cells #[.slice none 0 0, .bool false] 24))
  have O1 := ((Own.at1 (w.alloc (.cells #[.slice A n c, .bool s] 24)) 24 #[.slice B m d, .bool t] (g := w.heap.size + 1) (by simp)).alloc (.cells #[.slice none 0 0, .bool false] 24))
  have O2 := (Own.at1 ((w.alloc (.cells #[.slice A n c, .bool s] 24)).alloc (.cells #[.slice B m d, .bool t] 24)) 24 #[.slice none 0 0, .bool false] (g := w.heap.size + 1 + 1) (by simp))
  have BB := (below_new (below_new (below_new (Below.refl w.heap.size w) (.cells #[.slice A n c, .bool s] 24)) (.cells #[.slice B m d, .bool t] 24)) (.cells #[.slice none 0 0, .bool false] 24))
  have HR := Lib.hid (fun (u : World) (hb : Below w.heap.size w u) => truth_any A n c s l u (h.step hb) hcap (TT.step hb))
  have HR2 := Lib.hid (fun (u : World) (hb : Below w.heap.size w u) => truth_any B m d t k u (h'.step hb) hcap2 (TT.step hb))
  have hz := truth_bd ⟨l, s⟩
  have hz2 := truth_bd ⟨k, t⟩
  generalize truth ⟨l, s⟩ = z at *
  generalize truth ⟨k, t⟩ = z2 at *
  have HN := Lib.hid (fun (u : World) (hb : Below w.heap.size w u) => b_and u hz.1 hz2.1 (TT.step hb))
  have HS := Lib.hid (fun (u : World) => single_any (andI z z2) u (andI_bd z z2).1)
  generalize andI z z2 = y at *
  have p0 := O0.cell 0
  have p1 := O0.cell 1
  have p2 := O1.cell 0
  have p3 := O1.cell 1
  simp only [List.getElem?_toArray, List.getElem?_cons_zero, List.getElem?_cons_succ] at p0 p1 p2 p3
  replace BB := Lib.hid BB
  replace O2 := Lib.hid O2
  clear h h' hz hz2 O0 O1 TT
  go_enter Tryz.func73, Tryz.ntmps73
  go_wp2
  go_region_held3 (fun u => u.cell? ⟨w.heap.size, 0, none⟩ = some (.slice A n c) ∧ u.cell? ⟨w.heap.size, 1, none⟩ = some (.bool s) ∧ u.cell? ⟨w.heap.size + 1, 0, none⟩ = some (.slice B m d) ∧ u.cell? ⟨w.heap.size + 1, 1, none⟩ = some (.bool t)) (first | exact ⟨p0, p1, p2, p3⟩ | exact ⟨(cell_step hb1 p0), (cell_step hb1 p1), (cell_step hb1 p2), (cell_step hb1 p3)⟩ | exact ⟨(cell_step hb2 (cell_step hb1 p0)), (cell_step hb2 (cell_step hb1 p1)), (cell_step hb2 (cell_step hb1 p2)), (cell_step hb2 (cell_step hb1 p3))⟩ | exact ⟨(cell_step hb3 (cell_step hb2 (cell_step hb1 p0))), (cell_step hb3 (cell_step hb2 (cell_step hb1 p1))), (cell_step hb3 (cell_step hb2 (cell_step hb1 p2))), (cell_step hb3 (cell_step hb2 (cell_step hb1 p3)))⟩ | exact ⟨(cell_step hb4 (cell_step hb3 (cell_step hb2 (cell_step hb1 p0)))), (cell_step hb4 (cell_step hb3 (cell_step hb2 (cell_step hb1 p1)))), (cell_step hb4 (cell_step hb3 (cell_step hb2 (cell_step hb1 p2)))), (cell_step hb4 (cell_step hb3 (cell_step hb2 (cell_step hb1 p3))))⟩ | exact ⟨(cell_set1 (by omega)).trans ((cell_set1 (by omega)).trans (cell_step hb4 (cell_step hb3 (cell_step hb2 (cell_step hb1 p0))))), (cell_set1 (by omega)).trans ((cell_set1 (by omega)).trans (cell_step hb4 (cell_step hb3 (cell_step hb2 (cell_step hb1 p1))))), (cell_set1 (by omega)).trans ((cell_set1 (by omega)).trans (cell_step hb4 (cell_step hb3 (cell_step hb2 (cell_step hb1 p2))))), (cell_set1 (by omega)).trans ((cell_set1 (by omega)).trans (cell_step hb4 (cell_step hb3 (cell_step hb2 (cell_step hb1 p3)))))⟩) (first
    | (go_at_call 35; refine (HR.out _ ?_).mono ?_; exact (below_drew BB.out); rintro e w1 ⟨rfl, hb1⟩)
    | (go_at_call 35; refine (HR2.out _ ?_).mono ?_; exact below_step (below_drew BB.out) hb1; rintro e w2 ⟨rfl, hb2⟩)
    | (go_at_call 162; refine (HN.out _ ?_).mono ?_; exact below_step (below_step (below_drew BB.out) hb1) hb2; rintro e w3 ⟨rfl, hb3⟩)
    | (go_at_call 161; refine (HS.out _).mono ?_; rintro e w4 ⟨A2, c2, rfl, n2, hb4⟩; have U3 := ((O2.out.drew.step hb1).step hb2).step hb3; have L1 := U3.lt; have U2 := U3.step hb4; have qU20 := U2.cell 0; have qU21 := U2.cell 1; have fU20 := U2.free 0; have fU21 := U2.free 1))
  all_goals go_wp2
  all_goals exact ret_vec Tryz.results73 rfl rfl (U2.put2 _ _) (RetV.mk' (v := one1 y) ((n2.far2 L1 _ _).mono (below_step (below_step (below_step (below_drew BB.out) hb1) hb2) hb3).size) (below_set2 (below_step (below_step (below_step (below_step (below_drew BB.out) hb1) hb2) hb3) hb4) (by omega) _ _))
set_option maxHeartbeats 4000000 in
theorem LOr_any (A B : Option Addr) (n m c d : Nat) (s t : Bool) (l k : List Int) (w : World) (h : Rb w A n l) (h' : Rb w B m k) (hcap : n ≤ c) (hcap2 : m ≤ d) (TT : Tabs w) :
    Calls Tryz.prog 74 #[.agg #[.slice A n c, .bool s], .agg #[.slice B m d, .bool t]] w (RetV w (one1 (orI (truth ⟨l, s⟩) (truth ⟨k, t⟩)))) := by
  have O0 := (((Own.at1 w 24 #[.slice A n c, .bool s] (g := w.heap.size) (by simp)).alloc (.cells #[.slice B m d, .bool t] 24)).alloc (.cells #[.slice none 0 0, .bool false] 24))
  have O1 := ((Own.at1 (w.alloc (.cells #[.slice A n c, .bool s] 24)) 24 #[.slice B m d, .bool t] (g := w.heap.size + 1) (by simp)).alloc (.cells #[.slice none 0 0, .bool false] 24))
  have O2 := (Own.at1 ((w.alloc (.cells #[.slice A n c, .bool s] 24)).alloc (.cells #[.slice B m d, .bool t] 24)) 24 #[.slice none 0 0, .bool false] (g := w.heap.size + 1 + 1) (by simp))
  have BB := (below_new (below_new (below_new (Below.refl w.heap.size w) (.cells #[.slice A n c, .bool s] 24)) (.cells #[.slice B m d, .bool t] 24)) (.cells #[.slice none 0 0, .bool false] 24))
  have HR := Lib.hid (fun (u : World) (hb : Below w.heap.size w u) => truth_any A n c s l u (h.step hb) hcap (TT.step hb))
  have HR2 := Lib.hid (fun (u : World) (hb : Below w.heap.size w u) => truth_any B m d t k u (h'.step hb) hcap2 (TT.step hb))
  have hz := truth_bd ⟨l, s⟩
  have hz2 := truth_bd ⟨k, t⟩
  generalize truth ⟨l, s⟩ = z at *
  generalize truth ⟨k, t⟩ = z2 at *
  have HN := Lib.hid (fun (u : World) (hb : Below w.heap.size w u) => b_or u hz.1 hz2.1 (TT.step hb))
  have HS := Lib.hid (fun (u : World) => single_any (orI z z2) u (orI_bd z z2).1)
  generalize orI z z2 = y at *
  have p0 := O0.cell 0
  have p1 := O0.cell 1
  have p2 := O1.cell 0
  have p3 := O1.cell 1
  simp only [List.getElem?_toArray, List.getElem?_cons_zero, List.getElem?_cons_succ] at p0 p1 p2 p3
  replace BB := Lib.hid BB
  replace O2 := Lib.hid O2
  clear h h' hz hz2 O0 O1 TT
  go_enter Tryz.func74, Tryz.ntmps74
  go_wp2
  go_region_held3 (fun u => u.cell? ⟨w.heap.size, 0, none⟩ = some (.slice A n c) ∧ u.cell? ⟨w.heap.size, 1, none⟩ = some (.bool s) ∧ u.cell? ⟨w.heap.size + 1, 0, none⟩ = some (.slice B m d) ∧ u.cell? ⟨w.heap.size + 1, 1, none⟩ = some (.bool t)) (first | exact ⟨p0, p1, p2, p3⟩ | exact ⟨(cell_step hb1 p0), (cell_step hb1 p1), (cell_step hb1 p2), (cell_step hb1 p3)⟩ | exact ⟨(cell_step hb2 (cell_step hb1 p0)), (cell_step hb2 (cell_step hb1 p1)), (cell_step hb2 (cell_step hb1 p2)), (cell_step hb2 (cell_step hb1 p3))⟩ | exact ⟨(cell_step hb3 (cell_step hb2 (cell_step hb1 p0))), (cell_step hb3 (cell_step hb2 (cell_step hb1 p1))), (cell_step hb3 (cell_step hb2 (cell_step hb1 p2))), (cell_step hb3 (cell_step hb2 (cell_step hb1 p3)))⟩ | exact ⟨(cell_step hb4 (cell_step hb3 (cell_step hb2 (cell_step hb1 p0)))), (cell_step hb4 (cell_step hb3 (cell_step hb2 (cell_step hb1 p1)))), (cell_step hb4 (cell_step hb3 (cell_step hb2 (cell_step hb1 p2)))), (cell_step hb4 (cell_step hb3 (cell_step hb2 (cell_step hb1 p3))))⟩ | exact ⟨(cell_set1 (by omega)).trans ((cell_set1 (by omega)).trans (cell_step hb4 (cell_step hb3 (cell_step hb2 (cell_step hb1 p0))))), (cell_set1 (by omega)).trans ((cell_set1 (by omega)).trans (cell_step hb4 (cell_step hb3 (cell_step hb2 (cell_step hb1 p1))))), (cell_set1 (by omega)).trans ((cell_set1 (by omega)).trans (cell_step hb4 (cell_step hb3 (cell_step hb2 (cell_step hb1 p2))))), (cell_set1 (by omega)).trans ((cell_set1 (by omega)).trans (cell_step hb4 (cell_step hb3 (cell_step hb2 (cell_step hb1 p3)))))⟩) (first
    | (go_at_call 35; refine (HR.out _ ?_).mono ?_; exact (below_drew BB.out); rintro e w1 ⟨rfl, hb1⟩)
    | (go_at_call 35; refine (HR2.out _ ?_).mono ?_; exact below_step (below_drew BB.out) hb1; rintro e w2 ⟨rfl, hb2⟩)
    | (go_at_call 127; refine (HN.out _ ?_).mono ?_; exact below_step (below_step (below_drew BB.out) hb1) hb2; rintro e w3 ⟨rfl, hb3⟩)
    | (go_at_call 161; refine (HS.out _).mono ?_; rintro e w4 ⟨A2, c2, rfl, n2, hb4⟩; have U3 := ((O2.out.drew.step hb1).step hb2).step hb3; have L1 := U3.lt; have U2 := U3.step hb4; have qU20 := U2.cell 0; have qU21 := U2.cell 1; have fU20 := U2.free 0; have fU21 := U2.free 1))
  all_goals go_wp2
  all_goals exact ret_vec Tryz.results74 rfl rfl (U2.put2 _ _) (RetV.mk' (v := one1 y) ((n2.far2 L1 _ _).mono (below_step (below_step (below_step (below_drew BB.out) hb1) hb2) hb3).size) (below_set2 (below_step (below_step (below_step (below_step (below_drew BB.out) hb1) hb2) hb3) hb4) (by omega) _ _))
end Go.Proofs.YtognpmggfplekaaGreatDoor

namespace Go.Proofs.YtognpmggfplekaaGreatDoor
open Go Go.RowKit

theorem kn_ok {l : List Int} {s : Bool} (h : okB l = true) : kn ⟨l, s⟩ = knL l := by unfold kn; rw [nrm_of h]
def Hd (g : Nat) (p : Int → Bool) : Prop := ∀ (W : World) (z : Int), Calls Tryz.prog g (#[.int .i64 z] ++ #[]) W fun e w' => e = .returned (.bool (p z)) ∧ Below W.heap.size W w'
def cmpB (S : Bool) (N x y : Nat) : Int := if S then B.cmpI (B.sval N x) (B.sval N y) else B.cmpI x y
def cmpV (p : Int → Bool) (a b : V) : Int := if knL (balL a b).l && knL (balR a b).l then fromI (p (cmpB (balS a b) (balN a b) (num (balL a b).l) (num (balR a b).l))) else 2
theorem ent_cmp : Ent 208 := enters_of Tryz.func208 (by kernel_rfl) rfl
theorem ent_scmp : Ent 209 := enters_of Tryz.func209 (by kernel_rfl) rfl
set_option maxHeartbeats 8000000 in
theorem compare_v (g : Nat) (p : Int → Bool) (A Y : Option Addr) (n m c d : Nat) (s t : Bool) (l k : List Int) (w : World) (h : Rb w A n l) (h' : Rb w Y m k) (eg : Ent g) (hd : Hd g p) :
    Calls Tryz.prog 165 #[.agg #[.slice A n c, .bool s], .agg #[.slice Y m d, .bool t], .func (.func g) #[] #[]] w (RetV w (one1 (cmpV p ⟨l, s⟩ ⟨k, t⟩))) := by
  unfold Ent at eg
  have ec := ent_cmp
  have es := ent_scmp
  unfold Ent at ec es
  have O0 := (((Own.at1 w 24 #[.slice A n c, .bool s] (g := w.heap.size) (by simp)).alloc (.cells #[.slice Y m d, .bool t] 24)).alloc (.cells #[.slice none 0 0, .bool false] 24))
  have O1 := ((Own.at1 (w.alloc (.cells #[.slice A n c, .bool s] 24)) 24 #[.slice Y m d, .bool t] (g := w.heap.size + 1) (by simp)).alloc (.cells #[.slice none 0 0, .bool false] 24))
  have O2 := (Own.at1 ((w.alloc (.cells #[.slice A n c, .bool s] 24)).alloc (.cells #[.slice Y m d, .bool t] 24)) 24 #[.slice none 0 0, .bool false] (g := w.heap.size + 1 + 1) (by simp))
  have BB := (below_new (below_new (below_new (Below.refl w.heap.size w) (.cells #[.slice A n c, .bool s] 24)) (.cells #[.slice Y m d, .bool t] 24)) (.cells #[.slice none 0 0, .bool false] 24))
  have HB := Lib.hid (balance_q A Y n m c d s t l k _ (h.step BB) (h'.step BB))
  have hbd := balN_bd ⟨l, s⟩ ⟨k, t⟩
  have okx := balL_ok ⟨l, s⟩ ⟨k, t⟩
  have oky := balR_ok ⟨l, s⟩ ⟨k, t⟩
  unfold cmpV
  generalize (balL ⟨l, s⟩ ⟨k, t⟩).l = lx at *
  generalize (balR ⟨l, s⟩ ⟨k, t⟩).l = ly at *
  generalize balN ⟨l, s⟩ ⟨k, t⟩ = N at *
  generalize balS ⟨l, s⟩ ⟨k, t⟩ = sy at *
  clear h h'
  have HD := Lib.hid hd
  clear hd
  have kx := kn_ok (s := sy) okx
  have ky := kn_ok (s := sy) oky
  have HX := Lib.hid (fun (u : World) (A1 : Option Addr) (c1 : Nat) (r : Rb u A1 N lx) => kx ▸ known_v A1 N c1 sy lx u r)
  have HY := Lib.hid (fun (u : World) (A1 : Option Addr) (c1 : Nat) (r : Rb u A1 N ly) => ky ▸ known_v A1 N c1 sy ly u r)
  clear kx ky okx oky
  cases hx : knL lx
  · rw [hx] at HX
    simp only [Bool.false_and, Bool.false_eq_true, if_false]
    clear hx HY
    go_enter Tryz.func165, Tryz.ntmps165
    go_wp2_with (first
      | (go_at_call 190; refine HB.out.mono ?_; rintro e w1 ⟨A1, c1, A2, c2, rfl, n1, n2, hb1⟩; replace BB := below_step BB hb1; replace O0 := O0.step hb1; replace O1 := O1.step hb1; have qO00 := O0.cell 0; have qO01 := O0.cell 1; have fO00 := O0.free 0; have fO01 := O0.free 1; have qO10 := O1.cell 0; have qO11 := O1.cell 1; have fO10 := O1.free 0; have fO11 := O1.free 1; have C1 := below_set2 (below_set2 BB (Nat.le_refl _) (.slice A1 N c1) (.bool sy)) (Nat.le_succ _) (.slice A2 N c2) (.bool sy); have U0 := (O0.put2 (.slice A1 N c1) (.bool sy)).far2 (Nat.ne_of_lt (Nat.lt_succ_self _)) (.slice A2 N c2) (.bool sy); have U1 := (O1.far2 (Nat.succ_ne_self _) (.slice A1 N c1) (.bool sy)).put2 (.slice A2 N c2) (.bool sy); have r1 := (n1.rd.set2 O0 (.slice A1 N c1) (.bool sy)).set2 (O1.far2 (Nat.succ_ne_self _) (.slice A1 N c1) (.bool sy)) (.slice A2 N c2) (.bool sy); have r2 := (n2.rd.set2 O0 (.slice A1 N c1) (.bool sy)).set2 (O1.far2 (Nat.succ_ne_self _) (.slice A1 N c1) (.bool sy)) (.slice A2 N c2) (.bool sy); have qU00 := U0.cell 0; have qU01 := U0.cell 1; have qU10 := U1.cell 0; have qU11 := U1.cell 1; replace O2 := O2.step hb1; have U2 := (O2.far2 (g := w.heap.size) (by omega) (.slice A1 N c1) (.bool sy)).far2 (g := w.heap.size + 1) (by omega) (.slice A2 N c2) (.bool sy))
      | (go_at_call 31; refine (HX.out _ A1 c1 r1).mono ?_; rintro e w2 ⟨rfl, hb2⟩; replace C1 := below_step C1 hb2; replace U2 := U2.step hb2)
      | (go_at_call 161; refine (single_any 2 _ (by decide)).mono ?_; rintro e w3 ⟨A9, c9, rfl, n9, hb9⟩; have L1 := U2.lt; have W2 := U2.step hb9; have qW20 := W2.cell 0; have qW21 := W2.cell 1; have fW20 := W2.free 0; have fW21 := W2.free 1))
    exact ret_vec Tryz.results165 rfl rfl (W2.put2 _ _) (RetV.mk' (v := one1 2) ((n9.far2 L1 _ _).mono C1.size) (below_set2 (below_step C1 hb9) (by omega) _ _))
  · rw [hx] at HX
    cases hy : knL ly
    · rw [hy] at HY
      simp only [Bool.and_false, Bool.false_eq_true, if_false]
      clear hx hy
      go_enter Tryz.func165, Tryz.ntmps165
      go_wp2_with (first
        | (go_at_call 190; refine HB.out.mono ?_; rintro e w1 ⟨A1, c1, A2, c2, rfl, n1, n2, hb1⟩; replace BB := below_step BB hb1; replace O0 := O0.step hb1; replace O1 := O1.step hb1; have qO00 := O0.cell 0; have qO01 := O0.cell 1; have fO00 := O0.free 0; have fO01 := O0.free 1; have qO10 := O1.cell 0; have qO11 := O1.cell 1; have fO10 := O1.free 0; have fO11 := O1.free 1; have C1 := below_set2 (below_set2 BB (Nat.le_refl _) (.slice A1 N c1) (.bool sy)) (Nat.le_succ _) (.slice A2 N c2) (.bool sy); have U0 := (O0.put2 (.slice A1 N c1) (.bool sy)).far2 (Nat.ne_of_lt (Nat.lt_succ_self _)) (.slice A2 N c2) (.bool sy); have U1 := (O1.far2 (Nat.succ_ne_self _) (.slice A1 N c1) (.bool sy)).put2 (.slice A2 N c2) (.bool sy); have r1 := (n1.rd.set2 O0 (.slice A1 N c1) (.bool sy)).set2 (O1.far2 (Nat.succ_ne_self _) (.slice A1 N c1) (.bool sy)) (.slice A2 N c2) (.bool sy); have r2 := (n2.rd.set2 O0 (.slice A1 N c1) (.bool sy)).set2 (O1.far2 (Nat.succ_ne_self _) (.slice A1 N c1) (.bool sy)) (.slice A2 N c2) (.bool sy); have qU00 := U0.cell 0; have qU01 := U0.cell 1; have qU10 := U1.cell 0; have qU11 := U1.cell 1; replace O2 := O2.step hb1; have U2 := (O2.far2 (g := w.heap.size) (by omega) (.slice A1 N c1) (.bool sy)).far2 (g := w.heap.size + 1) (by omega) (.slice A2 N c2) (.bool sy))
        | (go_at_call 31; refine (HX.out _ A1 c1 r1).mono ?_; rintro e w2 ⟨rfl, hb2⟩; clear HX; replace C1 := below_step C1 hb2; replace U2 := U2.step hb2; replace U1 := U1.step hb2; replace r2 := r2.step hb2; have v0 := U1.cell 0; have v1 := U1.cell 1)
        | (go_at_call 31; refine (HY.out _ A2 c2 r2).mono ?_; rintro e w22 ⟨rfl, hb22⟩; replace C1 := below_step C1 hb22; replace U2 := U2.step hb22)
        | (go_at_call 161; refine (single_any 2 _ (by decide)).mono ?_; rintro e w3 ⟨A9, c9, rfl, n9, hb9⟩; have L1 := U2.lt; have W2 := U2.step hb9; have qW20 := W2.cell 0; have qW21 := W2.cell 1; have fW20 := W2.free 0; have fW21 := W2.free 1))
      exact ret_vec Tryz.results165 rfl rfl (W2.put2 _ _) (RetV.mk' (v := one1 2) ((n9.far2 L1 _ _).mono C1.size) (below_set2 (below_step C1 hb9) (by omega) _ _))
    · rw [hy] at HY
      simp only [Bool.and_true, if_true]
      clear hx hy
      cases sy
      · unfold cmpB
        simp only [Bool.false_eq_true, if_false]
        go_enter Tryz.func165, Tryz.ntmps165
        go_wp2_with (first
          | (go_at_call 190; refine HB.out.mono ?_; rintro e w1 ⟨A1, c1, A2, c2, rfl, n1, n2, hb1⟩; replace BB := below_step BB hb1; replace O0 := O0.step hb1; replace O1 := O1.step hb1; have qO00 := O0.cell 0; have qO01 := O0.cell 1; have fO00 := O0.free 0; have fO01 := O0.free 1; have qO10 := O1.cell 0; have qO11 := O1.cell 1; have fO10 := O1.free 0; have fO11 := O1.free 1; have C1 := below_set2 (below_set2 BB (Nat.le_refl _) (.slice A1 N c1) (.bool false)) (Nat.le_succ _) (.slice A2 N c2) (.bool false); have U0 := (O0.put2 (.slice A1 N c1) (.bool false)).far2 (Nat.ne_of_lt (Nat.lt_succ_self _)) (.slice A2 N c2) (.bool false); have U1 := (O1.far2 (Nat.succ_ne_self _) (.slice A1 N c1) (.bool false)).put2 (.slice A2 N c2) (.bool false); have r1 := (n1.rd.set2 O0 (.slice A1 N c1) (.bool false)).set2 (O1.far2 (Nat.succ_ne_self _) (.slice A1 N c1) (.bool false)) (.slice A2 N c2) (.bool false); have r2 := (n2.rd.set2 O0 (.slice A1 N c1) (.bool false)).set2 (O1.far2 (Nat.succ_ne_self _) (.slice A1 N c1) (.bool false)) (.slice A2 N c2) (.bool false); have qU00 := U0.cell 0; have qU01 := U0.cell 1; have qU10 := U1.cell 0; have qU11 := U1.cell 1; replace O2 := O2.step hb1; have U2 := (O2.far2 (g := w.heap.size) (by omega) (.slice A1 N c1) (.bool false)).far2 (g := w.heap.size + 1) (by omega) (.slice A2 N c2) (.bool false))
          | (go_at_call 31; refine (HX.out _ A1 c1 r1).mono ?_; rintro e w2 ⟨rfl, hb2⟩; clear HX; have p0 := (U0.step hb2).cell 0; have v0 := (U1.step hb2).cell 0; have v1 := (U1.step hb2).cell 1; have y2 := r2.step hb2)
          | (go_at_call 31; refine (HY.out _ A2 c2 y2).mono ?_; rintro e w3 ⟨rfl, hb3⟩; have v2 := ((U0.step hb2).step hb3).cell 1))
        have E0 := (U0.step hb2).step hb3
        have E1 := (U1.step hb2).step hb3
        have E2 := (U2.step hb2).step hb3
        have z1 := (r1.step hb2).step hb3
        have z2 := (r2.step hb2).step hb3
        have C3 := below_step (below_step C1 hb2) hb3
        haveI : Over w (w.heap.size + 1 + 1) := ⟨by omega⟩
        haveI : Apart (w.heap.size + 1 + 1) w.heap.size := ⟨by omega⟩
        haveI : Apart (w.heap.size + 1 + 1) (w.heap.size + 1) := ⟨by omega⟩
        refine region_w (by kernel_rfl) (fun u => blw w u ∧ (owns w.heap.size #[.slice A1 N c1, .bool false] u ∧ (owns (w.heap.size + 1) #[.slice A2 N c2, .bool false] u ∧ (rds A1 N lx u ∧ rds A2 N ly u)))) [tru, tru, tru, tru, tru, tru, tru, tru, tru, tru, owns (w.heap.size + 1 + 1) #[.slice none 0 0, .bool false]] [isV (.func (.func g) #[] #[]), isV (.func (.func 208) #[] #[]), isV (.agg #[.slice A1 N c1, .bool false]), isNum N (num lx), isV (.agg #[.slice A2 N c2, .bool false]), isNum N (num ly), isV (.int .i64 (B.cmpI (num lx : Nat) (num ly : Nat))), isV (.bool (p (B.cmpI (num lx : Nat) (num ly : Nat)))), isV (.int .u8 (fromI (p (B.cmpI (num lx : Nat) (num ly : Nat))))), isN w.heap.size (one1 (fromI (p (B.cmpI (num lx : Nat) (num ly : Nat))))), didN w.heap.size (w.heap.size + 1 + 1) (one1 (fromI (p (B.cmpI (num lx : Nat) (num ly : Nat)))))] [some 25, some 26, some 27, some 28, some 29, some 30, some 31, some 32, some 33, some 34, none] [[], [], [], [2], [], [4, 3], [1, 3, 5, 5], [0, 6, 6], [7, 7], [8, 8], [9, 9, 0, 1, 2, 3, 4, 5, 6, 7, 8, 9]] (by kernel_rfl) (by kernel_rfl) rfl (by kernel_rfl) (by kernel_rfl) (by kernel_rfl) ⟨below_drew C3, E0.drew, E1.drew, z1.drew, z2.drew⟩ (by
          intro U hU
          simp only [List.mem_cons, List.not_mem_nil, or_false] at hU
          rcases hU with rfl | rfl | rfl | rfl | rfl | rfl | rfl | rfl | rfl | rfl | rfl
          all_goals first | trivial | exact E2.drew) ?_ ?_
        · refine ⟨?_, ?_, ?_, ?_, ?_, ?_, ?_, ?_, ?_, ?_, ?_, trivial⟩
          · intro a w' hS hO hF' hP K hK; have ha := hO 2 (by rfl); refine if_ok (by rfl) ?_; unfold Oper.wp execOp; simp only [Sem.run_pure, ev ha]; exact hK _ w' nofun (keep_same hS) rfl
          · intro a w' hS hO hF' hP K hK; have ha := hO 7 (by rfl); refine if_ok (by rfl) ?_; unfold Oper.wp execOp; simp only [Sem.run_pure, ev ha]; exact hK _ w' nofun (keep_same hS) rfl
          · intro a w' hS hO hF' hP K hK; have ha := hO 3 (by rfl); refine if_ok (by rfl) ?_; refine wp_load_row 24 (.tmp 3) rfl w.heap.size (ev ha) _ _ (0, 0) _ hS.2.1 Tryz.underlying24 rfl (by kernel_rfl) ?_; exact hK _ w' nofun (keep_same hS) rfl
          · intro a w' hS hO hF' hP K hK; obtain ⟨_, f0, rfl⟩ := (hF' 2 rfl).1 27 _ rfl rfl; refine if_ok (by rfl) ?_; refine wp_calls rfl (enters_of Tryz.func112 (by kernel_rfl) rfl) (args := #[.agg #[.slice A1 N c1, .bool false]]) (by simp [Act.eval, f0]) ?_; refine (number_any A1 N c1 false lx _ hS.2.2.2.1 (by omega)).mono ?_; rintro e w2 ⟨X1, x1, rfl, nn1, hb⟩; exact ⟨_, rfl, hK _ w2 nofun (keep_below hb hS) ⟨X1, x1, rfl, B.Nw.mono nn1 (Nat.zero_le _)⟩⟩
          · intro a w' hS hO hF' hP K hK; have ha := hO 4 (by rfl); refine if_ok (by rfl) ?_; refine wp_load_row 24 (.tmp 4) rfl (w.heap.size + 1) (ev ha) _ _ (0, 0) _ hS.2.2.1 Tryz.underlying24 rfl (by kernel_rfl) ?_; exact hK _ w' nofun (keep_same hS) rfl
          · intro a w' hS hO hF' hP K hK; obtain ⟨_, f0, rfl⟩ := (hF' 4 rfl).1 29 _ rfl rfl; refine if_ok (by rfl) ?_; refine wp_calls rfl (enters_of Tryz.func112 (by kernel_rfl) rfl) (args := #[.agg #[.slice A2 N c2, .bool false]]) (by simp [Act.eval, f0]) ?_; refine (number_any A2 N c2 false ly _ hS.2.2.2.2 (by omega)).mono ?_; rintro e w2 ⟨X1, x1, rfl, nn1, hb⟩; exact ⟨_, rfl, hK _ w2 nofun (keep_below hb hS) ⟨X1, x1, rfl, B.Nw.mono nn1 (Nat.zero_le _)⟩⟩
          · intro a w' hS hO hF' hP K hK; obtain ⟨_, f0, rfl⟩ := (hF' 1 rfl).1 26 _ rfl rfl; obtain ⟨_, f1, X1, x1, rfl, nn1⟩ := (hF' 3 rfl).1 28 _ rfl rfl; obtain ⟨_, f2, X2, x2, rfl, nn2⟩ := (hF' 5 rfl).1 30 _ rfl rfl; refine if_ok (by rfl) ?_; refine wp_callv (lb := #[]) rfl (ev f0) ent_cmp (args := #[.slice X1 N x1, .slice X2 N x2]) (by simp [Act.eval, f1, f2]) ?_; refine (B.cmp_any X1 X2 N x1 (num lx) N x2 (num ly) _ nn1.rd nn2.rd (by omega) (by omega)).mono ?_; rintro e w2 ⟨rfl, rfl⟩; exact ⟨_, rfl, hK _ _ nofun (keep_same hS) rfl⟩
          · intro a w' hS hO hF' hP K hK; obtain ⟨_, f0, rfl⟩ := (hF' 0 rfl).1 25 _ rfl rfl; obtain ⟨_, f1, rfl⟩ := (hF' 6 rfl).1 31 _ rfl rfl; refine if_ok (by rfl) ?_; refine wp_callv (lb := #[]) rfl (ev f0) eg (args := #[.int .i64 (B.cmpI (num lx : Nat) (num ly : Nat))]) (by simp [Act.eval, f1]) ?_; refine (HD.out _ _).mono ?_; rintro e w2 ⟨rfl, hb⟩; exact ⟨_, rfl, hK _ w2 nofun (keep_below hb hS) rfl⟩
          · intro a w' hS hO hF' hP K hK; obtain ⟨_, f0, rfl⟩ := (hF' 7 rfl).1 32 _ rfl rfl; refine if_ok (by rfl) ?_; refine wp_calls rfl (enters_of Tryz.func92 (by kernel_rfl) rfl) (args := #[.bool (p (B.cmpI (num lx : Nat) (num ly : Nat)))]) (by simp [Act.eval, f0]) ?_; refine (quietB (from_any _ _)).mono ?_; rintro e w2 ⟨rfl, hb⟩; exact ⟨_, rfl, hK _ w2 nofun (keep_below hb hS) rfl⟩
          · intro a w' hS hO hF' hP K hK; obtain ⟨_, f0, rfl⟩ := (hF' 8 rfl).1 33 _ rfl rfl; refine if_ok (by rfl) ?_; refine wp_calls rfl (enters_of Tryz.func161 (by kernel_rfl) rfl) (args := #[.int .u8 (fromI (p (B.cmpI (num lx : Nat) (num ly : Nat))))]) (by simp [Act.eval, f0]) ?_; refine (single_any _ _ (fromI_bd _).1).mono ?_; rintro e w2 ⟨A9, c9, rfl, n9, hb⟩; exact ⟨_, rfl, hK _ w2 nofun (keep_below hb hS) ⟨A9, c9, rfl, n9.mono hS.1.size⟩⟩
          · intro a w' hS hO hF' hP K hK; have O := hP 10 _ rfl rfl; have ha := hO 6 (by rfl); obtain ⟨_, f1, A9, c9, rfl, n9⟩ := (hF' 9 rfl).1 34 _ rfl rfl; refine if_ok (by rfl) ?_; refine wp_store_row _ _ _ rfl (w.heap.size + 1 + 1) _ (ev ha) (ev f1) _ _ O vec_size rfl (by simp [Value.oneCell']) ?_; exact hK _ _ (fun _ => rfl) (keep_store O inferInstance ⟨inferInstance, inferInstance, inferInstance, inferInstance, inferInstance, inferInstance, inferInstance, inferInstance, inferInstance, inferInstance, trivial⟩ ⟨inferInstance, inferInstance, inferInstance, inferInstance, inferInstance, inferInstance, inferInstance, inferInstance, inferInstance, inferInstance, trivial⟩ hS) ⟨A9, c9, Own.row O, n9.row O⟩
        · intro vs u hl hS hV
          match vs, hl, hV with
          | [v0, v1, v2, v3, v4, v5, v6, v7, v8, v9, v10], _, hV =>
            simp only [puts, Act.put, List.setIfInBounds_toArray, List.set_cons_zero, List.set_cons_succ]
            obtain ⟨A9, c9, W2, n9⟩ := hV 10 _ rfl
            go_wp2
            exact ret_vec Tryz.results165 rfl rfl W2 (RetV.mk' (v := one1 _) n9 hS.1)
      · unfold cmpB
        simp only [if_true]
        go_enter Tryz.func165, Tryz.ntmps165
        go_wp2_with (first
          | (go_at_call 190; refine HB.out.mono ?_; rintro e w1 ⟨A1, c1, A2, c2, rfl, n1, n2, hb1⟩; replace BB := below_step BB hb1; replace O0 := O0.step hb1; replace O1 := O1.step hb1; have qO00 := O0.cell 0; have qO01 := O0.cell 1; have fO00 := O0.free 0; have fO01 := O0.free 1; have qO10 := O1.cell 0; have qO11 := O1.cell 1; have fO10 := O1.free 0; have fO11 := O1.free 1; have C1 := below_set2 (below_set2 BB (Nat.le_refl _) (.slice A1 N c1) (.bool true)) (Nat.le_succ _) (.slice A2 N c2) (.bool true); have U0 := (O0.put2 (.slice A1 N c1) (.bool true)).far2 (Nat.ne_of_lt (Nat.lt_succ_self _)) (.slice A2 N c2) (.bool true); have U1 := (O1.far2 (Nat.succ_ne_self _) (.slice A1 N c1) (.bool true)).put2 (.slice A2 N c2) (.bool true); have r1 := (n1.rd.set2 O0 (.slice A1 N c1) (.bool true)).set2 (O1.far2 (Nat.succ_ne_self _) (.slice A1 N c1) (.bool true)) (.slice A2 N c2) (.bool true); have r2 := (n2.rd.set2 O0 (.slice A1 N c1) (.bool true)).set2 (O1.far2 (Nat.succ_ne_self _) (.slice A1 N c1) (.bool true)) (.slice A2 N c2) (.bool true); have qU00 := U0.cell 0; have qU01 := U0.cell 1; have qU10 := U1.cell 0; have qU11 := U1.cell 1; replace O2 := O2.step hb1; have U2 := (O2.far2 (g := w.heap.size) (by omega) (.slice A1 N c1) (.bool true)).far2 (g := w.heap.size + 1) (by omega) (.slice A2 N c2) (.bool true))
          | (go_at_call 31; refine (HX.out _ A1 c1 r1).mono ?_; rintro e w2 ⟨rfl, hb2⟩; clear HX; have p0 := (U0.step hb2).cell 0; have v0 := (U1.step hb2).cell 0; have v1 := (U1.step hb2).cell 1; have y2 := r2.step hb2)
          | (go_at_call 31; refine (HY.out _ A2 c2 y2).mono ?_; rintro e w3 ⟨rfl, hb3⟩; have v2 := ((U0.step hb2).step hb3).cell 1))
        have E0 := (U0.step hb2).step hb3
        have E1 := (U1.step hb2).step hb3
        have E2 := (U2.step hb2).step hb3
        have z1 := (r1.step hb2).step hb3
        have z2 := (r2.step hb2).step hb3
        have C3 := below_step (below_step C1 hb2) hb3
        haveI : Over w (w.heap.size + 1 + 1) := ⟨by omega⟩
        haveI : Apart (w.heap.size + 1 + 1) w.heap.size := ⟨by omega⟩
        haveI : Apart (w.heap.size + 1 + 1) (w.heap.size + 1) := ⟨by omega⟩
        refine region_w (by kernel_rfl) (fun u => blw w u ∧ (owns w.heap.size #[.slice A1 N c1, .bool true] u ∧ (owns (w.heap.size + 1) #[.slice A2 N c2, .bool true] u ∧ (rds A1 N lx u ∧ rds A2 N ly u)))) [tru, tru, tru, tru, tru, tru, tru, tru, tru, tru, owns (w.heap.size + 1 + 1) #[.slice none 0 0, .bool false]] [isV (.func (.func g) #[] #[]), isV (.func (.func 209) #[] #[]), isV (.agg #[.slice A1 N c1, .bool true]), isNum N (num lx), isV (.agg #[.slice A2 N c2, .bool true]), isNum N (num ly), isV (.int .i64 (B.cmpI (B.sval N (num lx)) (B.sval N (num ly)))), isV (.bool (p (B.cmpI (B.sval N (num lx)) (B.sval N (num ly))))), isV (.int .u8 (fromI (p (B.cmpI (B.sval N (num lx)) (B.sval N (num ly)))))), isN w.heap.size (one1 (fromI (p (B.cmpI (B.sval N (num lx)) (B.sval N (num ly)))))), didN w.heap.size (w.heap.size + 1 + 1) (one1 (fromI (p (B.cmpI (B.sval N (num lx)) (B.sval N (num ly))))))] [some 25, some 26, some 27, some 28, some 29, some 30, some 31, some 32, some 33, some 34, none] [[], [], [], [2], [], [4, 3], [1, 3, 5, 5], [0, 6, 6], [7, 7], [8, 8], [9, 9, 0, 1, 2, 3, 4, 5, 6, 7, 8, 9]] (by kernel_rfl) (by kernel_rfl) rfl (by kernel_rfl) (by kernel_rfl) (by kernel_rfl) ⟨below_drew C3, E0.drew, E1.drew, z1.drew, z2.drew⟩ (by
          intro U hU
          simp only [List.mem_cons, List.not_mem_nil, or_false] at hU
          rcases hU with rfl | rfl | rfl | rfl | rfl | rfl | rfl | rfl | rfl | rfl | rfl
          all_goals first | trivial | exact E2.drew) ?_ ?_
        · refine ⟨?_, ?_, ?_, ?_, ?_, ?_, ?_, ?_, ?_, ?_, ?_, trivial⟩
          · intro a w' hS hO hF' hP K hK; have ha := hO 2 (by rfl); refine if_ok (by rfl) ?_; unfold Oper.wp execOp; simp only [Sem.run_pure, ev ha]; exact hK _ w' nofun (keep_same hS) rfl
          · intro a w' hS hO hF' hP K hK; have ha := hO 7 (by rfl); refine if_ok (by rfl) ?_; unfold Oper.wp execOp; simp only [Sem.run_pure, ev ha]; exact hK _ w' nofun (keep_same hS) rfl
          · intro a w' hS hO hF' hP K hK; have ha := hO 3 (by rfl); refine if_ok (by rfl) ?_; refine wp_load_row 24 (.tmp 3) rfl w.heap.size (ev ha) _ _ (0, 0) _ hS.2.1 Tryz.underlying24 rfl (by kernel_rfl) ?_; exact hK _ w' nofun (keep_same hS) rfl
          · intro a w' hS hO hF' hP K hK; obtain ⟨_, f0, rfl⟩ := (hF' 2 rfl).1 27 _ rfl rfl; refine if_ok (by rfl) ?_; refine wp_calls rfl (enters_of Tryz.func112 (by kernel_rfl) rfl) (args := #[.agg #[.slice A1 N c1, .bool true]]) (by simp [Act.eval, f0]) ?_; refine (number_any A1 N c1 true lx _ hS.2.2.2.1 (by omega)).mono ?_; rintro e w2 ⟨X1, x1, rfl, nn1, hb⟩; exact ⟨_, rfl, hK _ w2 nofun (keep_below hb hS) ⟨X1, x1, rfl, B.Nw.mono nn1 (Nat.zero_le _)⟩⟩
          · intro a w' hS hO hF' hP K hK; have ha := hO 4 (by rfl); refine if_ok (by rfl) ?_; refine wp_load_row 24 (.tmp 4) rfl (w.heap.size + 1) (ev ha) _ _ (0, 0) _ hS.2.2.1 Tryz.underlying24 rfl (by kernel_rfl) ?_; exact hK _ w' nofun (keep_same hS) rfl
          · intro a w' hS hO hF' hP K hK; obtain ⟨_, f0, rfl⟩ := (hF' 4 rfl).1 29 _ rfl rfl; refine if_ok (by rfl) ?_; refine wp_calls rfl (enters_of Tryz.func112 (by kernel_rfl) rfl) (args := #[.agg #[.slice A2 N c2, .bool true]]) (by simp [Act.eval, f0]) ?_; refine (number_any A2 N c2 true ly _ hS.2.2.2.2 (by omega)).mono ?_; rintro e w2 ⟨X1, x1, rfl, nn1, hb⟩; exact ⟨_, rfl, hK _ w2 nofun (keep_below hb hS) ⟨X1, x1, rfl, B.Nw.mono nn1 (Nat.zero_le _)⟩⟩
          · intro a w' hS hO hF' hP K hK; obtain ⟨_, f0, rfl⟩ := (hF' 1 rfl).1 26 _ rfl rfl; obtain ⟨_, f1, X1, x1, rfl, nn1⟩ := (hF' 3 rfl).1 28 _ rfl rfl; obtain ⟨_, f2, X2, x2, rfl, nn2⟩ := (hF' 5 rfl).1 30 _ rfl rfl; refine if_ok (by rfl) ?_; refine wp_callv (lb := #[]) rfl (ev f0) ent_scmp (args := #[.slice X1 N x1, .slice X2 N x2]) (by simp [Act.eval, f1, f2]) ?_; refine (B.scmp_any X1 X2 N x1 (num lx) N x2 (num ly) _ nn1.rd nn2.rd (by omega) (by omega)).mono ?_; rintro e w2 ⟨rfl, rfl⟩; exact ⟨_, rfl, hK _ _ nofun (keep_same hS) rfl⟩
          · intro a w' hS hO hF' hP K hK; obtain ⟨_, f0, rfl⟩ := (hF' 0 rfl).1 25 _ rfl rfl; obtain ⟨_, f1, rfl⟩ := (hF' 6 rfl).1 31 _ rfl rfl; refine if_ok (by rfl) ?_; refine wp_callv (lb := #[]) rfl (ev f0) eg (args := #[.int .i64 (B.cmpI (B.sval N (num lx)) (B.sval N (num ly)))]) (by simp [Act.eval, f1]) ?_; refine (HD.out _ _).mono ?_; rintro e w2 ⟨rfl, hb⟩; exact ⟨_, rfl, hK _ w2 nofun (keep_below hb hS) rfl⟩
          · intro a w' hS hO hF' hP K hK; obtain ⟨_, f0, rfl⟩ := (hF' 7 rfl).1 32 _ rfl rfl; refine if_ok (by rfl) ?_; refine wp_calls rfl (enters_of Tryz.func92 (by kernel_rfl) rfl) (args := #[.bool (p (B.cmpI (B.sval N (num lx)) (B.sval N (num ly))))]) (by simp [Act.eval, f0]) ?_; refine (quietB (from_any _ _)).mono ?_; rintro e w2 ⟨rfl, hb⟩; exact ⟨_, rfl, hK _ w2 nofun (keep_below hb hS) rfl⟩
          · intro a w' hS hO hF' hP K hK; obtain ⟨_, f0, rfl⟩ := (hF' 8 rfl).1 33 _ rfl rfl; refine if_ok (by rfl) ?_; refine wp_calls rfl (enters_of Tryz.func161 (by kernel_rfl) rfl) (args := #[.int .u8 (fromI (p (B.cmpI (B.sval N (num lx)) (B.sval N (num ly)))))]) (by simp [Act.eval, f0]) ?_; refine (single_any _ _ (fromI_bd _).1).mono ?_; rintro e w2 ⟨A9, c9, rfl, n9, hb⟩; exact ⟨_, rfl, hK _ w2 nofun (keep_below hb hS) ⟨A9, c9, rfl, n9.mono hS.1.size⟩⟩
          · intro a w' hS hO hF' hP K hK; have O := hP 10 _ rfl rfl; have ha := hO 6 (by rfl); obtain ⟨_, f1, A9, c9, rfl, n9⟩ := (hF' 9 rfl).1 34 _ rfl rfl; refine if_ok (by rfl) ?_; refine wp_store_row _ _ _ rfl (w.heap.size + 1 + 1) _ (ev ha) (ev f1) _ _ O vec_size rfl (by simp [Value.oneCell']) ?_; exact hK _ _ (fun _ => rfl) (keep_store O inferInstance ⟨inferInstance, inferInstance, inferInstance, inferInstance, inferInstance, inferInstance, inferInstance, inferInstance, inferInstance, inferInstance, trivial⟩ ⟨inferInstance, inferInstance, inferInstance, inferInstance, inferInstance, inferInstance, inferInstance, inferInstance, inferInstance, inferInstance, trivial⟩ hS) ⟨A9, c9, Own.row O, n9.row O⟩
        · intro vs u hl hS hV
          match vs, hl, hV with
          | [v0, v1, v2, v3, v4, v5, v6, v7, v8, v9, v10], _, hV =>
            simp only [puts, Act.put, List.setIfInBounds_toArray, List.set_cons_zero, List.set_cons_succ]
            obtain ⟨A9, c9, W2, n9⟩ := hV 10 _ rfl
            go_wp2
            exact ret_vec Tryz.results165 rfl rfl W2 (RetV.mk' (v := one1 _) n9 hS.1)
end Go.Proofs.YtognpmggfplekaaGreatDoor

namespace Go.Proofs.YtognpmggfplekaaGreatDoor
open Go Go.RowKit

def pLt (z : Int) : Bool := decide (z < 0)
theorem hd_Lt : Hd 166 pLt := by
  intro W z
  show Calls _ _ #[.int .i64 z] W _
  unfold pLt
  go_enter Tryz.func166, Tryz.ntmps166
  go_wp2
  go_ret
  exact ⟨rfl, Below.refl _ _⟩
set_option maxHeartbeats 1000000 in
theorem vLt_any (A Y : Option Addr) (n m c d : Nat) (s t : Bool) (l k : List Int) (w : World) (h : Rb w A n l) (h' : Rb w Y m k) :
    Calls Tryz.prog 76 #[.agg #[.slice A n c, .bool s], .agg #[.slice Y m d, .bool t]] w (RetV w (one1 (cmpV pLt ⟨l, s⟩ ⟨k, t⟩))) := by
  have O0 := (((Own.at1 w 24 #[.slice A n c, .bool s] (g := w.heap.size) (by simp)).alloc (.cells #[.slice Y m d, .bool t] 24)).alloc (.cells #[.slice none 0 0, .bool false] 24))
  have O1 := ((Own.at1 (w.alloc (.cells #[.slice A n c, .bool s] 24)) 24 #[.slice Y m d, .bool t] (g := w.heap.size + 1) (by simp)).alloc (.cells #[.slice none 0 0, .bool false] 24))
  have O2 := (Own.at1 ((w.alloc (.cells #[.slice A n c, .bool s] 24)).alloc (.cells #[.slice Y m d, .bool t] 24)) 24 #[.slice none 0 0, .bool false] (g := w.heap.size + 1 + 1) (by simp))
  have BB := (below_new (below_new (below_new (Below.refl w.heap.size w) (.cells #[.slice A n c, .bool s] 24)) (.cells #[.slice Y m d, .bool t] 24)) (.cells #[.slice none 0 0, .bool false] 24))
  have HR := Lib.hid (compare_v 166 pLt A Y n m c d s t l k _ (h.step BB) (h'.step BB) (enters_of Tryz.func166 (by kernel_rfl) rfl) hd_Lt)
  generalize cmpV pLt ⟨l, s⟩ ⟨k, t⟩ = z at *
  clear h h'
  go_enter Tryz.func76, Tryz.ntmps76
  go_wp2_with (go_at_call 165; refine HR.out.mono ?_; rintro e w1 ⟨A1, c1, rfl, n1, hb1⟩; have L1 := O2.lt; have U2 := O2.step hb1; have qU20 := U2.cell 0; have qU21 := U2.cell 1; have fU20 := U2.free 0; have fU21 := U2.free 1)
  exact ret_vec Tryz.results76 rfl rfl (U2.put2 _ _) (RetV.mk' (v := one1 (z)) ((n1.far2 L1 _ _).mono BB.size) (below_set2 (below_step BB hb1) (by omega) _ _))
def pLe (z : Int) : Bool := decide (z ≤ 0)
theorem hd_Le : Hd 168 pLe := by
  intro W z
  show Calls _ _ #[.int .i64 z] W _
  unfold pLe
  go_enter Tryz.func168, Tryz.ntmps168
  go_wp2
  go_ret
  exact ⟨rfl, Below.refl _ _⟩
set_option maxHeartbeats 1000000 in
theorem vLe_any (A Y : Option Addr) (n m c d : Nat) (s t : Bool) (l k : List Int) (w : World) (h : Rb w A n l) (h' : Rb w Y m k) :
    Calls Tryz.prog 78 #[.agg #[.slice A n c, .bool s], .agg #[.slice Y m d, .bool t]] w (RetV w (one1 (cmpV pLe ⟨l, s⟩ ⟨k, t⟩))) := by
  have O0 := (((Own.at1 w 24 #[.slice A n c, .bool s] (g := w.heap.size) (by simp)).alloc (.cells #[.slice Y m d, .bool t] 24)).alloc (.cells #[.slice none 0 0, .bool false] 24))
  have O1 := ((Own.at1 (w.alloc (.cells #[.slice A n c, .bool s] 24)) 24 #[.slice Y m d, .bool t] (g := w.heap.size + 1) (by simp)).alloc (.cells #[.slice none 0 0, .bool false] 24))
  have O2 := (Own.at1 ((w.alloc (.cells #[.slice A n c, .bool s] 24)).alloc (.cells #[.slice Y m d, .bool t] 24)) 24 #[.slice none 0 0, .bool false] (g := w.heap.size + 1 + 1) (by simp))
  have BB := (below_new (below_new (below_new (Below.refl w.heap.size w) (.cells #[.slice A n c, .bool s] 24)) (.cells #[.slice Y m d, .bool t] 24)) (.cells #[.slice none 0 0, .bool false] 24))
  have HR := Lib.hid (compare_v 168 pLe A Y n m c d s t l k _ (h.step BB) (h'.step BB) (enters_of Tryz.func168 (by kernel_rfl) rfl) hd_Le)
  generalize cmpV pLe ⟨l, s⟩ ⟨k, t⟩ = z at *
  clear h h'
  go_enter Tryz.func78, Tryz.ntmps78
  go_wp2_with (go_at_call 165; refine HR.out.mono ?_; rintro e w1 ⟨A1, c1, rfl, n1, hb1⟩; have L1 := O2.lt; have U2 := O2.step hb1; have qU20 := U2.cell 0; have qU21 := U2.cell 1; have fU20 := U2.free 0; have fU21 := U2.free 1)
  exact ret_vec Tryz.results78 rfl rfl (U2.put2 _ _) (RetV.mk' (v := one1 (z)) ((n1.far2 L1 _ _).mono BB.size) (below_set2 (below_step BB hb1) (by omega) _ _))
def pGt (z : Int) : Bool := decide (0 < z)
theorem hd_Gt : Hd 169 pGt := by
  intro W z
  show Calls _ _ #[.int .i64 z] W _
  unfold pGt
  go_enter Tryz.func169, Tryz.ntmps169
  go_wp2
  go_ret
  exact ⟨rfl, Below.refl _ _⟩
set_option maxHeartbeats 1000000 in
theorem vGt_any (A Y : Option Addr) (n m c d : Nat) (s t : Bool) (l k : List Int) (w : World) (h : Rb w A n l) (h' : Rb w Y m k) :
    Calls Tryz.prog 79 #[.agg #[.slice A n c, .bool s], .agg #[.slice Y m d, .bool t]] w (RetV w (one1 (cmpV pGt ⟨l, s⟩ ⟨k, t⟩))) := by
  have O0 := (((Own.at1 w 24 #[.slice A n c, .bool s] (g := w.heap.size) (by simp)).alloc (.cells #[.slice Y m d, .bool t] 24)).alloc (.cells #[.slice none 0 0, .bool false] 24))
  have O1 := ((Own.at1 (w.alloc (.cells #[.slice A n c, .bool s] 24)) 24 #[.slice Y m d, .bool t] (g := w.heap.size + 1) (by simp)).alloc (.cells #[.slice none 0 0, .bool false] 24))
  have O2 := (Own.at1 ((w.alloc (.cells #[.slice A n c, .bool s] 24)).alloc (.cells #[.slice Y m d, .bool t] 24)) 24 #[.slice none 0 0, .bool false] (g := w.heap.size + 1 + 1) (by simp))
  have BB := (below_new (below_new (below_new (Below.refl w.heap.size w) (.cells #[.slice A n c, .bool s] 24)) (.cells #[.slice Y m d, .bool t] 24)) (.cells #[.slice none 0 0, .bool false] 24))
  have HR := Lib.hid (compare_v 169 pGt A Y n m c d s t l k _ (h.step BB) (h'.step BB) (enters_of Tryz.func169 (by kernel_rfl) rfl) hd_Gt)
  generalize cmpV pGt ⟨l, s⟩ ⟨k, t⟩ = z at *
  clear h h'
  go_enter Tryz.func79, Tryz.ntmps79
  go_wp2_with (go_at_call 165; refine HR.out.mono ?_; rintro e w1 ⟨A1, c1, rfl, n1, hb1⟩; have L1 := O2.lt; have U2 := O2.step hb1; have qU20 := U2.cell 0; have qU21 := U2.cell 1; have fU20 := U2.free 0; have fU21 := U2.free 1)
  exact ret_vec Tryz.results79 rfl rfl (U2.put2 _ _) (RetV.mk' (v := one1 (z)) ((n1.far2 L1 _ _).mono BB.size) (below_set2 (below_step BB hb1) (by omega) _ _))
def pGe (z : Int) : Bool := decide (0 ≤ z)
theorem hd_Ge : Hd 167 pGe := by
  intro W z
  show Calls _ _ #[.int .i64 z] W _
  unfold pGe
  go_enter Tryz.func167, Tryz.ntmps167
  go_wp2
  go_ret
  exact ⟨rfl, Below.refl _ _⟩
set_option maxHeartbeats 1000000 in
theorem vGe_any (A Y : Option Addr) (n m c d : Nat) (s t : Bool) (l k : List Int) (w : World) (h : Rb w A n l) (h' : Rb w Y m k) :
    Calls Tryz.prog 77 #[.agg #[.slice A n c, .bool s], .agg #[.slice Y m d, .bool t]] w (RetV w (one1 (cmpV pGe ⟨l, s⟩ ⟨k, t⟩))) := by
  have O0 := (((Own.at1 w 24 #[.slice A n c, .bool s] (g := w.heap.size) (by simp)).alloc (.cells #[.slice Y m d, .bool t] 24)).alloc (.cells #[.slice none 0 0, .bool false] 24))
  have O1 := ((Own.at1 (w.alloc (.cells #[.slice A n c, .bool s] 24)) 24 #[.slice Y m d, .bool t] (g := w.heap.size + 1) (by simp)).alloc (.cells #[.slice none 0 0, .bool false] 24))
  have O2 := (Own.at1 ((w.alloc (.cells #[.slice A n c, .bool s] 24)).alloc (.cells #[.slice Y m d, .bool t] 24)) 24 #[.slice none 0 0, .bool false] (g := w.heap.size + 1 + 1) (by simp))
  have BB := (below_new (below_new (below_new (Below.refl w.heap.size w) (.cells #[.slice A n c, .bool s] 24)) (.cells #[.slice Y m d, .bool t] 24)) (.cells #[.slice none 0 0, .bool false] 24))
  have HR := Lib.hid (compare_v 167 pGe A Y n m c d s t l k _ (h.step BB) (h'.step BB) (enters_of Tryz.func167 (by kernel_rfl) rfl) hd_Ge)
  generalize cmpV pGe ⟨l, s⟩ ⟨k, t⟩ = z at *
  clear h h'
  go_enter Tryz.func77, Tryz.ntmps77
  go_wp2_with (go_at_call 165; refine HR.out.mono ?_; rintro e w1 ⟨A1, c1, rfl, n1, hb1⟩; have L1 := O2.lt; have U2 := O2.step hb1; have qU20 := U2.cell 0; have qU21 := U2.cell 1; have fU20 := U2.free 0; have fU21 := U2.free 1)
  exact ret_vec Tryz.results77 rfl rfl (U2.put2 _ _) (RetV.mk' (v := one1 (z)) ((n1.far2 L1 _ _).mono BB.size) (below_set2 (below_step BB hb1) (by omega) _ _))
end Go.Proofs.YtognpmggfplekaaGreatDoor

namespace Go.Proofs.YtognpmggfplekaaGreatDoor
open Go Go.RowKit

def tst (wild : Int → Bool) (x y : List Int) (i : Nat) : Bool := sameB (nth x i) (nth y i) || (wild (nth x i) || wild (nth y i))
theorem all_next {T : Nat → Bool} {j : Nat} (h : ∀ i, i < j → T i = true) (hj : T j = true) : ∀ i, i < j + 1 → T i = true := fun i hi => by
  rcases Nat.lt_or_ge i j with h1 | h1
  · exact h i h1
  · obtain rfl : i = j := by omega
    exact hj
def mtL (wild : Int → Bool) (x y : List Int) (n : Nat) : Bool := (List.range n).all (tst wild x y)
def mtB (wild : Int → Bool) (a b : V) : Bool := mtL wild (balL a b).l (balR a b).l (balN a b)
theorem mtL_all {wild : Int → Bool} {x y : List Int} {n : Nat} (h : ∀ j, j < n → tst wild x y j = true) : mtL wild x y n = true := by
  unfold mtL; rw [List.all_eq_true]; intro j hj; exact h j (List.mem_range.1 hj)
theorem mtL_no {wild : Int → Bool} {x y : List Int} {n k : Nat} (hk : k < n) (h : tst wild x y k = false) : mtL wild x y n = false := by
  unfold mtL; rw [List.all_eq_false]; exact ⟨k, List.mem_range.2 hk, by rw [h]; decide⟩
set_option maxHeartbeats 8000000 in
theorem match_v (g : Nat) (wild : Int → Bool) (A Y : Option Addr) (n m c d : Nat) (s t : Bool) (l k : List Int) (w : World) (h : Rb w A n l) (h' : Rb w Y m k) (eg : Ent g) (hp : Pd w g #[] wild) :
    Calls Tryz.prog 107 #[.agg #[.slice A n c, .bool s], .agg #[.slice Y m d, .bool t], .func (.func g) #[] #[]] w fun e w' => e = .returned (.bool (mtB wild ⟨l, s⟩ ⟨k, t⟩)) ∧ Below w.heap.size w w' := by
  unfold Ent at eg
  have O0 := ((Own.at1 w 24 #[.slice A n c, .bool s] (g := w.heap.size) (by simp)).alloc (.cells #[.slice Y m d, .bool t] 24))
  have O1 := (Own.at1 (w.alloc (.cells #[.slice A n c, .bool s] 24)) 24 #[.slice Y m d, .bool t] (g := w.heap.size + 1) (by simp))
  have BB := (below_new (below_new (Below.refl w.heap.size w) (.cells #[.slice A n c, .bool s] 24)) (.cells #[.slice Y m d, .bool t] 24))
  have HB := Lib.hid (balance_q A Y n m c d s t l k _ (h.step BB) (h'.step BB))
  have hbd := balN_bd ⟨l, s⟩ ⟨k, t⟩
  have okx := balL_ok ⟨l, s⟩ ⟨k, t⟩
  have oky := balR_ok ⟨l, s⟩ ⟨k, t⟩
  unfold mtB
  generalize (balL ⟨l, s⟩ ⟨k, t⟩).l = lx at *
  generalize (balR ⟨l, s⟩ ⟨k, t⟩).l = ly at *
  generalize balN ⟨l, s⟩ ⟨k, t⟩ = N at *
  generalize balS ⟨l, s⟩ ⟨k, t⟩ = sy at *
  clear h h' okx oky
  have HP := Lib.hid hp
  clear hp
  go_enter Tryz.func107, Tryz.ntmps107
  go_wp2_with (go_at_call 190; refine HB.out.mono ?_; rintro e w1 ⟨A1, c1, A2, c2, rfl, n1, n2, hb1⟩; replace BB := below_step BB hb1; replace O0 := O0.step hb1; replace O1 := O1.step hb1; have qO00 := O0.cell 0; have qO01 := O0.cell 1; have fO00 := O0.free 0; have fO01 := O0.free 1; have qO10 := O1.cell 0; have qO11 := O1.cell 1; have fO10 := O1.free 0; have fO11 := O1.free 1; have C1 := below_set2 (below_set2 BB (Nat.le_refl _) (.slice A1 N c1) (.bool sy)) (Nat.le_succ _) (.slice A2 N c2) (.bool sy); have U0 := (O0.put2 (.slice A1 N c1) (.bool sy)).far2 (Nat.ne_of_lt (Nat.lt_succ_self _)) (.slice A2 N c2) (.bool sy); have U1 := (O1.far2 (Nat.succ_ne_self _) (.slice A1 N c1) (.bool sy)).put2 (.slice A2 N c2) (.bool sy); have r1 := (n1.rd.set2 O0 (.slice A1 N c1) (.bool sy)).set2 (O1.far2 (Nat.succ_ne_self _) (.slice A1 N c1) (.bool sy)) (.slice A2 N c2) (.bool sy); have r2 := (n2.rd.set2 O0 (.slice A1 N c1) (.bool sy)).set2 (O1.far2 (Nat.succ_ne_self _) (.slice A1 N c1) (.bool sy)) (.slice A2 N c2) (.bool sy); have qU00 := U0.cell 0; have qU01 := U0.cell 1; have qU10 := U1.cell 0; have qU11 := U1.cell 1)
  generalize ((((w1.setCell ⟨w.heap.size, 0, none⟩ (.slice A1 N c1)).setCell ⟨w.heap.size, 1, none⟩ (.bool sy)).setCell ⟨w.heap.size + 1, 0, none⟩ (.slice A2 N c2)).setCell ⟨w.heap.size + 1, 1, none⟩ (.bool sy)) = W0 at *
  clear qU00 qU01 qU10 qU11 qO00 qO01 qO10 qO11 fO00 fO01 fO10 fO11 O0 O1 BB
  go_loopw [19] (fun i wr => ∃ k : Nat, k ≤ N ∧ i = .int .i64 k ∧ Hid (Below W0.heap.size W0 wr) ∧ Hid (∀ j, j < k → tst wild lx ly j = true)) (fun i _ => N - (intOf i).toNat)
  case atStart => exact ⟨0, Nat.zero_le _, rfl, Lib.hid (Below.refl _ _), Lib.hid fun j hj => absurd hj (Nat.not_lt_zero _)⟩
  case round =>
    obtain ⟨j, hj, rfl, HW, HT⟩ := hrel
    by_cases hlt : j < N
    · obtain ⟨b1, o1, rfl, hl1, hc1⟩ := (r1.step HW.out).at_ hlt
      obtain ⟨b2, o2, rfl, hl2, hc2⟩ := (r2.step HW.out).at_ hlt
      have u0 := (U1.step HW.out).cell 0
      have hP := fun (u : World) (hb : Below wr.heap.size wr u) (a : Int) => HP.out u a (below_step (below_step C1 HW.out) hb)
      have ht : tst wild lx ly j = (sameB (nth lx j) (nth ly j) || (wild (nth lx j) || wild (nth ly j))) := rfl
      generalize nth lx j = y at *
      generalize nth ly j = z at *
      replace ht := Lib.hid ht
      replace r1 := Lib.hid r1
      replace r2 := Lib.hid r2
      replace U0 := Lib.hid U0
      replace U1 := Lib.hid U1
      replace C1 := Lib.hid C1
      have hPy := Lib.hid fun (u : World) (hb : Below wr.heap.size wr u) => hP u hb y
      have hPz := Lib.hid fun (u : World) (hb : Below wr.heap.size wr u) => hP u hb z
      have hsame := Lib.hid fun (u : World) => same_any y z u
      clear hP
      cases e1 : sameB y z
      · cases e2 : wild y
        · cases e3 : wild z
          · rw [e1] at hsame
            rw [e2] at hPy
            rw [e3] at hPz
            rw [e1, e2, e3] at ht
            clear e1 e2 e3
            go_wp2_with (first
              | (go_at_call 172; refine (hsame.out _).mono ?_; rintro e w4 ⟨rfl, q, rfl⟩)
              | (go_at_fn g; refine (hPy.out _ (below_drewN (Below.refl _ _) q)).mono ?_; rintro e w5 ⟨rfl, hb5⟩; clear hPy; have hb5' := below_step (below_drewN (Below.refl _ wr) q) hb5)
              | (go_at_fn g; refine (hPz.out _ hb5').mono ?_; rintro e w6 ⟨rfl, hb6⟩))
            go_ret
            exact ⟨ret_b (mtL_no hlt (by rw [ht.out]; rfl)).symm, below_step (below_step (below_step C1.out HW.out) hb5') hb6⟩
          · rw [e1] at hsame
            rw [e2] at hPy
            rw [e3] at hPz
            rw [e1, e2, e3] at ht
            clear e1 e2 e3
            go_wp2_with (first
              | (go_at_call 172; refine (hsame.out _).mono ?_; rintro e w4 ⟨rfl, q, rfl⟩)
              | (go_at_fn g; refine (hPy.out _ (below_drewN (Below.refl _ _) q)).mono ?_; rintro e w5 ⟨rfl, hb5⟩; clear hPy; have hb5' := below_step (below_drewN (Below.refl _ wr) q) hb5)
              | (go_at_fn g; refine (hPz.out _ hb5').mono ?_; rintro e w6 ⟨rfl, hb6⟩))
            go_roundw
            case rel => exact ⟨j + 1, by omega, by go_num, Lib.hid (below_step (below_step HW.out hb5') hb6), Lib.hid (all_next HT.out ht.out)⟩
            case measure => simp [intOf]; omega
        · rw [e1] at hsame
          rw [e2] at hPy
          rw [e1, e2] at ht
          clear e1 e2
          go_wp2_with (first
              | (go_at_call 172; refine (hsame.out _).mono ?_; rintro e w4 ⟨rfl, q, rfl⟩)
              | (go_at_fn g; refine (hPy.out _ (below_drewN (Below.refl _ _) q)).mono ?_; rintro e w5 ⟨rfl, hb5⟩; clear hPy; have hb5' := below_step (below_drewN (Below.refl _ wr) q) hb5))
          go_roundw
          case rel => exact ⟨j + 1, by omega, by go_num, Lib.hid (below_step HW.out hb5'), Lib.hid (all_next HT.out ht.out)⟩
          case measure => simp [intOf]; omega
      · rw [e1] at hsame
        rw [e1] at ht
        clear e1
        go_wp2_with (go_at_call 172; refine (hsame.out _).mono ?_; rintro e w4 ⟨rfl, q, rfl⟩)
        go_roundw
        case rel => exact ⟨j + 1, by omega, by go_num, Lib.hid (below_drewN HW.out q), Lib.hid (all_next HT.out ht.out)⟩
        case measure => simp [intOf]; omega
    · obtain rfl : j = N := by omega
      go_wp2
      go_ret
      exact ⟨ret_b (mtL_all HT.out).symm, below_step C1 HW.out⟩
def noW (_ : Int) : Bool := false
theorem pd_CaseEq (w : World) : Pd w 170 #[] noW := by
  intro W a hb
  show Calls _ _ #[.int .u8 a] W _
  unfold noW
  go_enter Tryz.func170, Tryz.ntmps170
  go_wp2
  go_ret
  exact ⟨rfl, Below.refl _ _⟩
theorem ent_CaseEq : Ent 170 := enters_of Tryz.func170 (by kernel_rfl) rfl
def zW (a : Int) : Bool := a == 3
theorem pd_MatchZ (w : World) : Pd w 108 #[] zW := by
  intro W a hb
  show Calls _ _ #[.int .u8 a] W _
  unfold zW
  go_enter Tryz.func108, Tryz.ntmps108
  go_wp2
  go_ret
  exact ⟨rfl, Below.refl _ _⟩
theorem ent_MatchZ : Ent 108 := enters_of Tryz.func108 (by kernel_rfl) rfl
theorem pd_MatchX (w : World) : Pd w 109 #[] unkB := by
  intro W a hb
  show Calls _ _ #[.int .u8 a] W _
  unfold unkB
  go_enter Tryz.func109, Tryz.ntmps109
  go_wp2_with (go_at_call 110; refine (known_any _ _).mono ?_; rintro e w1 ⟨rfl, m, rfl⟩)
  go_ret
  exact ⟨rfl, below_drewN (Below.refl _ _) m⟩
theorem ent_MatchX : Ent 109 := enters_of Tryz.func109 (by kernel_rfl) rfl
theorem MatchZ_any (A Y : Option Addr) (n m c d : Nat) (s t : Bool) (l k : List Int) (w : World) (h : Rb w A n l) (h' : Rb w Y m k) :
    Calls Tryz.prog 21 #[.agg #[.slice A n c, .bool s], .agg #[.slice Y m d, .bool t]] w fun e w' => e = .returned (.bool (mtB zW ⟨l, s⟩ ⟨k, t⟩)) ∧ Below w.heap.size w w' := by
  have O0 := ((Own.at1 w 24 #[.slice A n c, .bool s] (g := w.heap.size) (by simp)).alloc (.cells #[.slice Y m d, .bool t] 24))
  have O1 := (Own.at1 (w.alloc (.cells #[.slice A n c, .bool s] 24)) 24 #[.slice Y m d, .bool t] (g := w.heap.size + 1) (by simp))
  have BB := (below_new (below_new (Below.refl w.heap.size w) (.cells #[.slice A n c, .bool s] 24)) (.cells #[.slice Y m d, .bool t] 24))
  have HR := Lib.hid (match_v _ zW A Y n m c d s t l k _ (h.step BB) (h'.step BB) ent_MatchZ (pd_MatchZ _))
  generalize mtB zW ⟨l, s⟩ ⟨k, t⟩ = z at *
  clear h h' O0 O1
  go_enter Tryz.func21, Tryz.ntmps21
  go_wp2_with (go_at_call 107; refine HR.out.mono ?_; rintro e w1 ⟨rfl, hb1⟩)
  go_ret
  exact ⟨rfl, below_step BB hb1⟩
theorem MatchX_any (A Y : Option Addr) (n m c d : Nat) (s t : Bool) (l k : List Int) (w : World) (h : Rb w A n l) (h' : Rb w Y m k) :
    Calls Tryz.prog 23 #[.agg #[.slice A n c, .bool s], .agg #[.slice Y m d, .bool t]] w fun e w' => e = .returned (.bool (mtB unkB ⟨l, s⟩ ⟨k, t⟩)) ∧ Below w.heap.size w w' := by
  have O0 := ((Own.at1 w 24 #[.slice A n c, .bool s] (g := w.heap.size) (by simp)).alloc (.cells #[.slice Y m d, .bool t] 24))
  have O1 := (Own.at1 (w.alloc (.cells #[.slice A n c, .bool s] 24)) 24 #[.slice Y m d, .bool t] (g := w.heap.size + 1) (by simp))
  have BB := (below_new (below_new (Below.refl w.heap.size w) (.cells #[.slice A n c, .bool s] 24)) (.cells #[.slice Y m d, .bool t] 24))
  have HR := Lib.hid (match_v _ unkB A Y n m c d s t l k _ (h.step BB) (h'.step BB) ent_MatchX (pd_MatchX _))
  generalize mtB unkB ⟨l, s⟩ ⟨k, t⟩ = z at *
  clear h h' O0 O1
  go_enter Tryz.func23, Tryz.ntmps23
  go_wp2_with (go_at_call 107; refine HR.out.mono ?_; rintro e w1 ⟨rfl, hb1⟩)
  go_ret
  exact ⟨rfl, below_step BB hb1⟩
set_option maxHeartbeats 1000000 in
theorem caseEq_any (A Y : Option Addr) (n m c d : Nat) (s t : Bool) (l k : List Int) (w : World) (h : Rb w A n l) (h' : Rb w Y m k) :
    Calls Tryz.prog 81 #[.agg #[.slice A n c, .bool s], .agg #[.slice Y m d, .bool t]] w (RetV w (one1 (fromI (mtB noW ⟨l, s⟩ ⟨k, t⟩)))) := by
  have O0 := (((Own.at1 w 24 #[.slice A n c, .bool s] (g := w.heap.size) (by simp)).alloc (.cells #[.slice Y m d, .bool t] 24)).alloc (.cells #[.slice none 0 0, .bool false] 24))
  have O1 := ((Own.at1 (w.alloc (.cells #[.slice A n c, .bool s] 24)) 24 #[.slice Y m d, .bool t] (g := w.heap.size + 1) (by simp)).alloc (.cells #[.slice none 0 0, .bool false] 24))
  have O2 := (Own.at1 ((w.alloc (.cells #[.slice A n c, .bool s] 24)).alloc (.cells #[.slice Y m d, .bool t] 24)) 24 #[.slice none 0 0, .bool false] (g := w.heap.size + 1 + 1) (by simp))
  have BB := (below_new (below_new (below_new (Below.refl w.heap.size w) (.cells #[.slice A n c, .bool s] 24)) (.cells #[.slice Y m d, .bool t] 24)) (.cells #[.slice none 0 0, .bool false] 24))
  have HR := Lib.hid (match_v _ noW A Y n m c d s t l k _ (h.step BB) (h'.step BB) ent_CaseEq (pd_CaseEq _))
  generalize mtB noW ⟨l, s⟩ ⟨k, t⟩ = z at *
  clear h h'
  go_enter Tryz.func81, Tryz.ntmps81
  go_wp2_with (first
    | (go_at_call 107; refine HR.out.mono ?_; rintro e w1 ⟨rfl, hb1⟩; replace BB := below_step BB hb1; replace O2 := O2.step hb1)
    | (go_at_call 92; refine (quietB (from_any _ _)).mono ?_; rintro e w2 ⟨rfl, hb2⟩; replace BB := below_step BB hb2; replace O2 := O2.step hb2)
    | (go_at_call 161; refine (single_any _ _ (fromI_bd _).1).mono ?_; rintro e w3 ⟨A9, c9, rfl, n9, hb9⟩; have L1 := O2.lt; have W2 := O2.step hb9; have qW20 := W2.cell 0; have qW21 := W2.cell 1; have fW20 := W2.free 0; have fW21 := W2.free 1))
  exact ret_vec Tryz.results81 rfl rfl (W2.put2 _ _) (RetV.mk' (v := one1 (fromI z)) ((n9.far2 L1 _ _).mono BB.size) (below_set2 (below_step BB hb9) (by omega) _ _))
set_option maxHeartbeats 1000000 in
theorem caseNe_any (A Y : Option Addr) (n m c d : Nat) (s t : Bool) (l k : List Int) (w : World) (h : Rb w A n l) (h' : Rb w Y m k) (TT : Tabs w) :
    Calls Tryz.prog 82 #[.agg #[.slice A n c, .bool s], .agg #[.slice Y m d, .bool t]] w (RetV w (one1 (notI (fromI (mtB noW ⟨l, s⟩ ⟨k, t⟩))))) := by
  have O0 := (((Own.at1 w 24 #[.slice A n c, .bool s] (g := w.heap.size) (by simp)).alloc (.cells #[.slice Y m d, .bool t] 24)).alloc (.cells #[.slice none 0 0, .bool false] 24))
  have O1 := ((Own.at1 (w.alloc (.cells #[.slice A n c, .bool s] 24)) 24 #[.slice Y m d, .bool t] (g := w.heap.size + 1) (by simp)).alloc (.cells #[.slice none 0 0, .bool false] 24))
  have O2 := (Own.at1 ((w.alloc (.cells #[.slice A n c, .bool s] 24)).alloc (.cells #[.slice Y m d, .bool t] 24)) 24 #[.slice none 0 0, .bool false] (g := w.heap.size + 1 + 1) (by simp))
  have BB := (below_new (below_new (below_new (Below.refl w.heap.size w) (.cells #[.slice A n c, .bool s] 24)) (.cells #[.slice Y m d, .bool t] 24)) (.cells #[.slice none 0 0, .bool false] 24))
  have HR := Lib.hid (caseEq_any A Y n m c d s t l k _ (h.step BB) (h'.step BB))
  rw [← notV_one (Int.le_trans (fromI_bd _).2 (by decide))]
  generalize fromI (mtB noW ⟨l, s⟩ ⟨k, t⟩) = z at *
  replace TT := Lib.hid TT
  clear h h'
  go_enter Tryz.func82, Tryz.ntmps82
  go_wp2_with (first
    | (go_at_call 81; refine HR.out.mono ?_; rintro e w1 ⟨A1, c1, rfl, n1, hb1⟩; replace BB := below_step BB hb1; replace O2 := O2.step hb1)
    | (go_at_call 55; refine (not_v A1 _ c1 _ _ _ n1.rd (TT.out.step BB)).mono ?_; rintro e w2 ⟨A2, c2, rfl, n2, hb2⟩; have L1 := O2.lt; have U2 := O2.step hb2; have qU20 := U2.cell 0; have qU21 := U2.cell 1; have fU20 := U2.free 0; have fU21 := U2.free 1))
  exact ret_vec Tryz.results82 rfl rfl (U2.put2 _ _) (RetV.mk' (v := notV (one1 z)) ((n2.far2 L1 _ _).mono BB.size) (below_set2 (below_step BB hb2) (by omega) _ _))
end Go.Proofs.YtognpmggfplekaaGreatDoor
