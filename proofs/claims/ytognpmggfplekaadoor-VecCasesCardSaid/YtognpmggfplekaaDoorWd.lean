/-
  The walk of VecCases: it returns true. Conditions: the tables of package bit read as the program lays them.
-/
import Derived.Test.YtognpmggfplekaaDoorW7
namespace Go.Proofs.YtognpmggfplekaaDoor
open Go Go.RowKit

set_option maxRecDepth 100000 in
theorem same_b {p : Bool} (A Y : Option Addr) (n m c d : Nat) (s t : Bool) (l k : List Int) (w : World) (h : Rb w A n l) (h' : Rb w Y m k) (hn : n ≤ 1000) (hm : m ≤ 1000) (hs : sameV ⟨l, s⟩ ⟨k, t⟩ = p) :
    Calls Tryd.prog 10 #[.agg #[.slice A n c, .bool s], .agg #[.slice Y m d, .bool t]] w fun e w' => e = .returned (.bool p) ∧ Below w.heap.size w w' := by
  have := rSame_any A Y n m c d s t l k w h h' (by omega) (by omega)
  rw [hs] at this
  exact this
set_option maxRecDepth 100000 in
theorem matchZ_b {p : Bool} (A Y : Option Addr) (n m c d : Nat) (s t : Bool) (l k : List Int) (w : World) (h : Rb w A n l) (h' : Rb w Y m k) (hs : mtB zW ⟨l, s⟩ ⟨k, t⟩ = p) :
    Calls Tryd.prog 19 #[.agg #[.slice A n c, .bool s], .agg #[.slice Y m d, .bool t]] w fun e w' => e = .returned (.bool p) ∧ Below w.heap.size w w' := by
  have := MatchZ_any A Y n m c d s t l k w h h'
  rw [hs] at this
  exact this
set_option maxRecDepth 100000 in
theorem matchX_b {p : Bool} (A Y : Option Addr) (n m c d : Nat) (s t : Bool) (l k : List Int) (w : World) (h : Rb w A n l) (h' : Rb w Y m k) (hs : mtB unkB ⟨l, s⟩ ⟨k, t⟩ = p) :
    Calls Tryd.prog 20 #[.agg #[.slice A n c, .bool s], .agg #[.slice Y m d, .bool t]] w fun e w' => e = .returned (.bool p) ∧ Below w.heap.size w w' := by
  have := MatchX_any A Y n m c d s t l k w h h'
  rw [hs] at this
  exact this
set_option maxRecDepth 100000 in
theorem known_b {p : Bool} (A : Option Addr) (n c : Nat) (s : Bool) (l : List Int) (w : World) (h : Rb w A n l) (hs : kn ⟨l, s⟩ = p) :
    Calls Tryd.prog 21 #[.agg #[.slice A n c, .bool s]] w fun e w' => e = .returned (.bool p) ∧ Below w.heap.size w w' := by
  have := known_v A n c s l w h
  rw [hs] at this
  exact this
/-! The mathematics. -/
set_option maxRecDepth 100000 in
theorem ce_same (a b : V) : sameV (one1 (fromI (mtB noW a b))) ⟨ofL ⟨#[49]⟩, false⟩ = mtB noW a b := by
  cases mtB noW a b <;> decide +kernel
set_option maxRecDepth 100000 in
theorem ne_same {a b : V} : sameV (one1 (notI (fromI (mtB noW a b)))) ⟨ofL ⟨#[49]⟩, false⟩ = !mtB noW a b := by
  cases mtB noW a b <;> decide +kernel
set_option maxRecDepth 100000 in
theorem same_eq {x y : Int} (hx : x ≤ 3) (hy : y ≤ 3) : sameB x y = decide (x = y) := by
  unfold sameB
  rw [stI_of hx, stI_of hy]
  by_cases h : x = y
  · subst h; simp
  · simp [h]
set_option maxRecDepth 100000 in
theorem tr1 : truth ⟨ofL ⟨#[49]⟩, false⟩ = 1 := by decide +kernel
set_option maxRecDepth 100000 in
theorem tr0 : truth ⟨ofL ⟨#[48]⟩, false⟩ = 0 := by decide +kernel
set_option maxRecDepth 100000 in
theorem cond_l (a b : V) : condV ⟨ofL ⟨#[49]⟩, false⟩ a b = balL a b := by
  unfold condV bwV
  rw [tr1]
  refine V.ext' ?_ rfl
  refine list_ext (by rw [tab_len, (bal_len a b).1]) fun i hi => ?_
  rw [tab_len] at hi
  rw [nth_tab _ hi]
  rfl
set_option maxRecDepth 100000 in
theorem cond_r (a b : V) : condV ⟨ofL ⟨#[48]⟩, false⟩ a b = balR a b := by
  unfold condV bwV
  rw [tr0]
  refine V.ext' ?_ rfl
  refine list_ext (by rw [tab_len, (bal_len a b).2]) fun i hi => ?_
  rw [tab_len] at hi
  rw [nth_tab _ hi]
  rfl
set_option maxRecDepth 100000 in
theorem cond_same (a b : V) : sameV (condV ⟨ofL ⟨#[49]⟩, false⟩ a b) (condV ⟨ofL ⟨#[48]⟩, false⟩ a b) = mtB noW a b := by
  rw [cond_l, cond_r]
  have hs : (balL a b).s = (balR a b).s := rfl
  have key : ∀ i, tst noW (balL a b).l (balR a b).l i = decide (nth (balL a b).l i = nth (balR a b).l i) := fun i => by
    unfold tst noW
    rw [same_eq (ok_le (balL_ok a b) i) (ok_le (balR_ok a b) i)]
    simp
  rw [Bool.eq_iff_iff, sameV_iff]
  unfold mtB mtL
  rw [List.all_eq_true]
  constructor
  · intro e i _
    rw [key, e]
    simp
  · intro e
    refine V.ext' (list_ext (by rw [(bal_len a b).1, (bal_len a b).2]) fun i hi => ?_) hs
    rw [(bal_len a b).1] at hi
    have := e i (List.mem_range.2 hi)
    rw [key] at this
    simpa using this
set_option maxRecDepth 100000 in
theorem mt_mono {p q : Int → Bool} (h : ∀ x, p x = true → q x = true) {a b : V} (e : mtB p a b = true) : mtB q a b = true := by
  unfold mtB mtL at *
  rw [List.all_eq_true] at *
  intro i hi
  have := e i hi
  unfold tst at *
  simp only [Bool.or_eq_true] at *
  rcases this with k | k | k
  · exact .inl k
  · exact .inr (.inl (h _ k))
  · exact .inr (.inr (h _ k))
set_option maxRecDepth 100000 in
theorem no_z {a b : V} (e : mtB noW a b = true) : mtB zW a b = true := mt_mono (fun _ h => by cases h) e
set_option maxRecDepth 100000 in
theorem z_x {a b : V} (e : mtB zW a b = true) : mtB unkB a b = true := mt_mono (fun x h => by
  unfold zW at h
  have : x = 3 := by simpa using h
  subst this; rfl) e
set_option maxRecDepth 100000 in
theorem fit_kn {l : List Int} {S : Bool} {N : Nat} (h : knL l = true) (h0 : 0 < l.length) : knL (fitV ⟨l, S⟩ N).l = true := by
  refine knL_iff.2 fun i hi => ?_
  rw [fitV, tab_len] at hi
  rw [fitV, nth_tab _ hi]
  unfold ext fill
  simp only
  split
  · exact knL_iff.1 h i (by assumption)
  · split
    · exact knL_iff.1 h _ (by omega)
    · exact .inl rfl
set_option maxRecDepth 100000 in
theorem bal_kn {a b : V} (ha : kn a = true) (hb : kn b = true) : knL (balL a b).l = true ∧ knL (balR a b).l = true :=
  ⟨fit_kn ha (nrm_len a).1, fit_kn hb (nrm_len b).1⟩
set_option maxRecDepth 100000 in
theorem all_range {n : Nat} {f g : Nat → Bool} (h : ∀ i, i < n → f i = g i) : (List.range n).all f = (List.range n).all g := by
  rw [Bool.eq_iff_iff, List.all_eq_true, List.all_eq_true]
  exact ⟨fun e i hi => by rw [← h i (List.mem_range.1 hi)]; exact e i hi, fun e i hi => by rw [h i (List.mem_range.1 hi)]; exact e i hi⟩
set_option maxRecDepth 100000 in
theorem known_all {a b : V} (ha : kn a = true) (hb : kn b = true) : mtB unkB a b = mtB noW a b := by
  obtain ⟨h1, h2⟩ := bal_kn ha hb
  unfold mtB mtL
  refine all_range fun i hi => ?_
  have e1 := knL_iff.1 h1 i (by rw [(bal_len a b).1]; exact hi)
  have e2 := knL_iff.1 h2 i (by rw [(bal_len a b).2]; exact hi)
  unfold tst
  rcases e1 with e1 | e1 <;> rcases e2 with e2 | e2 <;> rw [e1, e2] <;> rfl
set_option maxRecDepth 100000 in
theorem redU_eq {x : List Int} (h : ∀ i, nth x i = 0 ∨ nth x i = 1 ∨ x.length ≤ i) : ∀ k, k < x.length → redU andI x k = fromI ((List.range (k + 1)).all fun i => nth x i == 1)
  | 0, hk => by
    have e1 : (List.range (0 + 1)).all (fun i => nth x i == 1) = (nth x 0 == 1) := by simp [List.range_succ]
    rw [e1]
    rcases h 0 with e | e | e
    · rw [redU, e]; decide
    · rw [redU, e]; decide
    · omega
  | k + 1, hk => by
    have e1 : (List.range (k + 1 + 1)).all (fun i => nth x i == 1) = ((List.range (k + 1)).all (fun i => nth x i == 1) && (nth x (k + 1) == 1)) := by
      rw [List.range_succ (n := k + 1), List.all_append]; simp
    rw [redU, redU_eq h k (by omega), e1]
    generalize (List.range (k + 1)).all (fun i => nth x i == 1) = z
    rcases h (k + 1) with e | e | e
    · rw [e]; cases z <;> decide
    · rw [e]; cases z <;> decide
    · omega
set_option maxRecDepth 100000 in
theorem eqV_kn {a b : V} (ha : kn a = true) (hb : kn b = true) : eqV a b = fromI (mtB noW a b) := by
  obtain ⟨h1, h2⟩ := bal_kn ha hb
  have hN := balN_bd a b
  have hb1 : ∀ i, i < balN a b → nth (bwV eqI a b).l i = fromI (tst noW (balL a b).l (balR a b).l i) := fun i hi => by
    have e1 := knL_iff.1 h1 i (by rw [(bal_len a b).1]; exact hi)
    have e2 := knL_iff.1 h2 i (by rw [(bal_len a b).2]; exact hi)
    unfold bwV
    rw [nth_tab _ hi]
    unfold tst
    rcases e1 with e1 | e1 <;> rcases e2 with e2 | e2 <;> rw [e1, e2] <;> rfl
  have hl : (bwV eqI a b).l.length = balN a b := by unfold bwV; rw [tab_len]
  have ok : okB (bwV eqI a b).l = true := ok_mk (by rw [hl]; exact hN.1) (by rw [hl]; exact hN.2) fun i hi => by
    rw [hl] at hi; rw [hb1 i hi]; have := fromI_bd (tst noW (balL a b).l (balR a b).l i); omega
  unfold eqV red
  rw [nrm_of ok, redU_eq (fun i => by
    by_cases hi : i < balN a b
    · rw [hb1 i hi]; cases tst noW (balL a b).l (balR a b).l i <;> simp [fromI]
    · exact .inr (.inr (by omega))) _ (by omega), hl, show balN a b - 1 + 1 = balN a b by omega]
  congr 1
  unfold mtB mtL
  refine all_range fun i hi => ?_
  rw [hb1 i hi]
  cases tst noW (balL a b).l (balR a b).l i <;> rfl
set_option maxRecDepth 100000 in
theorem eq_same {a b : V} (ha : kn a = true) (hb : kn b = true) : sameV (one1 (eqV a b)) ⟨ofL ⟨#[49]⟩, false⟩ = mtB noW a b := by
  rw [eqV_kn ha hb]; exact ce_same a b
set_option maxRecDepth 100000 in
theorem eq_kn {a b : V} (ha : kn a = true) (hb : kn b = true) : kn (one1 (eqV a b)) = true := by
  rw [eqV_kn ha hb]; cases mtB noW a b <;> decide +kernel
def cstDs : List (Option Tmp) := some 74 :: some 75 :: some 76 :: some 77 :: some 78 :: some 79 :: some 80 :: some 81 :: some 82 :: some 83 :: some 84 :: some 85 :: some 86 :: some 87 :: some 88 :: some 89 :: some 90 :: some 91 :: some 92 :: some 93 :: some 4 :: []
def cstDp : List (List Nat) := [] :: [] :: [0, 1] :: [] :: [2, 3] :: [4, 2] :: [5] :: [5] :: [6, 7, 5, 5] :: [5] :: [8, 9, 8, 5] :: [5] :: [10, 11, 5] :: [5, 12] :: [13, 10] :: [14] :: [14] :: [15, 16, 14, 14] :: [17, 17, 14] :: [14, 18] :: [19, 18, 0, 1, 2, 3, 4, 5, 6, 7, 8, 9, 10, 11, 12, 13, 14, 15, 16, 17, 18, 19] :: []
def cstVs (A0 A1 A5 _A6 _A7 : Option Addr) (n0 c0 n1 c1 n5 c5 _n6 _c6 _n7 _c7 : Nat) (s0 s1 : Bool) (l0 l1 : List Int) : List (Value → World → Prop) := (isV (.agg #[.slice A0 n0 c0, .bool s0])) :: (isV (.agg #[.slice A1 n1 c1, .bool s1])) :: (isV (.bool true)) :: (isV (.bool true)) :: (isV (.bool true)) :: (isV (.bool true)) :: (isV (.agg #[.slice A0 n0 c0, .bool s0])) :: (isV (.agg #[.slice A1 n1 c1, .bool s1])) :: (isW (one1 (eqV (⟨l0, s0⟩ : V) (⟨l1, s1⟩ : V)))) :: (isV (.agg #[.slice A5 n5 c5, .bool false])) :: (isV (.bool true)) :: (isV (.bool true)) :: (isV (.bool true)) :: (isV (.bool true)) :: (isV (.bool true)) :: (isV (.agg #[.slice A0 n0 c0, .bool s0])) :: (isV (.agg #[.slice A1 n1 c1, .bool s1])) :: (isW (one1 (eqV (⟨l0, s0⟩ : V) (⟨l1, s1⟩ : V)))) :: (isV (.bool true)) :: (isV (.bool true)) :: (isV (.bool true)) :: []
instance (A0 A1 A5 A6 A7 : Option Addr) (n0 c0 n1 c1 n5 c5 n6 c6 n7 c7 : Nat) (s0 s1 : Bool) (l0 l1 : List Int) : StVs (cstVs A0 A1 A5 A6 A7 n0 c0 n1 c1 n5 c5 n6 c6 n7 c7 s0 s1 l0 l1) := by unfold cstVs; exact by repeat (first | exact stvs_nil | refine stvs_cons inferInstance ?_)
def csfDs : List (Option Tmp) := some 74 :: some 75 :: some 76 :: some 77 :: some 78 :: some 79 :: some 80 :: some 81 :: some 82 :: some 83 :: some 84 :: some 85 :: some 86 :: some 87 :: some 88 :: some 89 :: some 90 :: some 91 :: some 92 :: some 93 :: some 4 :: []
def csfDp : List (List Nat) := [] :: [] :: [0, 1] :: [] :: [2, 3] :: [4, 2] :: [5] :: [5] :: [6, 7, 5, 5] :: [5] :: [8, 9, 8, 5] :: [5] :: [10, 11, 5] :: [5, 12] :: [13, 10] :: [14] :: [14] :: [15, 16, 14, 14] :: [17, 17, 14] :: [14, 18] :: [19, 18, 0, 1, 2, 3, 4, 5, 6, 7, 8, 9, 10, 11, 12, 13, 14, 15, 16, 17, 18, 19] :: []
def csfVs (A0 A1 A5 _A6 _A7 : Option Addr) (n0 c0 n1 c1 n5 c5 _n6 _c6 _n7 _c7 : Nat) (s0 s1 : Bool) (l0 l1 : List Int) : List (Value → World → Prop) := (isV (.agg #[.slice A0 n0 c0, .bool s0])) :: (isV (.agg #[.slice A1 n1 c1, .bool s1])) :: (isV (.bool false)) :: (isV (.bool false)) :: (isV (.bool true)) :: (isV (.bool true)) :: (isV (.agg #[.slice A0 n0 c0, .bool s0])) :: (isV (.agg #[.slice A1 n1 c1, .bool s1])) :: (isW (one1 (eqV (⟨l0, s0⟩ : V) (⟨l1, s1⟩ : V)))) :: (isV (.agg #[.slice A5 n5 c5, .bool false])) :: (isV (.bool false)) :: (isV (.bool false)) :: (isV (.bool true)) :: (isV (.bool true)) :: (isV (.bool true)) :: (isV (.agg #[.slice A0 n0 c0, .bool s0])) :: (isV (.agg #[.slice A1 n1 c1, .bool s1])) :: (isW (one1 (eqV (⟨l0, s0⟩ : V) (⟨l1, s1⟩ : V)))) :: (isV (.bool true)) :: (isV (.bool true)) :: (isV (.bool true)) :: []
instance (A0 A1 A5 A6 A7 : Option Addr) (n0 c0 n1 c1 n5 c5 n6 c6 n7 c7 : Nat) (s0 s1 : Bool) (l0 l1 : List Int) : StVs (csfVs A0 A1 A5 A6 A7 n0 c0 n1 c1 n5 c5 n6 c6 n7 c7 s0 s1 l0 l1) := by unfold csfVs; exact by repeat (first | exact stvs_nil | refine stvs_cons inferInstance ?_)
set_option maxRecDepth 100000 in
set_option maxHeartbeats 16000000 in
theorem walk_VecCases (A0 : Option Addr) (n0 c0 : Nat) (s0 : Bool) (l0 : List Int) (A1 : Option Addr) (n1 c1 : Nat) (s1 : Bool) (l1 : List Int) (w : World) (h0 : Rb w A0 n0 l0) (_hc0 : n0 ≤ c0) (h1 : Rb w A1 n1 l1) (_hc1 : n1 ≤ c1) (TT : Tabs w) : Calls Tryd.prog 4 #[.agg #[.slice A0 n0 c0, .bool s0], .agg #[.slice A1 n1 c1, .bool s1]] w fun e w' => e = .returned (.bool true) ∧ Below w.heap.size w w' := by
  have O0 := ((Own.at1 w 24 #[.slice A0 n0 c0, .bool s0] (g := w.heap.size) (by simp)).alloc (.cells #[.slice A1 n1 c1, .bool s1] 24))
  have O1 := (Own.at1 (w.alloc (.cells #[.slice A0 n0 c0, .bool s0] 24)) 24 #[.slice A1 n1 c1, .bool s1] (g := w.heap.size + 1) (by simp))
  have BB := (below_new (below_new (Below.refl w.heap.size w) (.cells #[.slice A0 n0 c0, .bool s0] 24)) (.cells #[.slice A1 n1 c1, .bool s1] 24))
  have X2 := O0
  have X3 := O1
  clear O0
  clear O1
  have O2 := X2
  clear X2
  have O3 := X3
  clear X3
  replace TT := TT.step BB
  have r0 := h0.step BB
  have r1 := h1.step BB
  clear h0 h1
  replace BB := Lib.hid BB
  cases hl : lngB [n0, n1]
  · skip
    have hn := lng_no hl
    have hn0 : n0 ≤ 140 := hn n0 (by simp)
    have hn1 : n1 ≤ 140 := hn n1 (by simp)
    have HL := Lib.hid (long2_b _ A0 A1 n0 c0 n1 c1 s0 s1 hl)
    clear hl hn
    have q20 := O2.cell 0
    have q21 := O2.cell 1
    have q30 := O3.cell 0
    have q31 := O3.cell 1
    cases hE : mtB noW (⟨l0, s0⟩ : V) (⟨l1, s1⟩ : V)
    · cases hZ : mtB zW (⟨l0, s0⟩ : V) (⟨l1, s1⟩ : V)
      · cases hX : mtB unkB (⟨l0, s0⟩ : V) (⟨l1, s1⟩ : V)
        · skip
          go_enter Tryd.func4, Tryd.ntmps4
          go_wp2_with (first | (go_at_call 5; refine (HL.out _ _ (by simp)).mono ?_; rintro e wn ⟨rfl, rfl⟩; replace O2 := O2.alloc (.cells #[.slice A0 n0 c0, .bool s0, .slice A1 n1 c1, .bool s1] 24); replace O3 := O3.alloc (.cells #[.slice A0 n0 c0, .bool s0, .slice A1 n1 c1, .bool s1] 24); replace r0 := r0.alloc (.cells #[.slice A0 n0 c0, .bool s0, .slice A1 n1 c1, .bool s1] 24); replace r1 := r1.alloc (.cells #[.slice A0 n0 c0, .bool s0, .slice A1 n1 c1, .bool s1] 24); replace TT := TT.alloc (.cells #[.slice A0 n0 c0, .bool s0, .slice A1 n1 c1, .bool s1] 24); replace BB := Lib.hid (below_new BB.out (.cells #[.slice A0 n0 c0, .bool s0, .slice A1 n1 c1, .bool s1] 24))) | (go_at_call 6; refine (awake_any _ TT).mono ?_; rintro e wn ⟨rfl, hb⟩; have kb := hb; (try replace O2 := O2.step kb); (try replace O3 := O3.step kb); (try replace r0 := r0.step kb); (try replace r1 := r1.step kb); (try replace TT := TT.step kb); replace BB := Lib.hid (below_step BB.out kb); (try clear q20 q21); (try (have q20 := O2.cell 0; have q21 := O2.cell 1)); (try clear q30 q31); (try (have q30 := O3.cell 0; have q31 := O3.cell 1))) | (go_at_call 15; refine (of_w _ _ (by decide)).mono ?_; rintro e w5 ⟨A5, n5, c5, rfl, hc5, hn5, hv, hb⟩; have kb := hb; replace O2 := O2.step kb; replace O3 := O3.step kb; replace r0 := r0.step kb; replace r1 := r1.step kb; replace TT := TT.step kb; replace BB := Lib.hid (below_step BB.out kb); replace O2 := O2.alloc (.cells #[.slice A5 n5 c5, .bool false] 24); replace O3 := O3.alloc (.cells #[.slice A5 n5 c5, .bool false] 24); replace r0 := r0.alloc (.cells #[.slice A5 n5 c5, .bool false] 24); replace r1 := r1.alloc (.cells #[.slice A5 n5 c5, .bool false] 24); replace TT := TT.alloc (.cells #[.slice A5 n5 c5, .bool false] 24); replace BB := Lib.hid (below_new BB.out (.cells #[.slice A5 n5 c5, .bool false] 24)); have O5 := Own.new w5 24 #[.slice A5 n5 c5, .bool false]; have r5 := hv.rd.alloc (.cells #[.slice A5 n5 c5, .bool false] 24); clear hb kb hv))
          have hBase : w.heap.size ≤ w5.heap.size + 1 := by have := BB.out.size; simp at this; omega
          have hq3 : w.heap.size + 1 < w5.heap.size + 1 := by have := O3.lt; simpa using this
          refine region_l (by kernel_rfl) (fun u => owns w.heap.size #[.slice A0 n0 c0, .bool s0] u ∧ (owns (w.heap.size + 1) #[.slice A1 n1 c1, .bool s1] u ∧ (owns w5.heap.size #[.slice A5 n5 c5, .bool false] u ∧ (rds A0 n0 l0 u ∧ (rds A1 n1 l1 u ∧ (rds A5 n5 (ofL ⟨#[49]⟩) u ∧ (szW (w5.heap.size + 1) u ∧ (tbs u ∧ blw w u)))))))) [un (isV (.agg #[.slice A5 n5 c5, .bool false])), un (isV (.agg #[.slice A0 n0 c0, .bool s0])), un (isV (.agg #[.slice A1 n1 c1, .bool s1])), un (isW (condV (⟨(ofL ⟨#[49]⟩), false⟩ : V) (⟨l0, s0⟩ : V) (⟨l1, s1⟩ : V))), un (isW (⟨ofL ⟨#[48]⟩, false⟩ : V)), un (isV (.agg #[.slice A0 n0 c0, .bool s0])), un (isV (.agg #[.slice A1 n1 c1, .bool s1])), un (isW (condV (⟨ofL ⟨#[48]⟩, false⟩ : V) (⟨l0, s0⟩ : V) (⟨l1, s1⟩ : V))), un (isFr (w5.heap.size + 1)), un (isFr (w5.heap.size + 1)), filled (w5.heap.size + 1) (condV (⟨(ofL ⟨#[49]⟩), false⟩ : V) (⟨l0, s0⟩ : V) (⟨l1, s1⟩ : V)), filled (w5.heap.size + 1) (condV (⟨ofL ⟨#[48]⟩, false⟩ : V) (⟨l0, s0⟩ : V) (⟨l1, s1⟩ : V))] [some 19, some 20, some 21, some 22, some 23, some 24, some 25, some 26, some 6, some 7, none, none] [0, 1, 2, 3, 4, 5, 6, 7, 8, 9, 8, 9] [8, 9] [[], [], [], [0, 1, 2], [3], [], [], [4, 5, 6, 4], [], [], [8, 3, 7, 0, 1, 2, 3, 8, 9], [9, 7, 10, 0, 1, 2, 3, 4, 5, 6, 7, 8, 9, 10]] (by kernel_rfl) (by kernel_rfl) rfl (by kernel_rfl) (by kernel_rfl) (by kernel_rfl) (by kernel_rfl) ⟨O2.drew, O3.drew, O5.drew, r0.drew, r1.drew, r5.drew, (by simp [szW, World.drew]), TT.drew, below_drew BB.out⟩ ?_ ?_
          · refine ⟨?_, ?_, ?_, ?_, ?_, ?_, ?_, ?_, ?_, ?_, ?_, ?_, trivial⟩
            · intro a w' hS hO hF hD K hK
              have ha := hO 5 (by rfl)
              refine if_ok (by rfl) ?_
              refine wp_load_row 24 (.tmp 5) rfl w5.heap.size (ev ha) _ _ (0, 0) _ hS.2.2.1 Tryd.underlying24 rfl (by kernel_rfl) ?_
              exact hK _ w' (fun h => by cases h) (Nat.le_refl _) (fun h => absurd h (by decide)) hS (fun _ _ _ _ h => h) (fun V hV => by obtain rfl := Option.some.inj hV; exact rfl)
            · intro a w' hS hO hF hD K hK
              have ha := hO 2 (by rfl)
              refine if_ok (by rfl) ?_
              refine wp_load_row 24 (.tmp 2) rfl w.heap.size (ev ha) _ _ (0, 0) _ hS.1 Tryd.underlying24 rfl (by kernel_rfl) ?_
              exact hK _ w' (fun h => by cases h) (Nat.le_refl _) (fun h => absurd h (by decide)) hS (fun _ _ _ _ h => h) (fun V hV => by obtain rfl := Option.some.inj hV; exact rfl)
            · intro a w' hS hO hF hD K hK
              have ha := hO 3 (by rfl)
              refine if_ok (by rfl) ?_
              refine wp_load_row 24 (.tmp 3) rfl (w.heap.size + 1) (ev ha) _ _ (0, 0) _ hS.2.1 Tryd.underlying24 rfl (by kernel_rfl) ?_
              exact hK _ w' (fun h => by cases h) (Nat.le_refl _) (fun h => absurd h (by decide)) hS (fun _ _ _ _ h => h) (fun V hV => by obtain rfl := Option.some.inj hV; exact rfl)
            · intro a w' hS hO hF hD K hK
              have j0 := hF 0 rfl
              have f0 := j0.2 19 rfl
              rw [show valD _ _ 0 = _ from j0.1 _ rfl] at f0
              have j1 := hF 1 rfl
              have f1 := j1.2 20 rfl
              rw [show valD _ _ 1 = _ from j1.1 _ rfl] at f1
              have j2 := hF 2 rfl
              have f2 := j2.2 21 rfl
              rw [show valD _ _ 2 = _ from j2.1 _ rfl] at f2
              refine if_ok (by rfl) ?_
              refine wp_calls rfl (enters_of Tryd.func16 (by kernel_rfl) rfl) (args := #[(.agg #[.slice A5 n5 c5, .bool false]), (.agg #[.slice A0 n0 c0, .bool s0]), (.agg #[.slice A1 n1 c1, .bool s1])]) (by simp [Act.eval, f0, f1, f2]) ?_
              obtain ⟨O2, O3, O5, r0, r1, r5, BZ, TT, BB⟩ := id hS
              apply Calls.mono
              (with_reducible apply cond_any_w); (repeat (first | assumption | (with_reducible (apply Nb.rd; assumption)) | (with_reducible (apply Rb.at_later; assumption)) | (with_reducible (apply Tabs.at_later; assumption)) | (with_reducible apply Rb.alloc) | (with_reducible apply Tabs.alloc) | (with_reducible apply Rb.drew) | (with_reducible apply Tabs.drew) | (show I64 _; unfold I64; omega) | omega))
              rintro e w2 ⟨A, n, c, rfl, hc, hn, hv, hb⟩
              exact ⟨_, rfl, hK _ w2 (fun h => by cases h) hb.size (fun h => absurd h (by decide)) ((show Stb (fun u => owns w.heap.size #[.slice A0 n0 c0, .bool s0] u ∧ (owns (w.heap.size + 1) #[.slice A1 n1 c1, .bool s1] u ∧ (owns w5.heap.size #[.slice A5 n5 c5, .bool false] u ∧ (rds A0 n0 l0 u ∧ (rds A1 n1 l1 u ∧ (rds A5 n5 (ofL ⟨#[49]⟩) u ∧ (szW (w5.heap.size + 1) u ∧ (tbs u ∧ blw w u)))))))) from inferInstance).st _ _ hb hS) (keepL_below hb) (fun V hV => by obtain rfl := Option.some.inj hV; exact ⟨A, n, c, rfl, hc, hn, hv.rd⟩)⟩
            · intro a w' hS hO hF hD K hK
              refine if_ok (by rfl) ?_
              refine wp_calls rfl (enters_of Tryd.func15 (by kernel_rfl) rfl) (args := #[(.string ⟨#[48]⟩)]) (by simp [Act.eval]) ?_
              obtain ⟨O2, O3, O5, r0, r1, r5, BZ, TT, BB⟩ := id hS
              apply Calls.mono
              (with_reducible apply of_w); decide
              rintro e w2 ⟨A, n, c, rfl, hc, hn, hv, hb⟩
              exact ⟨_, rfl, hK _ w2 (fun h => by cases h) hb.size (fun h => absurd h (by decide)) ((show Stb (fun u => owns w.heap.size #[.slice A0 n0 c0, .bool s0] u ∧ (owns (w.heap.size + 1) #[.slice A1 n1 c1, .bool s1] u ∧ (owns w5.heap.size #[.slice A5 n5 c5, .bool false] u ∧ (rds A0 n0 l0 u ∧ (rds A1 n1 l1 u ∧ (rds A5 n5 (ofL ⟨#[49]⟩) u ∧ (szW (w5.heap.size + 1) u ∧ (tbs u ∧ blw w u)))))))) from inferInstance).st _ _ hb hS) (keepL_below hb) (fun V hV => by obtain rfl := Option.some.inj hV; exact ⟨A, n, c, rfl, hc, hn, hv.rd⟩)⟩
            · intro a w' hS hO hF hD K hK
              have ha := hO 2 (by rfl)
              refine if_ok (by rfl) ?_
              refine wp_load_row 24 (.tmp 2) rfl w.heap.size (ev ha) _ _ (0, 0) _ hS.1 Tryd.underlying24 rfl (by kernel_rfl) ?_
              exact hK _ w' (fun h => by cases h) (Nat.le_refl _) (fun h => absurd h (by decide)) hS (fun _ _ _ _ h => h) (fun V hV => by obtain rfl := Option.some.inj hV; exact rfl)
            · intro a w' hS hO hF hD K hK
              have ha := hO 3 (by rfl)
              refine if_ok (by rfl) ?_
              refine wp_load_row 24 (.tmp 3) rfl (w.heap.size + 1) (ev ha) _ _ (0, 0) _ hS.2.1 Tryd.underlying24 rfl (by kernel_rfl) ?_
              exact hK _ w' (fun h => by cases h) (Nat.le_refl _) (fun h => absurd h (by decide)) hS (fun _ _ _ _ h => h) (fun V hV => by obtain rfl := Option.some.inj hV; exact rfl)
            · intro a w' hS hO hF hD K hK
              have j0 := hF 4 rfl
              have f0 := j0.2 23 rfl
              obtain ⟨Ay0, ny0, cy0, e0, hc0, hn0, hr0⟩ := j0.1 _ rfl
              rw [e0] at f0
              have j1 := hF 5 rfl
              have f1 := j1.2 24 rfl
              rw [show valD _ _ 5 = _ from j1.1 _ rfl] at f1
              have j2 := hF 6 rfl
              have f2 := j2.2 25 rfl
              rw [show valD _ _ 6 = _ from j2.1 _ rfl] at f2
              refine if_ok (by rfl) ?_
              refine wp_calls rfl (enters_of Tryd.func16 (by kernel_rfl) rfl) (args := #[(.agg #[.slice Ay0 ny0 cy0, .bool (⟨ofL ⟨#[48]⟩, false⟩ : V).s]), (.agg #[.slice A0 n0 c0, .bool s0]), (.agg #[.slice A1 n1 c1, .bool s1])]) (by simp [Act.eval, f0, f1, f2]) ?_
              obtain ⟨O2, O3, O5, r0, r1, r5, BZ, TT, BB⟩ := id hS
              apply Calls.mono
              (with_reducible apply cond_any_w); (repeat (first | assumption | (with_reducible (apply Nb.rd; assumption)) | (with_reducible (apply Rb.at_later; assumption)) | (with_reducible (apply Tabs.at_later; assumption)) | (with_reducible apply Rb.alloc) | (with_reducible apply Tabs.alloc) | (with_reducible apply Rb.drew) | (with_reducible apply Tabs.drew) | (show I64 _; unfold I64; omega) | omega))
              rintro e w2 ⟨A, n, c, rfl, hc, hn, hv, hb⟩
              exact ⟨_, rfl, hK _ w2 (fun h => by cases h) hb.size (fun h => absurd h (by decide)) ((show Stb (fun u => owns w.heap.size #[.slice A0 n0 c0, .bool s0] u ∧ (owns (w.heap.size + 1) #[.slice A1 n1 c1, .bool s1] u ∧ (owns w5.heap.size #[.slice A5 n5 c5, .bool false] u ∧ (rds A0 n0 l0 u ∧ (rds A1 n1 l1 u ∧ (rds A5 n5 (ofL ⟨#[49]⟩) u ∧ (szW (w5.heap.size + 1) u ∧ (tbs u ∧ blw w u)))))))) from inferInstance).st _ _ hb hS) (keepL_below hb) (fun V hV => by obtain rfl := Option.some.inj hV; exact ⟨A, n, c, rfl, hc, hn, hv.rd⟩)⟩
            · intro a w' hS hO hF hD K hK
              refine if_ok (by rfl) ?_
              refine wp_alloc rfl ?_
              have hb := below_new (Below.refl w'.heap.size w') (.cells #[.slice none 0 0, .bool false] 24)
              have hBz := hS.2.2.2.2.2.2.1
              exact hK _ _ (fun h => by cases h) hb.size (fun _ => ⟨rfl, by simp⟩) ((show Stb (fun u => owns w.heap.size #[.slice A0 n0 c0, .bool s0] u ∧ (owns (w.heap.size + 1) #[.slice A1 n1 c1, .bool s1] u ∧ (owns w5.heap.size #[.slice A5 n5 c5, .bool false] u ∧ (rds A0 n0 l0 u ∧ (rds A1 n1 l1 u ∧ (rds A5 n5 (ofL ⟨#[49]⟩) u ∧ (szW (w5.heap.size + 1) u ∧ (tbs u ∧ blw w u)))))))) from inferInstance).st _ _ hb hS) (keepL_below hb) (fun V hV => by obtain rfl := Option.some.inj hV; exact ⟨_, rfl, hBz, _, _, _, _, Own.new w' 24 _⟩)
            · intro a w' hS hO hF hD K hK
              refine if_ok (by rfl) ?_
              refine wp_alloc rfl ?_
              have hb := below_new (Below.refl w'.heap.size w') (.cells #[.slice none 0 0, .bool false] 24)
              have hBz := hS.2.2.2.2.2.2.1
              exact hK _ _ (fun h => by cases h) hb.size (fun _ => ⟨rfl, by simp⟩) ((show Stb (fun u => owns w.heap.size #[.slice A0 n0 c0, .bool s0] u ∧ (owns (w.heap.size + 1) #[.slice A1 n1 c1, .bool s1] u ∧ (owns w5.heap.size #[.slice A5 n5 c5, .bool false] u ∧ (rds A0 n0 l0 u ∧ (rds A1 n1 l1 u ∧ (rds A5 n5 (ofL ⟨#[49]⟩) u ∧ (szW (w5.heap.size + 1) u ∧ (tbs u ∧ blw w u)))))))) from inferInstance).st _ _ hb hS) (keepL_below hb) (fun V hV => by obtain rfl := Option.some.inj hV; exact ⟨_, rfl, hBz, _, _, _, _, Own.new w' 24 _⟩)
            · intro a w' hS hO hF hD K hK
              have j0 := hF 3 rfl
              have f0 := j0.2 22 rfl
              obtain ⟨Ay0, ny0, cy0, e0, hc0, hn0, hr0⟩ := j0.1 _ rfl
              rw [e0] at f0
              have jp := hF 8 rfl
              have fp := jp.2 6 rfl
              obtain ⟨g, eg, hg, X, q1, q2, q3, O⟩ := jp.1 _ rfl
              have hgx := eg
              rw [eg] at fp
              have hB0 := hBase
              haveI : Over w g := ⟨Nat.le_trans (show w.heap.size ≤ _ from hB0) hg⟩
              haveI : Apart g w.heap.size := ⟨fun e => by subst e; have := hB0; omega⟩
              haveI : Apart g (w.heap.size + 1) := ⟨fun e => by subst e; have := hB0; omega⟩
              haveI : Apart g w5.heap.size := ⟨fun e => by subst e; have := hB0; omega⟩
              refine if_ok (by rfl) ?_
              refine wp_store_row _ _ _ rfl g _ (ev fp) (ev f0) _ _ O vec_size rfl (by simp [Value.oneCell']) ?_
              exact hK _ _ (fun _ => rfl) (by simp [World.setRow]) (fun h => absurd h (by decide)) ((show Sst g (fun u => owns w.heap.size #[.slice A0 n0 c0, .bool s0] u ∧ (owns (w.heap.size + 1) #[.slice A1 n1 c1, .bool s1] u ∧ (owns w5.heap.size #[.slice A5 n5 c5, .bool false] u ∧ (rds A0 n0 l0 u ∧ (rds A1 n1 l1 u ∧ (rds A5 n5 (ofL ⟨#[49]⟩) u ∧ (szW (w5.heap.size + 1) u ∧ (tbs u ∧ blw w u)))))))) from inferInstance).st _ _ _ _ _ _ O hS) (keepL_store O (fun j V hj hV => by
                match j, hj, hV with
                | 0, _, hV => obtain rfl := Option.some.inj hV; exact ssx_un
                | 1, _, hV => obtain rfl := Option.some.inj hV; exact ssx_un
                | 2, _, hV => obtain rfl := Option.some.inj hV; exact ssx_un
                | 3, _, hV => obtain rfl := Option.some.inj hV; exact ssx_un
                | 4, _, hV => obtain rfl := Option.some.inj hV; exact ssx_un
                | 5, _, hV => obtain rfl := Option.some.inj hV; exact ssx_un
                | 6, _, hV => obtain rfl := Option.some.inj hV; exact ssx_un
                | 7, _, hV => obtain rfl := Option.some.inj hV; exact ssx_un
                | 8, _, hV => obtain rfl := Option.some.inj hV; exact ssx_fr
                | 9, _, hV => obtain rfl := Option.some.inj hV; exact ssx_fr
                | 10, hj, _ => exact absurd rfl hj
                | 11, _, hV => obtain rfl := Option.some.inj hV; exact ssx_filled (fun e => hD 9 8 (by decide) rfl rfl rfl rfl (e.trans hgx.symm))
                | q + 12, _, hV => simp at hV)) (fun V hV => by obtain rfl := Option.some.inj hV; rw [if_neg (by decide)]; exact ⟨g, Ay0, ny0, cy0, hgx, hg, O.row, hc0, hn0, hr0.row O⟩)
            · intro a w' hS hO hF hD K hK
              have j0 := hF 7 rfl
              have f0 := j0.2 26 rfl
              obtain ⟨Ay0, ny0, cy0, e0, hc0, hn0, hr0⟩ := j0.1 _ rfl
              rw [e0] at f0
              have jp := hF 9 rfl
              have fp := jp.2 7 rfl
              obtain ⟨g, eg, hg, X, q1, q2, q3, O⟩ := jp.1 _ rfl
              have hgx := eg
              rw [eg] at fp
              have hB0 := hBase
              haveI : Over w g := ⟨Nat.le_trans (show w.heap.size ≤ _ from hB0) hg⟩
              haveI : Apart g w.heap.size := ⟨fun e => by subst e; have := hB0; omega⟩
              haveI : Apart g (w.heap.size + 1) := ⟨fun e => by subst e; have := hB0; omega⟩
              haveI : Apart g w5.heap.size := ⟨fun e => by subst e; have := hB0; omega⟩
              refine if_ok (by rfl) ?_
              refine wp_store_row _ _ _ rfl g _ (ev fp) (ev f0) _ _ O vec_size rfl (by simp [Value.oneCell']) ?_
              exact hK _ _ (fun _ => rfl) (by simp [World.setRow]) (fun h => absurd h (by decide)) ((show Sst g (fun u => owns w.heap.size #[.slice A0 n0 c0, .bool s0] u ∧ (owns (w.heap.size + 1) #[.slice A1 n1 c1, .bool s1] u ∧ (owns w5.heap.size #[.slice A5 n5 c5, .bool false] u ∧ (rds A0 n0 l0 u ∧ (rds A1 n1 l1 u ∧ (rds A5 n5 (ofL ⟨#[49]⟩) u ∧ (szW (w5.heap.size + 1) u ∧ (tbs u ∧ blw w u)))))))) from inferInstance).st _ _ _ _ _ _ O hS) (keepL_store O (fun j V hj hV => by
                match j, hj, hV with
                | 0, _, hV => obtain rfl := Option.some.inj hV; exact ssx_un
                | 1, _, hV => obtain rfl := Option.some.inj hV; exact ssx_un
                | 2, _, hV => obtain rfl := Option.some.inj hV; exact ssx_un
                | 3, _, hV => obtain rfl := Option.some.inj hV; exact ssx_un
                | 4, _, hV => obtain rfl := Option.some.inj hV; exact ssx_un
                | 5, _, hV => obtain rfl := Option.some.inj hV; exact ssx_un
                | 6, _, hV => obtain rfl := Option.some.inj hV; exact ssx_un
                | 7, _, hV => obtain rfl := Option.some.inj hV; exact ssx_un
                | 8, _, hV => obtain rfl := Option.some.inj hV; exact ssx_fr
                | 9, _, hV => obtain rfl := Option.some.inj hV; exact ssx_fr
                | 10, _, hV => obtain rfl := Option.some.inj hV; exact ssx_filled (fun e => hD 8 9 (by decide) rfl rfl rfl rfl (e.trans hgx.symm))
                | 11, hj, _ => exact absurd rfl hj
                | q + 12, _, hV => simp at hV)) (fun V hV => by obtain rfl := Option.some.inj hV; rw [if_neg (by decide)]; exact ⟨g, Ay0, ny0, cy0, hgx, hg, O.row, hc0, hn0, hr0.row O⟩)
          · intro vs u hl hS hV
            match vs, hl, hV with
            | [v0, v1, v2, v3, v4, v5, v6, v7, v8, v9, v10, v11], _, hV =>
              obtain ⟨g6, A6, n6, c6, e6, hB6, O6, hcc6, hnn6, r6⟩ := hV 10 _ rfl
              replace e6 : v8 = .pointer (some ⟨g6, 0, none⟩) := e6
              subst e6
              obtain ⟨g7, A7, n7, c7, e7, hB7, O7, hcc7, hnn7, r7⟩ := hV 11 _ rfl
              replace e7 : v9 = .pointer (some ⟨g7, 0, none⟩) := e7
              subst e7
              obtain rfl := hV 0 _ rfl
              obtain rfl := hV 1 _ rfl
              obtain rfl := hV 2 _ rfl
              obtain ⟨_, _, _, rfl, _, _, _⟩ := hV 3 _ rfl
              obtain ⟨_, _, _, rfl, _, _, _⟩ := hV 4 _ rfl
              obtain rfl := hV 5 _ rfl
              obtain rfl := hV 6 _ rfl
              obtain ⟨_, _, _, rfl, _, _, _⟩ := hV 7 _ rfl
              simp only [puts, Act.put, List.setIfInBounds_toArray, List.set_cons_zero, List.set_cons_succ]
              obtain ⟨O2, O3, O5, r0, r1, r5, BZ, TT, BB⟩ := hS
              clear hV
              replace O2 : Own u w.heap.size 24 #[.slice A0 n0 c0, .bool s0] := O2
              replace O3 : Own u (w.heap.size + 1) 24 #[.slice A1 n1 c1, .bool s1] := O3
              replace O5 : Own u w5.heap.size 24 #[.slice A5 n5 c5, .bool false] := O5
              replace r0 : Rb u A0 n0 l0 := r0
              replace r1 : Rb u A1 n1 l1 := r1
              replace r5 : Rb u A5 n5 (ofL ⟨#[49]⟩) := r5
              replace TT : Tabs u := TT
              replace BB : Below w.heap.size w u := BB
              go_wp2
              refine region_y (by kernel_rfl) (fun u => owns w.heap.size #[.slice A0 n0 c0, .bool s0] u ∧ (owns (w.heap.size + 1) #[.slice A1 n1 c1, .bool s1] u ∧ (owns w5.heap.size #[.slice A5 n5 c5, .bool false] u ∧ (owns g6 #[.slice A6 n6 c6, .bool (condV (⟨ofL ⟨#[49]⟩, false⟩ : V) (⟨l0, s0⟩ : V) (⟨l1, s1⟩ : V)).s] u ∧ (owns g7 #[.slice A7 n7 c7, .bool (condV (⟨ofL ⟨#[48]⟩, false⟩ : V) (⟨l0, s0⟩ : V) (⟨l1, s1⟩ : V)).s] u ∧ (rds A0 n0 l0 u ∧ (rds A1 n1 l1 u ∧ (rds A5 n5 (ofL ⟨#[49]⟩) u ∧ (rds A6 n6 (condV (⟨ofL ⟨#[49]⟩, false⟩ : V) (⟨l0, s0⟩ : V) (⟨l1, s1⟩ : V)).l u ∧ (rds A7 n7 (condV (⟨ofL ⟨#[48]⟩, false⟩ : V) (⟨l0, s0⟩ : V) (⟨l1, s1⟩ : V)).l u ∧ (tbs u ∧ blw w u))))))))))) [] [isV (.agg #[.slice A0 n0 c0, .bool s0]), isV (.agg #[.slice A1 n1 c1, .bool s1]), isW (one1 (fromI (mtB noW (⟨l0, s0⟩ : V) (⟨l1, s1⟩ : V)))), isV (.agg #[.slice A5 n5 c5, .bool false]), isV (.bool false), isV (.bool false)] [some 27, some 28, some 29, some 30, some 31, some 8] [[], [], [0, 1], [], [2, 3, 2], [4, 4, 0, 1, 2, 3, 4]] (by kernel_rfl) (by kernel_rfl) rfl (by kernel_rfl) (by kernel_rfl) (by kernel_rfl) ⟨O2.drew, O3.drew, O5.drew, O6.drew, O7.drew, r0.drew, r1.drew, r5.drew, r6.drew, r7.drew, TT.drew, below_drew BB⟩ (fun _ h => by cases h) ?_ ?_
              · refine ⟨?_, ?_, ?_, ?_, ?_, ?_, trivial⟩
                · intro a w' hS hO hF' hP K hK
                  have ha := hO 2 (by rfl)
                  refine if_ok (by rfl) ?_
                  refine wp_load_row 24 (.tmp 2) rfl w.heap.size (ev ha) _ _ (0, 0) _ hS.1 Tryd.underlying24 rfl (by kernel_rfl) ?_
                  exact hK _ w' (fun h => by cases h) (keep_same hS) rfl
                · intro a w' hS hO hF' hP K hK
                  have ha := hO 3 (by rfl)
                  refine if_ok (by rfl) ?_
                  refine wp_load_row 24 (.tmp 3) rfl (w.heap.size + 1) (ev ha) _ _ (0, 0) _ hS.2.1 Tryd.underlying24 rfl (by kernel_rfl) ?_
                  exact hK _ w' (fun h => by cases h) (keep_same hS) rfl
                · intro a w' hS hO hF' hP K hK
                  obtain ⟨_, f0, rfl⟩ := (hF' 0 rfl).1 27 _ rfl rfl
                  obtain ⟨_, f1, rfl⟩ := (hF' 1 rfl).1 28 _ rfl rfl
                  refine if_ok (by rfl) ?_
                  refine wp_calls rfl (enters_of Tryd.func17 (by kernel_rfl) rfl) (args := #[(.agg #[.slice A0 n0 c0, .bool s0]), (.agg #[.slice A1 n1 c1, .bool s1])]) (by simp [Act.eval, f0, f1]) ?_
                  obtain ⟨O2, O3, O5, O6, O7, r0, r1, r5, r6, r7, TT, BB⟩ := id hS
                  apply Calls.mono
                  (with_reducible apply caseEq_any_w); (repeat (first | assumption | (with_reducible (apply Nb.rd; assumption)) | (with_reducible (apply Rb.at_later; assumption)) | (with_reducible (apply Tabs.at_later; assumption)) | (with_reducible apply Rb.alloc) | (with_reducible apply Tabs.alloc) | (with_reducible apply Rb.drew) | (with_reducible apply Tabs.drew) | (show I64 _; unfold I64; omega) | omega))
                  rintro e w2 ⟨A, n, c, rfl, hc, hn, hv, hb⟩
                  exact ⟨_, rfl, hK _ w2 (fun h => by cases h) (keep_below hb hS) ⟨A, n, c, rfl, hc, hn, hv.rd⟩⟩
                · intro a w' hS hO hF' hP K hK
                  have ha := hO 5 (by rfl)
                  refine if_ok (by rfl) ?_
                  refine wp_load_row 24 (.tmp 5) rfl w5.heap.size (ev ha) _ _ (0, 0) _ hS.2.2.1 Tryd.underlying24 rfl (by kernel_rfl) ?_
                  exact hK _ w' (fun h => by cases h) (keep_same hS) rfl
                · intro a w' hS hO hF' hP K hK
                  obtain ⟨_, f0, Ay0, ny0, cy0, rfl, hc0, hn0, hr0⟩ := (hF' 2 rfl).1 29 _ rfl rfl
                  obtain ⟨_, f1, rfl⟩ := (hF' 3 rfl).1 30 _ rfl rfl
                  refine if_ok (by rfl) ?_
                  refine wp_calls rfl (enters_of Tryd.func10 (by kernel_rfl) rfl) (args := #[(.agg #[.slice Ay0 ny0 cy0, .bool (one1 (fromI (mtB noW (⟨l0, s0⟩ : V) (⟨l1, s1⟩ : V)))).s]), (.agg #[.slice A5 n5 c5, .bool false])]) (by simp [Act.eval, f0, f1]) ?_
                  obtain ⟨O2, O3, O5, O6, O7, r0, r1, r5, r6, r7, TT, BB⟩ := id hS
                  apply Calls.mono
                  (refine same_b (p := false) _ _ _ _ _ _ _ _ _ _ _ ?_ ?_ ?_ ?_ ((ce_same (⟨l0, s0⟩ : V) (⟨l1, s1⟩ : V)).trans hE)); (repeat (first | assumption | (with_reducible (apply Nb.rd; assumption)) | (with_reducible (apply Rb.at_later; assumption)) | (with_reducible (apply Tabs.at_later; assumption)) | (with_reducible apply Rb.alloc) | (with_reducible apply Tabs.alloc) | (with_reducible apply Rb.drew) | (with_reducible apply Tabs.drew) | (show I64 _; unfold I64; omega) | omega))
                  rintro e w2 ⟨rfl, hb⟩
                  exact ⟨_, rfl, hK _ w2 (fun h => by cases h) (keep_below hb hS) rfl⟩
                · intro a w' hS hO hF' hP K hK
                  obtain ⟨_, f0, rfl⟩ := (hF' 4 rfl).1 31 _ rfl rfl
                  refine if_ok (by rfl) ?_
                  unfold Oper.wp execOp
                  simp only [Sem.run_pure, ev f0]
                  exact hK _ w' (fun h => by cases h) (keep_same hS) rfl
              · intro vs u hl hS hV
                match vs, hl, hV with
                | [v0, v1, v2, v3, v4, v5], _, hV =>
                  obtain rfl := hV 0 _ rfl
                  obtain rfl := hV 1 _ rfl
                  obtain rfl := hV 3 _ rfl
                  obtain rfl := hV 4 _ rfl
                  obtain rfl := hV 5 _ rfl
                  simp only [puts, Act.put, List.setIfInBounds_toArray, List.set_cons_zero, List.set_cons_succ]
                  obtain ⟨O2, O3, O5, O6, O7, r0, r1, r5, r6, r7, TT, BB⟩ := hS
                  clear hV
                  replace O2 : Own u w.heap.size 24 #[.slice A0 n0 c0, .bool s0] := O2
                  replace O3 : Own u (w.heap.size + 1) 24 #[.slice A1 n1 c1, .bool s1] := O3
                  replace O5 : Own u w5.heap.size 24 #[.slice A5 n5 c5, .bool false] := O5
                  replace O6 : Own u g6 24 #[.slice A6 n6 c6, .bool (condV (⟨ofL ⟨#[49]⟩, false⟩ : V) (⟨l0, s0⟩ : V) (⟨l1, s1⟩ : V)).s] := O6
                  replace O7 : Own u g7 24 #[.slice A7 n7 c7, .bool (condV (⟨ofL ⟨#[48]⟩, false⟩ : V) (⟨l0, s0⟩ : V) (⟨l1, s1⟩ : V)).s] := O7
                  replace r0 : Rb u A0 n0 l0 := r0
                  replace r1 : Rb u A1 n1 l1 := r1
                  replace r5 : Rb u A5 n5 (ofL ⟨#[49]⟩) := r5
                  replace r6 : Rb u A6 n6 (condV (⟨ofL ⟨#[49]⟩, false⟩ : V) (⟨l0, s0⟩ : V) (⟨l1, s1⟩ : V)).l := r6
                  replace r7 : Rb u A7 n7 (condV (⟨ofL ⟨#[48]⟩, false⟩ : V) (⟨l0, s0⟩ : V) (⟨l1, s1⟩ : V)).l := r7
                  replace TT : Tabs u := TT
                  replace BB : Below w.heap.size w u := BB
                  go_wp2
                  refine region_y (by kernel_rfl) (fun u => owns w.heap.size #[.slice A0 n0 c0, .bool s0] u ∧ (owns (w.heap.size + 1) #[.slice A1 n1 c1, .bool s1] u ∧ (owns w5.heap.size #[.slice A5 n5 c5, .bool false] u ∧ (owns g6 #[.slice A6 n6 c6, .bool (condV (⟨ofL ⟨#[49]⟩, false⟩ : V) (⟨l0, s0⟩ : V) (⟨l1, s1⟩ : V)).s] u ∧ (owns g7 #[.slice A7 n7 c7, .bool (condV (⟨ofL ⟨#[48]⟩, false⟩ : V) (⟨l0, s0⟩ : V) (⟨l1, s1⟩ : V)).s] u ∧ (rds A0 n0 l0 u ∧ (rds A1 n1 l1 u ∧ (rds A5 n5 (ofL ⟨#[49]⟩) u ∧ (rds A6 n6 (condV (⟨ofL ⟨#[49]⟩, false⟩ : V) (⟨l0, s0⟩ : V) (⟨l1, s1⟩ : V)).l u ∧ (rds A7 n7 (condV (⟨ofL ⟨#[48]⟩, false⟩ : V) (⟨l0, s0⟩ : V) (⟨l1, s1⟩ : V)).l u ∧ (tbs u ∧ blw w u))))))))))) [] [isV (.bool false), isV (.agg #[.slice A6 n6 c6, .bool (condV (⟨ofL ⟨#[49]⟩, false⟩ : V) (⟨l0, s0⟩ : V) (⟨l1, s1⟩ : V)).s]), isV (.agg #[.slice A7 n7 c7, .bool (condV (⟨ofL ⟨#[48]⟩, false⟩ : V) (⟨l0, s0⟩ : V) (⟨l1, s1⟩ : V)).s]), isV (.bool false), isV (.bool false), isV (.bool false), isV (.agg #[.slice A0 n0 c0, .bool s0]), isV (.agg #[.slice A1 n1 c1, .bool s1]), isW (one1 (notI (fromI (mtB noW (⟨l0, s0⟩ : V) (⟨l1, s1⟩ : V))))), isV (.agg #[.slice A5 n5 c5, .bool false]), isV (.bool true), isV (.bool false), isV (.bool false), isV (.bool false), isV (.bool false), isV (.bool false), isV (.bool false), isV undef, isV undef, isV undef, isV undef, isV (.bool false), isV (.bool false), isV (.bool false), isV (.agg #[.slice A0 n0 c0, .bool s0]), isV (.agg #[.slice A1 n1 c1, .bool s1]), isV (.bool false), isV (.bool false), isV undef, isV undef, isV undef, isV undef, isV (.bool false), isV (.bool false)] [some 32, some 33, some 34, some 35, some 36, some 37, some 38, some 39, some 40, some 41, some 42, some 43, some 44, some 45, some 46, some 47, some 48, some 49, some 50, some 51, some 52, some 53, some 54, some 55, some 56, some 57, some 58, some 59, some 60, some 61, some 62, some 63, some 64, some 65] [[], [], [], [1, 2], [0, 3], [4, 3], [5], [5], [6, 7, 5, 5], [5], [8, 9, 8, 5], [5], [10, 11, 5], [5, 12], [13, 10], [14], [15, 14, 14], [16], [16], [17, 18, 16, 16], [19, 16], [16, 20, 14], [14, 21], [22, 19], [23], [23], [24, 25, 23, 23], [26, 26, 23], [27], [27], [28, 29, 27, 27], [30, 27], [27, 31, 23], [23, 32]] (by kernel_rfl) (by kernel_rfl) rfl (by kernel_rfl) (by kernel_rfl) (by kernel_rfl) ⟨O2.drew, O3.drew, O5.drew, O6.drew, O7.drew, r0.drew, r1.drew, r5.drew, r6.drew, r7.drew, TT.drew, below_drew BB⟩ (fun _ h => by cases h) ?_ ?_
                  · refine ⟨?_, ?_, ?_, ?_, ?_, ?_, ?_, ?_, ?_, ?_, ?_, ?_, ?_, ?_, ?_, ?_, ?_, ?_, ?_, ?_, ?_, ?_, ?_, ?_, ?_, ?_, ?_, ?_, ?_, ?_, ?_, ?_, ?_, ?_, trivial⟩
                    · intro a w' hS hO hF' hP K hK
                      have f0 := hO 8 (by rfl)
                      refine if_ok (by rfl) ?_
                      unfold Oper.wp execOp
                      simp only [Sem.run_pure, ev f0]
                      exact hK _ w' (fun h => by cases h) (keep_same hS) rfl
                    · intro a w' hS hO hF' hP K hK
                      have ha := hO 6 (by rfl)
                      refine if_ok (by rfl) ?_
                      refine wp_load_row 24 (.tmp 6) rfl g6 (ev ha) _ _ (0, 0) _ hS.2.2.2.1 Tryd.underlying24 rfl (by kernel_rfl) ?_
                      exact hK _ w' (fun h => by cases h) (keep_same hS) rfl
                    · intro a w' hS hO hF' hP K hK
                      have ha := hO 7 (by rfl)
                      refine if_ok (by rfl) ?_
                      refine wp_load_row 24 (.tmp 7) rfl g7 (ev ha) _ _ (0, 0) _ hS.2.2.2.2.1 Tryd.underlying24 rfl (by kernel_rfl) ?_
                      exact hK _ w' (fun h => by cases h) (keep_same hS) rfl
                    · intro a w' hS hO hF' hP K hK
                      obtain ⟨_, f0, rfl⟩ := (hF' 1 rfl).1 33 _ rfl rfl
                      obtain ⟨_, f1, rfl⟩ := (hF' 2 rfl).1 34 _ rfl rfl
                      refine if_ok (by rfl) ?_
                      refine wp_calls rfl (enters_of Tryd.func10 (by kernel_rfl) rfl) (args := #[(.agg #[.slice A6 n6 c6, .bool (condV (⟨ofL ⟨#[49]⟩, false⟩ : V) (⟨l0, s0⟩ : V) (⟨l1, s1⟩ : V)).s]), (.agg #[.slice A7 n7 c7, .bool (condV (⟨ofL ⟨#[48]⟩, false⟩ : V) (⟨l0, s0⟩ : V) (⟨l1, s1⟩ : V)).s])]) (by simp [Act.eval, f0, f1]) ?_
                      obtain ⟨O2, O3, O5, O6, O7, r0, r1, r5, r6, r7, TT, BB⟩ := id hS
                      apply Calls.mono
                      (refine same_b (p := false) _ _ _ _ _ _ _ _ _ _ _ ?_ ?_ ?_ ?_ ((cond_same (⟨l0, s0⟩ : V) (⟨l1, s1⟩ : V)).trans hE)); (repeat (first | assumption | (with_reducible (apply Nb.rd; assumption)) | (with_reducible (apply Rb.at_later; assumption)) | (with_reducible (apply Tabs.at_later; assumption)) | (with_reducible apply Rb.alloc) | (with_reducible apply Tabs.alloc) | (with_reducible apply Rb.drew) | (with_reducible apply Tabs.drew) | (show I64 _; unfold I64; omega) | omega))
                      rintro e w2 ⟨rfl, hb⟩
                      exact ⟨_, rfl, hK _ w2 (fun h => by cases h) (keep_below hb hS) rfl⟩
                    · intro a w' hS hO hF' hP K hK
                      obtain ⟨_, f0, rfl⟩ := (hF' 0 rfl).1 32 _ rfl rfl
                      obtain ⟨_, f1, rfl⟩ := (hF' 3 rfl).1 35 _ rfl rfl
                      refine if_ok (by rfl) ?_
                      refine wp_val (w' := w') (q := .bool false) (by unfold execOp; simp only [(ev f0), (ev f1)]; simp [go_sem]) ?_
                      exact hK _ w' (fun h => by cases h) (keep_same hS) rfl
                    · intro a w' hS hO hF' hP K hK
                      obtain ⟨_, f0, rfl⟩ := (hF' 4 rfl).1 36 _ rfl rfl
                      refine if_ok (by rfl) ?_
                      unfold Oper.wp execOp
                      simp only [Sem.run_pure, ev f0]
                      exact hK _ w' (fun h => by cases h) (keep_same hS) rfl
                    · intro a w' hS hO hF' hP K hK
                      obtain ⟨_, fg, rfl⟩ := (hF' 5 rfl).1 37 _ rfl rfl
                      have ha := hO 2 (by rfl)
                      refine if_wanted (by rfl) (yield_of (by rfl) fg) ?_
                      refine wp_load_row 24 (.tmp 2) rfl w.heap.size (ev ha) _ _ (0, 0) _ hS.1 Tryd.underlying24 rfl (by kernel_rfl) ?_
                      exact hK _ w' (fun h => by cases h) (keep_same hS) rfl
                    · intro a w' hS hO hF' hP K hK
                      obtain ⟨_, fg, rfl⟩ := (hF' 5 rfl).1 37 _ rfl rfl
                      have ha := hO 3 (by rfl)
                      refine if_wanted (by rfl) (yield_of (by rfl) fg) ?_
                      refine wp_load_row 24 (.tmp 3) rfl (w.heap.size + 1) (ev ha) _ _ (0, 0) _ hS.2.1 Tryd.underlying24 rfl (by kernel_rfl) ?_
                      exact hK _ w' (fun h => by cases h) (keep_same hS) rfl
                    · intro a w' hS hO hF' hP K hK
                      obtain ⟨_, fg, rfl⟩ := (hF' 5 rfl).1 37 _ rfl rfl
                      obtain ⟨_, f0, rfl⟩ := (hF' 6 rfl).1 38 _ rfl rfl
                      obtain ⟨_, f1, rfl⟩ := (hF' 7 rfl).1 39 _ rfl rfl
                      refine if_wanted (by rfl) (yield_of (by rfl) fg) ?_
                      refine wp_calls rfl (enters_of Tryd.func18 (by kernel_rfl) rfl) (args := #[(.agg #[.slice A0 n0 c0, .bool s0]), (.agg #[.slice A1 n1 c1, .bool s1])]) (by simp [Act.eval, f0, f1]) ?_
                      obtain ⟨O2, O3, O5, O6, O7, r0, r1, r5, r6, r7, TT, BB⟩ := id hS
                      apply Calls.mono
                      (with_reducible apply caseNe_any_w); (repeat (first | assumption | (with_reducible (apply Nb.rd; assumption)) | (with_reducible (apply Rb.at_later; assumption)) | (with_reducible (apply Tabs.at_later; assumption)) | (with_reducible apply Rb.alloc) | (with_reducible apply Tabs.alloc) | (with_reducible apply Rb.drew) | (with_reducible apply Tabs.drew) | (show I64 _; unfold I64; omega) | omega))
                      rintro e w2 ⟨A, n, c, rfl, hc, hn, hv, hb⟩
                      exact ⟨_, rfl, hK _ w2 (fun h => by cases h) (keep_below hb hS) ⟨A, n, c, rfl, hc, hn, hv.rd⟩⟩
                    · intro a w' hS hO hF' hP K hK
                      obtain ⟨_, fg, rfl⟩ := (hF' 5 rfl).1 37 _ rfl rfl
                      have ha := hO 5 (by rfl)
                      refine if_wanted (by rfl) (yield_of (by rfl) fg) ?_
                      refine wp_load_row 24 (.tmp 5) rfl w5.heap.size (ev ha) _ _ (0, 0) _ hS.2.2.1 Tryd.underlying24 rfl (by kernel_rfl) ?_
                      exact hK _ w' (fun h => by cases h) (keep_same hS) rfl
                    · intro a w' hS hO hF' hP K hK
                      obtain ⟨_, fg, rfl⟩ := (hF' 5 rfl).1 37 _ rfl rfl
                      obtain ⟨_, f0, Ay0, ny0, cy0, rfl, hc0, hn0, hr0⟩ := (hF' 8 rfl).1 40 _ rfl rfl
                      obtain ⟨_, f1, rfl⟩ := (hF' 9 rfl).1 41 _ rfl rfl
                      refine if_wanted (by rfl) (yield_of (by rfl) fg) ?_
                      refine wp_calls rfl (enters_of Tryd.func10 (by kernel_rfl) rfl) (args := #[(.agg #[.slice Ay0 ny0 cy0, .bool (one1 (notI (fromI (mtB noW (⟨l0, s0⟩ : V) (⟨l1, s1⟩ : V))))).s]), (.agg #[.slice A5 n5 c5, .bool false])]) (by simp [Act.eval, f0, f1]) ?_
                      obtain ⟨O2, O3, O5, O6, O7, r0, r1, r5, r6, r7, TT, BB⟩ := id hS
                      apply Calls.mono
                      (refine same_b (p := true) _ _ _ _ _ _ _ _ _ _ _ ?_ ?_ ?_ ?_ ((by rw [ne_same, hE]; rfl))); (repeat (first | assumption | (with_reducible (apply Nb.rd; assumption)) | (with_reducible (apply Rb.at_later; assumption)) | (with_reducible (apply Tabs.at_later; assumption)) | (with_reducible apply Rb.alloc) | (with_reducible apply Tabs.alloc) | (with_reducible apply Rb.drew) | (with_reducible apply Tabs.drew) | (show I64 _; unfold I64; omega) | omega))
                      rintro e w2 ⟨rfl, hb⟩
                      exact ⟨_, rfl, hK _ w2 (fun h => by cases h) (keep_below hb hS) rfl⟩
                    · intro a w' hS hO hF' hP K hK
                      obtain ⟨_, fg, rfl⟩ := (hF' 5 rfl).1 37 _ rfl rfl
                      have f0 := hO 8 (by rfl)
                      refine if_wanted (by rfl) (yield_of (by rfl) fg) ?_
                      unfold Oper.wp execOp
                      simp only [Sem.run_pure, ev f0]
                      exact hK _ w' (fun h => by cases h) (keep_same hS) rfl
                    · intro a w' hS hO hF' hP K hK
                      obtain ⟨_, fg, rfl⟩ := (hF' 5 rfl).1 37 _ rfl rfl
                      obtain ⟨_, f0, rfl⟩ := (hF' 10 rfl).1 42 _ rfl rfl
                      obtain ⟨_, f1, rfl⟩ := (hF' 11 rfl).1 43 _ rfl rfl
                      refine if_wanted (by rfl) (yield_of (by rfl) fg) ?_
                      refine wp_val (w' := w') (q := .bool false) (by unfold execOp; simp only [(ev f0), (ev f1)]; simp [go_sem]) ?_
                      exact hK _ w' (fun h => by cases h) (keep_same hS) rfl
                    · intro a w' hS hO hF' hP K hK
                      obtain ⟨_, f0, rfl⟩ := (hF' 5 rfl).1 37 _ rfl rfl
                      obtain ⟨_, f1, rfl⟩ := (hF' 12 rfl).1 44 _ rfl rfl
                      refine if_ok (by rfl) ?_
                      refine wp_pick_or _ _ _ rfl (ev f0) (ev f1) ?_
                      exact hK _ w' (fun h => by cases h) (keep_same hS) rfl
                    · intro a w' hS hO hF' hP K hK
                      obtain ⟨_, f0, rfl⟩ := (hF' 13 rfl).1 45 _ rfl rfl
                      refine if_ok (by rfl) ?_
                      unfold Oper.wp execOp
                      simp only [Sem.run_pure, ev f0]
                      exact hK _ w' (fun h => by cases h) (keep_same hS) rfl
                    · intro a w' hS hO hF' hP K hK
                      obtain ⟨_, fg, rfl⟩ := (hF' 14 rfl).1 46 _ rfl rfl
                      have f0 := hO 8 (by rfl)
                      refine if_wanted (by rfl) (yield_of (by rfl) fg) ?_
                      unfold Oper.wp execOp
                      simp only [Sem.run_pure, ev f0]
                      exact hK _ w' (fun h => by cases h) (keep_same hS) rfl
                    · intro a w' hS hO hF' hP K hK
                      obtain ⟨_, fg, rfl⟩ := (hF' 14 rfl).1 46 _ rfl rfl
                      obtain ⟨_, f0, rfl⟩ := (hF' 15 rfl).1 47 _ rfl rfl
                      refine if_wanted (by rfl) (yield_of (by rfl) fg) ?_
                      unfold Oper.wp execOp
                      simp only [Sem.run_pure, ev f0]
                      exact hK _ w' (fun h => by cases h) (keep_same hS) rfl
                    · intro a w' hS hO hF' hP K hK
                      obtain ⟨_, fg, rfl⟩ := (hF' 16 rfl).1 48 _ rfl rfl
                      refine if_unwanted (by rfl) (yield_of (by rfl) fg) ?_
                      exact hK _ w' (fun h => by cases h) (keep_same hS) rfl
                    · intro a w' hS hO hF' hP K hK
                      obtain ⟨_, fg, rfl⟩ := (hF' 16 rfl).1 48 _ rfl rfl
                      refine if_unwanted (by rfl) (yield_of (by rfl) fg) ?_
                      exact hK _ w' (fun h => by cases h) (keep_same hS) rfl
                    · intro a w' hS hO hF' hP K hK
                      obtain ⟨_, fg, rfl⟩ := (hF' 16 rfl).1 48 _ rfl rfl
                      refine if_unwanted (by rfl) (yield_of (by rfl) fg) ?_
                      exact hK _ w' (fun h => by cases h) (keep_same hS) rfl
                    · intro a w' hS hO hF' hP K hK
                      obtain ⟨_, fg, rfl⟩ := (hF' 16 rfl).1 48 _ rfl rfl
                      refine if_unwanted (by rfl) (yield_of (by rfl) fg) ?_
                      exact hK _ w' (fun h => by cases h) (keep_same hS) rfl
                    · intro a w' hS hO hF' hP K hK
                      obtain ⟨_, fg, rfl⟩ := (hF' 14 rfl).1 46 _ rfl rfl
                      obtain ⟨_, f0, rfl⟩ := (hF' 16 rfl).1 48 _ rfl rfl
                      refine if_wanted (by rfl) (yield_of (by rfl) fg) ?_
                      refine wp_pick_or _ _ _ rfl (ev f0) rfl ?_
                      exact hK _ w' (fun h => by cases h) (keep_same hS) rfl
                    · intro a w' hS hO hF' hP K hK
                      obtain ⟨_, f0, rfl⟩ := (hF' 14 rfl).1 46 _ rfl rfl
                      obtain ⟨_, f1, rfl⟩ := (hF' 21 rfl).1 53 _ rfl rfl
                      refine if_ok (by rfl) ?_
                      refine wp_pick_or _ _ _ rfl (ev f0) (ev f1) ?_
                      exact hK _ w' (fun h => by cases h) (keep_same hS) rfl
                    · intro a w' hS hO hF' hP K hK
                      obtain ⟨_, f0, rfl⟩ := (hF' 22 rfl).1 54 _ rfl rfl
                      refine if_ok (by rfl) ?_
                      unfold Oper.wp execOp
                      simp only [Sem.run_pure, ev f0]
                      exact hK _ w' (fun h => by cases h) (keep_same hS) rfl
                    · intro a w' hS hO hF' hP K hK
                      obtain ⟨_, fg, rfl⟩ := (hF' 23 rfl).1 55 _ rfl rfl
                      have ha := hO 2 (by rfl)
                      refine if_wanted (by rfl) (yield_of (by rfl) fg) ?_
                      refine wp_load_row 24 (.tmp 2) rfl w.heap.size (ev ha) _ _ (0, 0) _ hS.1 Tryd.underlying24 rfl (by kernel_rfl) ?_
                      exact hK _ w' (fun h => by cases h) (keep_same hS) rfl
                    · intro a w' hS hO hF' hP K hK
                      obtain ⟨_, fg, rfl⟩ := (hF' 23 rfl).1 55 _ rfl rfl
                      have ha := hO 3 (by rfl)
                      refine if_wanted (by rfl) (yield_of (by rfl) fg) ?_
                      refine wp_load_row 24 (.tmp 3) rfl (w.heap.size + 1) (ev ha) _ _ (0, 0) _ hS.2.1 Tryd.underlying24 rfl (by kernel_rfl) ?_
                      exact hK _ w' (fun h => by cases h) (keep_same hS) rfl
                    · intro a w' hS hO hF' hP K hK
                      obtain ⟨_, fg, rfl⟩ := (hF' 23 rfl).1 55 _ rfl rfl
                      obtain ⟨_, f0, rfl⟩ := (hF' 24 rfl).1 56 _ rfl rfl
                      obtain ⟨_, f1, rfl⟩ := (hF' 25 rfl).1 57 _ rfl rfl
                      refine if_wanted (by rfl) (yield_of (by rfl) fg) ?_
                      refine wp_calls rfl (enters_of Tryd.func19 (by kernel_rfl) rfl) (args := #[(.agg #[.slice A0 n0 c0, .bool s0]), (.agg #[.slice A1 n1 c1, .bool s1])]) (by simp [Act.eval, f0, f1]) ?_
                      obtain ⟨O2, O3, O5, O6, O7, r0, r1, r5, r6, r7, TT, BB⟩ := id hS
                      apply Calls.mono
                      (with_reducible apply matchZ_b (p := false)); (repeat (first | assumption | (with_reducible (apply Nb.rd; assumption)) | (with_reducible (apply Rb.at_later; assumption)) | (with_reducible (apply Tabs.at_later; assumption)) | (with_reducible apply Rb.alloc) | (with_reducible apply Tabs.alloc) | (with_reducible apply Rb.drew) | (with_reducible apply Tabs.drew) | (show I64 _; unfold I64; omega) | omega)); (try exact hZ)
                      rintro e w2 ⟨rfl, hb⟩
                      exact ⟨_, rfl, hK _ w2 (fun h => by cases h) (keep_below hb hS) rfl⟩
                    · intro a w' hS hO hF' hP K hK
                      obtain ⟨_, fg, rfl⟩ := (hF' 23 rfl).1 55 _ rfl rfl
                      obtain ⟨_, f0, rfl⟩ := (hF' 26 rfl).1 58 _ rfl rfl
                      refine if_wanted (by rfl) (yield_of (by rfl) fg) ?_
                      unfold Oper.wp execOp
                      simp only [Sem.run_pure, ev f0]
                      exact hK _ w' (fun h => by cases h) (keep_same hS) rfl
                    · intro a w' hS hO hF' hP K hK
                      obtain ⟨_, fg, rfl⟩ := (hF' 27 rfl).1 59 _ rfl rfl
                      refine if_unwanted (by rfl) (yield_of (by rfl) fg) ?_
                      exact hK _ w' (fun h => by cases h) (keep_same hS) rfl
                    · intro a w' hS hO hF' hP K hK
                      obtain ⟨_, fg, rfl⟩ := (hF' 27 rfl).1 59 _ rfl rfl
                      refine if_unwanted (by rfl) (yield_of (by rfl) fg) ?_
                      exact hK _ w' (fun h => by cases h) (keep_same hS) rfl
                    · intro a w' hS hO hF' hP K hK
                      obtain ⟨_, fg, rfl⟩ := (hF' 27 rfl).1 59 _ rfl rfl
                      refine if_unwanted (by rfl) (yield_of (by rfl) fg) ?_
                      exact hK _ w' (fun h => by cases h) (keep_same hS) rfl
                    · intro a w' hS hO hF' hP K hK
                      obtain ⟨_, fg, rfl⟩ := (hF' 27 rfl).1 59 _ rfl rfl
                      refine if_unwanted (by rfl) (yield_of (by rfl) fg) ?_
                      exact hK _ w' (fun h => by cases h) (keep_same hS) rfl
                    · intro a w' hS hO hF' hP K hK
                      obtain ⟨_, fg, rfl⟩ := (hF' 23 rfl).1 55 _ rfl rfl
                      obtain ⟨_, f0, rfl⟩ := (hF' 27 rfl).1 59 _ rfl rfl
                      refine if_wanted (by rfl) (yield_of (by rfl) fg) ?_
                      refine wp_pick_or _ _ _ rfl (ev f0) rfl ?_
                      exact hK _ w' (fun h => by cases h) (keep_same hS) rfl
                    · intro a w' hS hO hF' hP K hK
                      obtain ⟨_, f0, rfl⟩ := (hF' 23 rfl).1 55 _ rfl rfl
                      obtain ⟨_, f1, rfl⟩ := (hF' 32 rfl).1 64 _ rfl rfl
                      refine if_ok (by rfl) ?_
                      refine wp_pick_or _ _ _ rfl (ev f0) (ev f1) ?_
                      exact hK _ w' (fun h => by cases h) (keep_same hS) rfl
                  · intro vs u hl hS hV
                    match vs, hl, hV with
                    | v0 :: v1 :: v2 :: v3 :: v4 :: v5 :: v6 :: v7 :: v8 :: v9 :: v10 :: v11 :: v12 :: v13 :: v14 :: v15 :: v16 :: v17 :: v18 :: v19 :: v20 :: v21 :: v22 :: v23 :: v24 :: v25 :: v26 :: v27 :: v28 :: v29 :: v30 :: v31 :: v32 :: v33 :: [], _, hV =>
                      obtain rfl := hV 0 _ rfl
                      obtain rfl := hV 1 _ rfl
                      obtain rfl := hV 2 _ rfl
                      obtain rfl := hV 3 _ rfl
                      obtain rfl := hV 4 _ rfl
                      obtain rfl := hV 5 _ rfl
                      obtain rfl := hV 6 _ rfl
                      obtain rfl := hV 7 _ rfl
                      obtain rfl := hV 9 _ rfl
                      obtain rfl := hV 10 _ rfl
                      obtain rfl := hV 11 _ rfl
                      obtain rfl := hV 12 _ rfl
                      obtain rfl := hV 13 _ rfl
                      obtain rfl := hV 14 _ rfl
                      obtain rfl := hV 15 _ rfl
                      obtain rfl := hV 16 _ rfl
                      obtain rfl := hV 17 _ rfl
                      obtain rfl := hV 18 _ rfl
                      obtain rfl := hV 19 _ rfl
                      obtain rfl := hV 20 _ rfl
                      obtain rfl := hV 21 _ rfl
                      obtain rfl := hV 22 _ rfl
                      obtain rfl := hV 23 _ rfl
                      obtain rfl := hV 24 _ rfl
                      obtain rfl := hV 25 _ rfl
                      obtain rfl := hV 26 _ rfl
                      obtain rfl := hV 27 _ rfl
                      obtain rfl := hV 28 _ rfl
                      obtain rfl := hV 29 _ rfl
                      obtain rfl := hV 30 _ rfl
                      obtain rfl := hV 31 _ rfl
                      obtain rfl := hV 32 _ rfl
                      obtain rfl := hV 33 _ rfl
                      simp only [puts, Act.put, List.setIfInBounds_toArray, List.set_cons_zero, List.set_cons_succ]
                      obtain ⟨O2, O3, O5, O6, O7, r0, r1, r5, r6, r7, TT, BB⟩ := hS
                      clear hV
                      replace O2 : Own u w.heap.size 24 #[.slice A0 n0 c0, .bool s0] := O2
                      replace O3 : Own u (w.heap.size + 1) 24 #[.slice A1 n1 c1, .bool s1] := O3
                      replace O5 : Own u w5.heap.size 24 #[.slice A5 n5 c5, .bool false] := O5
                      replace O6 : Own u g6 24 #[.slice A6 n6 c6, .bool (condV (⟨ofL ⟨#[49]⟩, false⟩ : V) (⟨l0, s0⟩ : V) (⟨l1, s1⟩ : V)).s] := O6
                      replace O7 : Own u g7 24 #[.slice A7 n7 c7, .bool (condV (⟨ofL ⟨#[48]⟩, false⟩ : V) (⟨l0, s0⟩ : V) (⟨l1, s1⟩ : V)).s] := O7
                      replace r0 : Rb u A0 n0 l0 := r0
                      replace r1 : Rb u A1 n1 l1 := r1
                      replace r5 : Rb u A5 n5 (ofL ⟨#[49]⟩) := r5
                      replace r6 : Rb u A6 n6 (condV (⟨ofL ⟨#[49]⟩, false⟩ : V) (⟨l0, s0⟩ : V) (⟨l1, s1⟩ : V)).l := r6
                      replace r7 : Rb u A7 n7 (condV (⟨ofL ⟨#[48]⟩, false⟩ : V) (⟨l0, s0⟩ : V) (⟨l1, s1⟩ : V)).l := r7
                      replace TT : Tabs u := TT
                      replace BB : Below w.heap.size w u := BB
                      replace BB := Lib.hid BB
                      have q20 := O2.cell 0
                      have q21 := O2.cell 1
                      have q30 := O3.cell 0
                      have q31 := O3.cell 1
                      cases hkA : kn (⟨l0, s0⟩ : V)
                      · have KA := Lib.hid (fun (u : World) (h : Rb u A0 n0 l0) => known_b (p := false) A0 n0 c0 s0 l0 u h hkA)
                        go_wp2_with (go_at_call 21; first | ((with_reducible refine (KA.out _ r0).mono ?_); rintro e wn ⟨rfl, hb⟩; have kb := hb; (try replace O2 := O2.step kb); (try replace O3 := O3.step kb); (try replace O5 := O5.step kb); (try replace O6 := O6.step kb); (try replace O7 := O7.step kb); (try replace r0 := r0.step kb); (try replace r1 := r1.step kb); (try replace r5 := r5.step kb); (try replace r6 := r6.step kb); (try replace r7 := r7.step kb); (try replace TT := TT.step kb); replace BB := Lib.hid (below_step BB.out kb); (try clear q20 q21); (try (have q20 := O2.cell 0; have q21 := O2.cell 1)); (try clear q30 q31); (try (have q30 := O3.cell 0; have q31 := O3.cell 1))) | ((with_reducible refine (KB.out _ r1).mono ?_); rintro e wn ⟨rfl, hb⟩; have kb := hb; (try replace O2 := O2.step kb); (try replace O3 := O3.step kb); (try replace O5 := O5.step kb); (try replace O6 := O6.step kb); (try replace O7 := O7.step kb); (try replace r0 := r0.step kb); (try replace r1 := r1.step kb); (try replace r5 := r5.step kb); (try replace r6 := r6.step kb); (try replace r7 := r7.step kb); (try replace TT := TT.step kb); replace BB := Lib.hid (below_step BB.out kb); (try clear q20 q21); (try (have q20 := O2.cell 0; have q21 := O2.cell 1)); (try clear q30 q31); (try (have q30 := O3.cell 0; have q31 := O3.cell 1))))
                        go_ret
                        exact ⟨rfl, BB.out⟩
                      · have KA := Lib.hid (fun (u : World) (h : Rb u A0 n0 l0) => known_b (p := true) A0 n0 c0 s0 l0 u h hkA)
                        cases hkB : kn (⟨l1, s1⟩ : V)
                        · have KB := Lib.hid (fun (u : World) (h : Rb u A1 n1 l1) => known_b (p := false) A1 n1 c1 s1 l1 u h hkB)
                          go_wp2_with (go_at_call 21; first | ((with_reducible refine (KA.out _ r0).mono ?_); rintro e wn ⟨rfl, hb⟩; have kb := hb; (try replace O2 := O2.step kb); (try replace O3 := O3.step kb); (try replace O5 := O5.step kb); (try replace O6 := O6.step kb); (try replace O7 := O7.step kb); (try replace r0 := r0.step kb); (try replace r1 := r1.step kb); (try replace r5 := r5.step kb); (try replace r6 := r6.step kb); (try replace r7 := r7.step kb); (try replace TT := TT.step kb); replace BB := Lib.hid (below_step BB.out kb); (try clear q20 q21); (try (have q20 := O2.cell 0; have q21 := O2.cell 1)); (try clear q30 q31); (try (have q30 := O3.cell 0; have q31 := O3.cell 1))) | ((with_reducible refine (KB.out _ r1).mono ?_); rintro e wn ⟨rfl, hb⟩; have kb := hb; (try replace O2 := O2.step kb); (try replace O3 := O3.step kb); (try replace O5 := O5.step kb); (try replace O6 := O6.step kb); (try replace O7 := O7.step kb); (try replace r0 := r0.step kb); (try replace r1 := r1.step kb); (try replace r5 := r5.step kb); (try replace r6 := r6.step kb); (try replace r7 := r7.step kb); (try replace TT := TT.step kb); replace BB := Lib.hid (below_step BB.out kb); (try clear q20 q21); (try (have q20 := O2.cell 0; have q21 := O2.cell 1)); (try clear q30 q31); (try (have q30 := O3.cell 0; have q31 := O3.cell 1))))
                          go_ret
                          exact ⟨rfl, BB.out⟩
                        · have KB := Lib.hid (fun (u : World) (h : Rb u A1 n1 l1) => known_b (p := true) A1 n1 c1 s1 l1 u h hkB)
                          replace hkA := Lib.hid hkA
                          replace hkB := Lib.hid hkB
                          go_wp2_with (go_at_call 21; first | ((with_reducible refine (KA.out _ r0).mono ?_); rintro e wn ⟨rfl, hb⟩; have kb := hb; (try replace O2 := O2.step kb); (try replace O3 := O3.step kb); (try replace O5 := O5.step kb); (try replace O6 := O6.step kb); (try replace O7 := O7.step kb); (try replace r0 := r0.step kb); (try replace r1 := r1.step kb); (try replace r5 := r5.step kb); (try replace r6 := r6.step kb); (try replace r7 := r7.step kb); (try replace TT := TT.step kb); replace BB := Lib.hid (below_step BB.out kb); (try clear q20 q21); (try (have q20 := O2.cell 0; have q21 := O2.cell 1)); (try clear q30 q31); (try (have q30 := O3.cell 0; have q31 := O3.cell 1))) | ((with_reducible refine (KB.out _ r1).mono ?_); rintro e wn ⟨rfl, hb⟩; have kb := hb; (try replace O2 := O2.step kb); (try replace O3 := O3.step kb); (try replace O5 := O5.step kb); (try replace O6 := O6.step kb); (try replace O7 := O7.step kb); (try replace r0 := r0.step kb); (try replace r1 := r1.step kb); (try replace r5 := r5.step kb); (try replace r6 := r6.step kb); (try replace r7 := r7.step kb); (try replace TT := TT.step kb); replace BB := Lib.hid (below_step BB.out kb); (try clear q20 q21); (try (have q20 := O2.cell 0; have q21 := O2.cell 1)); (try clear q30 q31); (try (have q30 := O3.cell 0; have q31 := O3.cell 1))))
                          refine region_z (by kernel_rfl) (fun u => owns w.heap.size #[.slice A0 n0 c0, .bool s0] u ∧ (owns (w.heap.size + 1) #[.slice A1 n1 c1, .bool s1] u ∧ (owns w5.heap.size #[.slice A5 n5 c5, .bool false] u ∧ (owns g6 #[.slice A6 n6 c6, .bool (condV (⟨ofL ⟨#[49]⟩, false⟩ : V) (⟨l0, s0⟩ : V) (⟨l1, s1⟩ : V)).s] u ∧ (owns g7 #[.slice A7 n7 c7, .bool (condV (⟨ofL ⟨#[48]⟩, false⟩ : V) (⟨l0, s0⟩ : V) (⟨l1, s1⟩ : V)).s] u ∧ (rds A0 n0 l0 u ∧ (rds A1 n1 l1 u ∧ (rds A5 n5 (ofL ⟨#[49]⟩) u ∧ (rds A6 n6 (condV (⟨ofL ⟨#[49]⟩, false⟩ : V) (⟨l0, s0⟩ : V) (⟨l1, s1⟩ : V)).l u ∧ (rds A7 n7 (condV (⟨ofL ⟨#[48]⟩, false⟩ : V) (⟨l0, s0⟩ : V) (⟨l1, s1⟩ : V)).l u ∧ (tbs u ∧ blw w u))))))))))) [] (csfVs A0 A1 A5 A6 A7 n0 c0 n1 c1 n5 c5 n6 c6 n7 c7 s0 s1 l0 l1) csfDs csfDp (by kernel_rfl) (by kernel_rfl) rfl (by kernel_rfl) (by kernel_rfl) (by kernel_rfl) ⟨O2.drew, O3.drew, O5.drew, O6.drew, O7.drew, r0.drew, r1.drew, r5.drew, r6.drew, r7.drew, TT.drew, below_drew BB.out⟩ (fun _ h => by cases h) ?_ ?_
                          · refine ⟨?_, ?_, ?_, ?_, ?_, ?_, ?_, ?_, ?_, ?_, ?_, ?_, ?_, ?_, ?_, ?_, ?_, ?_, ?_, ?_, ?_, trivial⟩
                            · intro a w' hS hO hF' hP K hK
                              have ha := hO 2 (by rfl)
                              refine if_ok (by rfl) ?_
                              refine wp_load_row 24 (.tmp 2) rfl w.heap.size (ev ha) _ _ (0, 0) _ hS.1 Tryd.underlying24 rfl (by kernel_rfl) ?_
                              exact hK _ w' (fun h => by cases h) (keep_same hS) rfl
                            · intro a w' hS hO hF' hP K hK
                              have ha := hO 3 (by rfl)
                              refine if_ok (by rfl) ?_
                              refine wp_load_row 24 (.tmp 3) rfl (w.heap.size + 1) (ev ha) _ _ (0, 0) _ hS.2.1 Tryd.underlying24 rfl (by kernel_rfl) ?_
                              exact hK _ w' (fun h => by cases h) (keep_same hS) rfl
                            · intro a w' hS hO hF' hP K hK
                              obtain ⟨_, f0, rfl⟩ := (hF' 0 rfl).1 74 _ rfl rfl
                              obtain ⟨_, f1, rfl⟩ := (hF' 1 rfl).1 75 _ rfl rfl
                              refine if_ok (by rfl) ?_
                              refine wp_calls rfl (enters_of Tryd.func20 (by kernel_rfl) rfl) (args := #[(.agg #[.slice A0 n0 c0, .bool s0]), (.agg #[.slice A1 n1 c1, .bool s1])]) (by simp [Act.eval, f0, f1]) ?_
                              obtain ⟨O2, O3, O5, O6, O7, r0, r1, r5, r6, r7, TT, BB⟩ := id hS
                              apply Calls.mono
                              (with_reducible apply matchX_b (p := false)); (repeat (first | assumption | (with_reducible (apply Nb.rd; assumption)) | (with_reducible (apply Rb.at_later; assumption)) | (with_reducible (apply Tabs.at_later; assumption)) | (with_reducible apply Rb.alloc) | (with_reducible apply Tabs.alloc) | (with_reducible apply Rb.drew) | (with_reducible apply Tabs.drew) | (show I64 _; unfold I64; omega) | omega)); (try exact hX)
                              rintro e w2 ⟨rfl, hb⟩
                              exact ⟨_, rfl, hK _ w2 (fun h => by cases h) (keep_below hb hS) rfl⟩
                            · intro a w' hS hO hF' hP K hK
                              have f0 := hO 8 (by rfl)
                              refine if_ok (by rfl) ?_
                              unfold Oper.wp execOp
                              simp only [Sem.run_pure, ev f0]
                              exact hK _ w' (fun h => by cases h) (keep_same hS) rfl
                            · intro a w' hS hO hF' hP K hK
                              obtain ⟨_, f0, rfl⟩ := (hF' 2 rfl).1 76 _ rfl rfl
                              obtain ⟨_, f1, rfl⟩ := (hF' 3 rfl).1 77 _ rfl rfl
                              refine if_ok (by rfl) ?_
                              refine wp_val (w' := w') (q := .bool true) (by unfold execOp; simp only [(ev f0), (ev f1)]; simp [go_sem]) ?_
                              exact hK _ w' (fun h => by cases h) (keep_same hS) rfl
                            · intro a w' hS hO hF' hP K hK
                              obtain ⟨_, f0, rfl⟩ := (hF' 4 rfl).1 78 _ rfl rfl
                              refine if_ok (by rfl) ?_
                              unfold Oper.wp execOp
                              simp only [Sem.run_pure, ev f0]
                              exact hK _ w' (fun h => by cases h) (keep_same hS) rfl
                            · intro a w' hS hO hF' hP K hK
                              obtain ⟨_, fg, rfl⟩ := (hF' 5 rfl).1 79 _ rfl rfl
                              have ha := hO 2 (by rfl)
                              refine if_wanted (by rfl) (yield_of (by rfl) fg) ?_
                              refine wp_load_row 24 (.tmp 2) rfl w.heap.size (ev ha) _ _ (0, 0) _ hS.1 Tryd.underlying24 rfl (by kernel_rfl) ?_
                              exact hK _ w' (fun h => by cases h) (keep_same hS) rfl
                            · intro a w' hS hO hF' hP K hK
                              obtain ⟨_, fg, rfl⟩ := (hF' 5 rfl).1 79 _ rfl rfl
                              have ha := hO 3 (by rfl)
                              refine if_wanted (by rfl) (yield_of (by rfl) fg) ?_
                              refine wp_load_row 24 (.tmp 3) rfl (w.heap.size + 1) (ev ha) _ _ (0, 0) _ hS.2.1 Tryd.underlying24 rfl (by kernel_rfl) ?_
                              exact hK _ w' (fun h => by cases h) (keep_same hS) rfl
                            · intro a w' hS hO hF' hP K hK
                              obtain ⟨_, fg, rfl⟩ := (hF' 5 rfl).1 79 _ rfl rfl
                              obtain ⟨_, f0, rfl⟩ := (hF' 6 rfl).1 80 _ rfl rfl
                              obtain ⟨_, f1, rfl⟩ := (hF' 7 rfl).1 81 _ rfl rfl
                              refine if_wanted (by rfl) (yield_of (by rfl) fg) ?_
                              refine wp_calls rfl (enters_of Tryd.func22 (by kernel_rfl) rfl) (args := #[(.agg #[.slice A0 n0 c0, .bool s0]), (.agg #[.slice A1 n1 c1, .bool s1])]) (by simp [Act.eval, f0, f1]) ?_
                              obtain ⟨O2, O3, O5, O6, O7, r0, r1, r5, r6, r7, TT, BB⟩ := id hS
                              apply Calls.mono
                              (with_reducible apply eq_v_w); (repeat (first | assumption | (with_reducible (apply Nb.rd; assumption)) | (with_reducible (apply Rb.at_later; assumption)) | (with_reducible (apply Tabs.at_later; assumption)) | (with_reducible apply Rb.alloc) | (with_reducible apply Tabs.alloc) | (with_reducible apply Rb.drew) | (with_reducible apply Tabs.drew) | (show I64 _; unfold I64; omega) | omega))
                              rintro e w2 ⟨A, n, c, rfl, hc, hn, hv, hb⟩
                              exact ⟨_, rfl, hK _ w2 (fun h => by cases h) (keep_below hb hS) ⟨A, n, c, rfl, hc, hn, hv.rd⟩⟩
                            · intro a w' hS hO hF' hP K hK
                              obtain ⟨_, fg, rfl⟩ := (hF' 5 rfl).1 79 _ rfl rfl
                              have ha := hO 5 (by rfl)
                              refine if_wanted (by rfl) (yield_of (by rfl) fg) ?_
                              refine wp_load_row 24 (.tmp 5) rfl w5.heap.size (ev ha) _ _ (0, 0) _ hS.2.2.1 Tryd.underlying24 rfl (by kernel_rfl) ?_
                              exact hK _ w' (fun h => by cases h) (keep_same hS) rfl
                            · intro a w' hS hO hF' hP K hK
                              obtain ⟨_, fg, rfl⟩ := (hF' 5 rfl).1 79 _ rfl rfl
                              obtain ⟨_, f0, Ay0, ny0, cy0, rfl, hc0, hn0, hr0⟩ := (hF' 8 rfl).1 82 _ rfl rfl
                              obtain ⟨_, f1, rfl⟩ := (hF' 9 rfl).1 83 _ rfl rfl
                              refine if_wanted (by rfl) (yield_of (by rfl) fg) ?_
                              refine wp_calls rfl (enters_of Tryd.func10 (by kernel_rfl) rfl) (args := #[(.agg #[.slice Ay0 ny0 cy0, .bool (one1 (eqV (⟨l0, s0⟩ : V) (⟨l1, s1⟩ : V))).s]), (.agg #[.slice A5 n5 c5, .bool false])]) (by simp [Act.eval, f0, f1]) ?_
                              obtain ⟨O2, O3, O5, O6, O7, r0, r1, r5, r6, r7, TT, BB⟩ := id hS
                              apply Calls.mono
                              (refine same_b (p := false) _ _ _ _ _ _ _ _ _ _ _ ?_ ?_ ?_ ?_ ((eq_same hkA.out hkB.out).trans hE)); (repeat (first | assumption | (with_reducible (apply Nb.rd; assumption)) | (with_reducible (apply Rb.at_later; assumption)) | (with_reducible (apply Tabs.at_later; assumption)) | (with_reducible apply Rb.alloc) | (with_reducible apply Tabs.alloc) | (with_reducible apply Rb.drew) | (with_reducible apply Tabs.drew) | (show I64 _; unfold I64; omega) | omega))
                              rintro e w2 ⟨rfl, hb⟩
                              exact ⟨_, rfl, hK _ w2 (fun h => by cases h) (keep_below hb hS) rfl⟩
                            · intro a w' hS hO hF' hP K hK
                              obtain ⟨_, fg, rfl⟩ := (hF' 5 rfl).1 79 _ rfl rfl
                              have f0 := hO 8 (by rfl)
                              refine if_wanted (by rfl) (yield_of (by rfl) fg) ?_
                              unfold Oper.wp execOp
                              simp only [Sem.run_pure, ev f0]
                              exact hK _ w' (fun h => by cases h) (keep_same hS) rfl
                            · intro a w' hS hO hF' hP K hK
                              obtain ⟨_, fg, rfl⟩ := (hF' 5 rfl).1 79 _ rfl rfl
                              obtain ⟨_, f0, rfl⟩ := (hF' 10 rfl).1 84 _ rfl rfl
                              obtain ⟨_, f1, rfl⟩ := (hF' 11 rfl).1 85 _ rfl rfl
                              refine if_wanted (by rfl) (yield_of (by rfl) fg) ?_
                              refine wp_val (w' := w') (q := .bool true) (by unfold execOp; simp only [(ev f0), (ev f1)]; simp [go_sem]) ?_
                              exact hK _ w' (fun h => by cases h) (keep_same hS) rfl
                            · intro a w' hS hO hF' hP K hK
                              obtain ⟨_, f0, rfl⟩ := (hF' 5 rfl).1 79 _ rfl rfl
                              obtain ⟨_, f1, rfl⟩ := (hF' 12 rfl).1 86 _ rfl rfl
                              refine if_ok (by rfl) ?_
                              refine wp_pick_and _ _ _ rfl (ev f0) (ev f1) ?_
                              exact hK _ w' (fun h => by cases h) (keep_same hS) rfl
                            · intro a w' hS hO hF' hP K hK
                              obtain ⟨_, f0, rfl⟩ := (hF' 13 rfl).1 87 _ rfl rfl
                              refine if_ok (by rfl) ?_
                              unfold Oper.wp execOp
                              simp only [Sem.run_pure, ev f0]
                              exact hK _ w' (fun h => by cases h) (keep_same hS) rfl
                            · intro a w' hS hO hF' hP K hK
                              obtain ⟨_, fg, rfl⟩ := (hF' 14 rfl).1 88 _ rfl rfl
                              have ha := hO 2 (by rfl)
                              refine if_wanted (by rfl) (yield_of (by rfl) fg) ?_
                              refine wp_load_row 24 (.tmp 2) rfl w.heap.size (ev ha) _ _ (0, 0) _ hS.1 Tryd.underlying24 rfl (by kernel_rfl) ?_
                              exact hK _ w' (fun h => by cases h) (keep_same hS) rfl
                            · intro a w' hS hO hF' hP K hK
                              obtain ⟨_, fg, rfl⟩ := (hF' 14 rfl).1 88 _ rfl rfl
                              have ha := hO 3 (by rfl)
                              refine if_wanted (by rfl) (yield_of (by rfl) fg) ?_
                              refine wp_load_row 24 (.tmp 3) rfl (w.heap.size + 1) (ev ha) _ _ (0, 0) _ hS.2.1 Tryd.underlying24 rfl (by kernel_rfl) ?_
                              exact hK _ w' (fun h => by cases h) (keep_same hS) rfl
                            · intro a w' hS hO hF' hP K hK
                              obtain ⟨_, fg, rfl⟩ := (hF' 14 rfl).1 88 _ rfl rfl
                              obtain ⟨_, f0, rfl⟩ := (hF' 15 rfl).1 89 _ rfl rfl
                              obtain ⟨_, f1, rfl⟩ := (hF' 16 rfl).1 90 _ rfl rfl
                              refine if_wanted (by rfl) (yield_of (by rfl) fg) ?_
                              refine wp_calls rfl (enters_of Tryd.func22 (by kernel_rfl) rfl) (args := #[(.agg #[.slice A0 n0 c0, .bool s0]), (.agg #[.slice A1 n1 c1, .bool s1])]) (by simp [Act.eval, f0, f1]) ?_
                              obtain ⟨O2, O3, O5, O6, O7, r0, r1, r5, r6, r7, TT, BB⟩ := id hS
                              apply Calls.mono
                              (with_reducible apply eq_v_w); (repeat (first | assumption | (with_reducible (apply Nb.rd; assumption)) | (with_reducible (apply Rb.at_later; assumption)) | (with_reducible (apply Tabs.at_later; assumption)) | (with_reducible apply Rb.alloc) | (with_reducible apply Tabs.alloc) | (with_reducible apply Rb.drew) | (with_reducible apply Tabs.drew) | (show I64 _; unfold I64; omega) | omega))
                              rintro e w2 ⟨A, n, c, rfl, hc, hn, hv, hb⟩
                              exact ⟨_, rfl, hK _ w2 (fun h => by cases h) (keep_below hb hS) ⟨A, n, c, rfl, hc, hn, hv.rd⟩⟩
                            · intro a w' hS hO hF' hP K hK
                              obtain ⟨_, fg, rfl⟩ := (hF' 14 rfl).1 88 _ rfl rfl
                              obtain ⟨_, f0, Ay0, ny0, cy0, rfl, hc0, hn0, hr0⟩ := (hF' 17 rfl).1 91 _ rfl rfl
                              refine if_wanted (by rfl) (yield_of (by rfl) fg) ?_
                              refine wp_calls rfl (enters_of Tryd.func21 (by kernel_rfl) rfl) (args := #[(.agg #[.slice Ay0 ny0 cy0, .bool (one1 (eqV (⟨l0, s0⟩ : V) (⟨l1, s1⟩ : V))).s])]) (by simp [Act.eval, f0]) ?_
                              obtain ⟨O2, O3, O5, O6, O7, r0, r1, r5, r6, r7, TT, BB⟩ := id hS
                              apply Calls.mono
                              (refine known_b (p := true) _ _ _ _ _ _ ?_ (eq_kn hkA.out hkB.out)); (repeat (first | assumption | (with_reducible (apply Nb.rd; assumption)) | (with_reducible (apply Rb.at_later; assumption)) | (with_reducible (apply Tabs.at_later; assumption)) | (with_reducible apply Rb.alloc) | (with_reducible apply Tabs.alloc) | (with_reducible apply Rb.drew) | (with_reducible apply Tabs.drew) | (show I64 _; unfold I64; omega) | omega))
                              rintro e w2 ⟨rfl, hb⟩
                              exact ⟨_, rfl, hK _ w2 (fun h => by cases h) (keep_below hb hS) rfl⟩
                            · intro a w' hS hO hF' hP K hK
                              obtain ⟨_, f0, rfl⟩ := (hF' 14 rfl).1 88 _ rfl rfl
                              obtain ⟨_, f1, rfl⟩ := (hF' 18 rfl).1 92 _ rfl rfl
                              refine if_ok (by rfl) ?_
                              refine wp_pick_and _ _ _ rfl (ev f0) (ev f1) ?_
                              exact hK _ w' (fun h => by cases h) (keep_same hS) rfl
                            · intro a w' hS hO hF' hP K hK
                              obtain ⟨_, f0, rfl⟩ := (hF' 19 rfl).1 93 _ rfl rfl
                              refine if_ok (by rfl) ?_
                              unfold Oper.wp execOp
                              simp only [Sem.run_pure, ev f0]
                              exact hK _ w' (fun h => by cases h) (keep_same hS) rfl
                          · intro a u hd hz hS hV
                            obtain ⟨O2, O3, O5, O6, O7, r0, r1, r5, r6, r7, TT, BB⟩ := hS
                            replace O2 : Own u w.heap.size 24 #[.slice A0 n0 c0, .bool s0] := O2
                            replace O3 : Own u (w.heap.size + 1) 24 #[.slice A1 n1 c1, .bool s1] := O3
                            replace O5 : Own u w5.heap.size 24 #[.slice A5 n5 c5, .bool false] := O5
                            replace O6 : Own u g6 24 #[.slice A6 n6 c6, .bool (condV (⟨ofL ⟨#[49]⟩, false⟩ : V) (⟨l0, s0⟩ : V) (⟨l1, s1⟩ : V)).s] := O6
                            replace O7 : Own u g7 24 #[.slice A7 n7 c7, .bool (condV (⟨ofL ⟨#[48]⟩, false⟩ : V) (⟨l0, s0⟩ : V) (⟨l1, s1⟩ : V)).s] := O7
                            replace r0 : Rb u A0 n0 l0 := r0
                            replace r1 : Rb u A1 n1 l1 := r1
                            replace r5 : Rb u A5 n5 (ofL ⟨#[49]⟩) := r5
                            replace r6 : Rb u A6 n6 (condV (⟨ofL ⟨#[49]⟩, false⟩ : V) (⟨l0, s0⟩ : V) (⟨l1, s1⟩ : V)).l := r6
                            replace r7 : Rb u A7 n7 (condV (⟨ofL ⟨#[48]⟩, false⟩ : V) (⟨l0, s0⟩ : V) (⟨l1, s1⟩ : V)).l := r7
                            replace TT : Tabs u := TT
                            replace BB : Below w.heap.size w u := BB
                            obtain ⟨v0, f0, hv0⟩ := hV 20 4 _ rfl rfl
                            obtain rfl : v0 = .bool true := hv0
                            clear hV
                            go_wp2
                            refine bodyPost_ret (results_tmp rfl _ _ _) (hd.trans rfl) ?_
                            exact ⟨by rw [Array.getD_eq_getD_getElem?, f0]; rfl, BB⟩
        · skip
          go_enter Tryd.func4, Tryd.ntmps4
          go_wp2_with (first | (go_at_call 5; refine (HL.out _ _ (by simp)).mono ?_; rintro e wn ⟨rfl, rfl⟩; replace O2 := O2.alloc (.cells #[.slice A0 n0 c0, .bool s0, .slice A1 n1 c1, .bool s1] 24); replace O3 := O3.alloc (.cells #[.slice A0 n0 c0, .bool s0, .slice A1 n1 c1, .bool s1] 24); replace r0 := r0.alloc (.cells #[.slice A0 n0 c0, .bool s0, .slice A1 n1 c1, .bool s1] 24); replace r1 := r1.alloc (.cells #[.slice A0 n0 c0, .bool s0, .slice A1 n1 c1, .bool s1] 24); replace TT := TT.alloc (.cells #[.slice A0 n0 c0, .bool s0, .slice A1 n1 c1, .bool s1] 24); replace BB := Lib.hid (below_new BB.out (.cells #[.slice A0 n0 c0, .bool s0, .slice A1 n1 c1, .bool s1] 24))) | (go_at_call 6; refine (awake_any _ TT).mono ?_; rintro e wn ⟨rfl, hb⟩; have kb := hb; (try replace O2 := O2.step kb); (try replace O3 := O3.step kb); (try replace r0 := r0.step kb); (try replace r1 := r1.step kb); (try replace TT := TT.step kb); replace BB := Lib.hid (below_step BB.out kb); (try clear q20 q21); (try (have q20 := O2.cell 0; have q21 := O2.cell 1)); (try clear q30 q31); (try (have q30 := O3.cell 0; have q31 := O3.cell 1))) | (go_at_call 15; refine (of_w _ _ (by decide)).mono ?_; rintro e w5 ⟨A5, n5, c5, rfl, hc5, hn5, hv, hb⟩; have kb := hb; replace O2 := O2.step kb; replace O3 := O3.step kb; replace r0 := r0.step kb; replace r1 := r1.step kb; replace TT := TT.step kb; replace BB := Lib.hid (below_step BB.out kb); replace O2 := O2.alloc (.cells #[.slice A5 n5 c5, .bool false] 24); replace O3 := O3.alloc (.cells #[.slice A5 n5 c5, .bool false] 24); replace r0 := r0.alloc (.cells #[.slice A5 n5 c5, .bool false] 24); replace r1 := r1.alloc (.cells #[.slice A5 n5 c5, .bool false] 24); replace TT := TT.alloc (.cells #[.slice A5 n5 c5, .bool false] 24); replace BB := Lib.hid (below_new BB.out (.cells #[.slice A5 n5 c5, .bool false] 24)); have O5 := Own.new w5 24 #[.slice A5 n5 c5, .bool false]; have r5 := hv.rd.alloc (.cells #[.slice A5 n5 c5, .bool false] 24); clear hb kb hv))
          have hBase : w.heap.size ≤ w5.heap.size + 1 := by have := BB.out.size; simp at this; omega
          have hq3 : w.heap.size + 1 < w5.heap.size + 1 := by have := O3.lt; simpa using this
          refine region_l (by kernel_rfl) (fun u => owns w.heap.size #[.slice A0 n0 c0, .bool s0] u ∧ (owns (w.heap.size + 1) #[.slice A1 n1 c1, .bool s1] u ∧ (owns w5.heap.size #[.slice A5 n5 c5, .bool false] u ∧ (rds A0 n0 l0 u ∧ (rds A1 n1 l1 u ∧ (rds A5 n5 (ofL ⟨#[49]⟩) u ∧ (szW (w5.heap.size + 1) u ∧ (tbs u ∧ blw w u)))))))) [un (isV (.agg #[.slice A5 n5 c5, .bool false])), un (isV (.agg #[.slice A0 n0 c0, .bool s0])), un (isV (.agg #[.slice A1 n1 c1, .bool s1])), un (isW (condV (⟨(ofL ⟨#[49]⟩), false⟩ : V) (⟨l0, s0⟩ : V) (⟨l1, s1⟩ : V))), un (isW (⟨ofL ⟨#[48]⟩, false⟩ : V)), un (isV (.agg #[.slice A0 n0 c0, .bool s0])), un (isV (.agg #[.slice A1 n1 c1, .bool s1])), un (isW (condV (⟨ofL ⟨#[48]⟩, false⟩ : V) (⟨l0, s0⟩ : V) (⟨l1, s1⟩ : V))), un (isFr (w5.heap.size + 1)), un (isFr (w5.heap.size + 1)), filled (w5.heap.size + 1) (condV (⟨(ofL ⟨#[49]⟩), false⟩ : V) (⟨l0, s0⟩ : V) (⟨l1, s1⟩ : V)), filled (w5.heap.size + 1) (condV (⟨ofL ⟨#[48]⟩, false⟩ : V) (⟨l0, s0⟩ : V) (⟨l1, s1⟩ : V))] [some 19, some 20, some 21, some 22, some 23, some 24, some 25, some 26, some 6, some 7, none, none] [0, 1, 2, 3, 4, 5, 6, 7, 8, 9, 8, 9] [8, 9] [[], [], [], [0, 1, 2], [3], [], [], [4, 5, 6, 4], [], [], [8, 3, 7, 0, 1, 2, 3, 8, 9], [9, 7, 10, 0, 1, 2, 3, 4, 5, 6, 7, 8, 9, 10]] (by kernel_rfl) (by kernel_rfl) rfl (by kernel_rfl) (by kernel_rfl) (by kernel_rfl) (by kernel_rfl) ⟨O2.drew, O3.drew, O5.drew, r0.drew, r1.drew, r5.drew, (by simp [szW, World.drew]), TT.drew, below_drew BB.out⟩ ?_ ?_
          · refine ⟨?_, ?_, ?_, ?_, ?_, ?_, ?_, ?_, ?_, ?_, ?_, ?_, trivial⟩
            · intro a w' hS hO hF hD K hK
              have ha := hO 5 (by rfl)
              refine if_ok (by rfl) ?_
              refine wp_load_row 24 (.tmp 5) rfl w5.heap.size (ev ha) _ _ (0, 0) _ hS.2.2.1 Tryd.underlying24 rfl (by kernel_rfl) ?_
              exact hK _ w' (fun h => by cases h) (Nat.le_refl _) (fun h => absurd h (by decide)) hS (fun _ _ _ _ h => h) (fun V hV => by obtain rfl := Option.some.inj hV; exact rfl)
            · intro a w' hS hO hF hD K hK
              have ha := hO 2 (by rfl)
              refine if_ok (by rfl) ?_
              refine wp_load_row 24 (.tmp 2) rfl w.heap.size (ev ha) _ _ (0, 0) _ hS.1 Tryd.underlying24 rfl (by kernel_rfl) ?_
              exact hK _ w' (fun h => by cases h) (Nat.le_refl _) (fun h => absurd h (by decide)) hS (fun _ _ _ _ h => h) (fun V hV => by obtain rfl := Option.some.inj hV; exact rfl)
            · intro a w' hS hO hF hD K hK
              have ha := hO 3 (by rfl)
              refine if_ok (by rfl) ?_
              refine wp_load_row 24 (.tmp 3) rfl (w.heap.size + 1) (ev ha) _ _ (0, 0) _ hS.2.1 Tryd.underlying24 rfl (by kernel_rfl) ?_
              exact hK _ w' (fun h => by cases h) (Nat.le_refl _) (fun h => absurd h (by decide)) hS (fun _ _ _ _ h => h) (fun V hV => by obtain rfl := Option.some.inj hV; exact rfl)
            · intro a w' hS hO hF hD K hK
              have j0 := hF 0 rfl
              have f0 := j0.2 19 rfl
              rw [show valD _ _ 0 = _ from j0.1 _ rfl] at f0
              have j1 := hF 1 rfl
              have f1 := j1.2 20 rfl
              rw [show valD _ _ 1 = _ from j1.1 _ rfl] at f1
              have j2 := hF 2 rfl
              have f2 := j2.2 21 rfl
              rw [show valD _ _ 2 = _ from j2.1 _ rfl] at f2
              refine if_ok (by rfl) ?_
              refine wp_calls rfl (enters_of Tryd.func16 (by kernel_rfl) rfl) (args := #[(.agg #[.slice A5 n5 c5, .bool false]), (.agg #[.slice A0 n0 c0, .bool s0]), (.agg #[.slice A1 n1 c1, .bool s1])]) (by simp [Act.eval, f0, f1, f2]) ?_
              obtain ⟨O2, O3, O5, r0, r1, r5, BZ, TT, BB⟩ := id hS
              apply Calls.mono
              (with_reducible apply cond_any_w); (repeat (first | assumption | (with_reducible (apply Nb.rd; assumption)) | (with_reducible (apply Rb.at_later; assumption)) | (with_reducible (apply Tabs.at_later; assumption)) | (with_reducible apply Rb.alloc) | (with_reducible apply Tabs.alloc) | (with_reducible apply Rb.drew) | (with_reducible apply Tabs.drew) | (show I64 _; unfold I64; omega) | omega))
              rintro e w2 ⟨A, n, c, rfl, hc, hn, hv, hb⟩
              exact ⟨_, rfl, hK _ w2 (fun h => by cases h) hb.size (fun h => absurd h (by decide)) ((show Stb (fun u => owns w.heap.size #[.slice A0 n0 c0, .bool s0] u ∧ (owns (w.heap.size + 1) #[.slice A1 n1 c1, .bool s1] u ∧ (owns w5.heap.size #[.slice A5 n5 c5, .bool false] u ∧ (rds A0 n0 l0 u ∧ (rds A1 n1 l1 u ∧ (rds A5 n5 (ofL ⟨#[49]⟩) u ∧ (szW (w5.heap.size + 1) u ∧ (tbs u ∧ blw w u)))))))) from inferInstance).st _ _ hb hS) (keepL_below hb) (fun V hV => by obtain rfl := Option.some.inj hV; exact ⟨A, n, c, rfl, hc, hn, hv.rd⟩)⟩
            · intro a w' hS hO hF hD K hK
              refine if_ok (by rfl) ?_
              refine wp_calls rfl (enters_of Tryd.func15 (by kernel_rfl) rfl) (args := #[(.string ⟨#[48]⟩)]) (by simp [Act.eval]) ?_
              obtain ⟨O2, O3, O5, r0, r1, r5, BZ, TT, BB⟩ := id hS
              apply Calls.mono
              (with_reducible apply of_w); decide
              rintro e w2 ⟨A, n, c, rfl, hc, hn, hv, hb⟩
              exact ⟨_, rfl, hK _ w2 (fun h => by cases h) hb.size (fun h => absurd h (by decide)) ((show Stb (fun u => owns w.heap.size #[.slice A0 n0 c0, .bool s0] u ∧ (owns (w.heap.size + 1) #[.slice A1 n1 c1, .bool s1] u ∧ (owns w5.heap.size #[.slice A5 n5 c5, .bool false] u ∧ (rds A0 n0 l0 u ∧ (rds A1 n1 l1 u ∧ (rds A5 n5 (ofL ⟨#[49]⟩) u ∧ (szW (w5.heap.size + 1) u ∧ (tbs u ∧ blw w u)))))))) from inferInstance).st _ _ hb hS) (keepL_below hb) (fun V hV => by obtain rfl := Option.some.inj hV; exact ⟨A, n, c, rfl, hc, hn, hv.rd⟩)⟩
            · intro a w' hS hO hF hD K hK
              have ha := hO 2 (by rfl)
              refine if_ok (by rfl) ?_
              refine wp_load_row 24 (.tmp 2) rfl w.heap.size (ev ha) _ _ (0, 0) _ hS.1 Tryd.underlying24 rfl (by kernel_rfl) ?_
              exact hK _ w' (fun h => by cases h) (Nat.le_refl _) (fun h => absurd h (by decide)) hS (fun _ _ _ _ h => h) (fun V hV => by obtain rfl := Option.some.inj hV; exact rfl)
            · intro a w' hS hO hF hD K hK
              have ha := hO 3 (by rfl)
              refine if_ok (by rfl) ?_
              refine wp_load_row 24 (.tmp 3) rfl (w.heap.size + 1) (ev ha) _ _ (0, 0) _ hS.2.1 Tryd.underlying24 rfl (by kernel_rfl) ?_
              exact hK _ w' (fun h => by cases h) (Nat.le_refl _) (fun h => absurd h (by decide)) hS (fun _ _ _ _ h => h) (fun V hV => by obtain rfl := Option.some.inj hV; exact rfl)
            · intro a w' hS hO hF hD K hK
              have j0 := hF 4 rfl
              have f0 := j0.2 23 rfl
              obtain ⟨Ay0, ny0, cy0, e0, hc0, hn0, hr0⟩ := j0.1 _ rfl
              rw [e0] at f0
              have j1 := hF 5 rfl
              have f1 := j1.2 24 rfl
              rw [show valD _ _ 5 = _ from j1.1 _ rfl] at f1
              have j2 := hF 6 rfl
              have f2 := j2.2 25 rfl
              rw [show valD _ _ 6 = _ from j2.1 _ rfl] at f2
              refine if_ok (by rfl) ?_
              refine wp_calls rfl (enters_of Tryd.func16 (by kernel_rfl) rfl) (args := #[(.agg #[.slice Ay0 ny0 cy0, .bool (⟨ofL ⟨#[48]⟩, false⟩ : V).s]), (.agg #[.slice A0 n0 c0, .bool s0]), (.agg #[.slice A1 n1 c1, .bool s1])]) (by simp [Act.eval, f0, f1, f2]) ?_
              obtain ⟨O2, O3, O5, r0, r1, r5, BZ, TT, BB⟩ := id hS
              apply Calls.mono
              (with_reducible apply cond_any_w); (repeat (first | assumption | (with_reducible (apply Nb.rd; assumption)) | (with_reducible (apply Rb.at_later; assumption)) | (with_reducible (apply Tabs.at_later; assumption)) | (with_reducible apply Rb.alloc) | (with_reducible apply Tabs.alloc) | (with_reducible apply Rb.drew) | (with_reducible apply Tabs.drew) | (show I64 _; unfold I64; omega) | omega))
              rintro e w2 ⟨A, n, c, rfl, hc, hn, hv, hb⟩
              exact ⟨_, rfl, hK _ w2 (fun h => by cases h) hb.size (fun h => absurd h (by decide)) ((show Stb (fun u => owns w.heap.size #[.slice A0 n0 c0, .bool s0] u ∧ (owns (w.heap.size + 1) #[.slice A1 n1 c1, .bool s1] u ∧ (owns w5.heap.size #[.slice A5 n5 c5, .bool false] u ∧ (rds A0 n0 l0 u ∧ (rds A1 n1 l1 u ∧ (rds A5 n5 (ofL ⟨#[49]⟩) u ∧ (szW (w5.heap.size + 1) u ∧ (tbs u ∧ blw w u)))))))) from inferInstance).st _ _ hb hS) (keepL_below hb) (fun V hV => by obtain rfl := Option.some.inj hV; exact ⟨A, n, c, rfl, hc, hn, hv.rd⟩)⟩
            · intro a w' hS hO hF hD K hK
              refine if_ok (by rfl) ?_
              refine wp_alloc rfl ?_
              have hb := below_new (Below.refl w'.heap.size w') (.cells #[.slice none 0 0, .bool false] 24)
              have hBz := hS.2.2.2.2.2.2.1
              exact hK _ _ (fun h => by cases h) hb.size (fun _ => ⟨rfl, by simp⟩) ((show Stb (fun u => owns w.heap.size #[.slice A0 n0 c0, .bool s0] u ∧ (owns (w.heap.size + 1) #[.slice A1 n1 c1, .bool s1] u ∧ (owns w5.heap.size #[.slice A5 n5 c5, .bool false] u ∧ (rds A0 n0 l0 u ∧ (rds A1 n1 l1 u ∧ (rds A5 n5 (ofL ⟨#[49]⟩) u ∧ (szW (w5.heap.size + 1) u ∧ (tbs u ∧ blw w u)))))))) from inferInstance).st _ _ hb hS) (keepL_below hb) (fun V hV => by obtain rfl := Option.some.inj hV; exact ⟨_, rfl, hBz, _, _, _, _, Own.new w' 24 _⟩)
            · intro a w' hS hO hF hD K hK
              refine if_ok (by rfl) ?_
              refine wp_alloc rfl ?_
              have hb := below_new (Below.refl w'.heap.size w') (.cells #[.slice none 0 0, .bool false] 24)
              have hBz := hS.2.2.2.2.2.2.1
              exact hK _ _ (fun h => by cases h) hb.size (fun _ => ⟨rfl, by simp⟩) ((show Stb (fun u => owns w.heap.size #[.slice A0 n0 c0, .bool s0] u ∧ (owns (w.heap.size + 1) #[.slice A1 n1 c1, .bool s1] u ∧ (owns w5.heap.size #[.slice A5 n5 c5, .bool false] u ∧ (rds A0 n0 l0 u ∧ (rds A1 n1 l1 u ∧ (rds A5 n5 (ofL ⟨#[49]⟩) u ∧ (szW (w5.heap.size + 1) u ∧ (tbs u ∧ blw w u)))))))) from inferInstance).st _ _ hb hS) (keepL_below hb) (fun V hV => by obtain rfl := Option.some.inj hV; exact ⟨_, rfl, hBz, _, _, _, _, Own.new w' 24 _⟩)
            · intro a w' hS hO hF hD K hK
              have j0 := hF 3 rfl
              have f0 := j0.2 22 rfl
              obtain ⟨Ay0, ny0, cy0, e0, hc0, hn0, hr0⟩ := j0.1 _ rfl
              rw [e0] at f0
              have jp := hF 8 rfl
              have fp := jp.2 6 rfl
              obtain ⟨g, eg, hg, X, q1, q2, q3, O⟩ := jp.1 _ rfl
              have hgx := eg
              rw [eg] at fp
              have hB0 := hBase
              haveI : Over w g := ⟨Nat.le_trans (show w.heap.size ≤ _ from hB0) hg⟩
              haveI : Apart g w.heap.size := ⟨fun e => by subst e; have := hB0; omega⟩
              haveI : Apart g (w.heap.size + 1) := ⟨fun e => by subst e; have := hB0; omega⟩
              haveI : Apart g w5.heap.size := ⟨fun e => by subst e; have := hB0; omega⟩
              refine if_ok (by rfl) ?_
              refine wp_store_row _ _ _ rfl g _ (ev fp) (ev f0) _ _ O vec_size rfl (by simp [Value.oneCell']) ?_
              exact hK _ _ (fun _ => rfl) (by simp [World.setRow]) (fun h => absurd h (by decide)) ((show Sst g (fun u => owns w.heap.size #[.slice A0 n0 c0, .bool s0] u ∧ (owns (w.heap.size + 1) #[.slice A1 n1 c1, .bool s1] u ∧ (owns w5.heap.size #[.slice A5 n5 c5, .bool false] u ∧ (rds A0 n0 l0 u ∧ (rds A1 n1 l1 u ∧ (rds A5 n5 (ofL ⟨#[49]⟩) u ∧ (szW (w5.heap.size + 1) u ∧ (tbs u ∧ blw w u)))))))) from inferInstance).st _ _ _ _ _ _ O hS) (keepL_store O (fun j V hj hV => by
                match j, hj, hV with
                | 0, _, hV => obtain rfl := Option.some.inj hV; exact ssx_un
                | 1, _, hV => obtain rfl := Option.some.inj hV; exact ssx_un
                | 2, _, hV => obtain rfl := Option.some.inj hV; exact ssx_un
                | 3, _, hV => obtain rfl := Option.some.inj hV; exact ssx_un
                | 4, _, hV => obtain rfl := Option.some.inj hV; exact ssx_un
                | 5, _, hV => obtain rfl := Option.some.inj hV; exact ssx_un
                | 6, _, hV => obtain rfl := Option.some.inj hV; exact ssx_un
                | 7, _, hV => obtain rfl := Option.some.inj hV; exact ssx_un
                | 8, _, hV => obtain rfl := Option.some.inj hV; exact ssx_fr
                | 9, _, hV => obtain rfl := Option.some.inj hV; exact ssx_fr
                | 10, hj, _ => exact absurd rfl hj
                | 11, _, hV => obtain rfl := Option.some.inj hV; exact ssx_filled (fun e => hD 9 8 (by decide) rfl rfl rfl rfl (e.trans hgx.symm))
                | q + 12, _, hV => simp at hV)) (fun V hV => by obtain rfl := Option.some.inj hV; rw [if_neg (by decide)]; exact ⟨g, Ay0, ny0, cy0, hgx, hg, O.row, hc0, hn0, hr0.row O⟩)
            · intro a w' hS hO hF hD K hK
              have j0 := hF 7 rfl
              have f0 := j0.2 26 rfl
              obtain ⟨Ay0, ny0, cy0, e0, hc0, hn0, hr0⟩ := j0.1 _ rfl
              rw [e0] at f0
              have jp := hF 9 rfl
              have fp := jp.2 7 rfl
              obtain ⟨g, eg, hg, X, q1, q2, q3, O⟩ := jp.1 _ rfl
              have hgx := eg
              rw [eg] at fp
              have hB0 := hBase
              haveI : Over w g := ⟨Nat.le_trans (show w.heap.size ≤ _ from hB0) hg⟩
              haveI : Apart g w.heap.size := ⟨fun e => by subst e; have := hB0; omega⟩
              haveI : Apart g (w.heap.size + 1) := ⟨fun e => by subst e; have := hB0; omega⟩
              haveI : Apart g w5.heap.size := ⟨fun e => by subst e; have := hB0; omega⟩
              refine if_ok (by rfl) ?_
              refine wp_store_row _ _ _ rfl g _ (ev fp) (ev f0) _ _ O vec_size rfl (by simp [Value.oneCell']) ?_
              exact hK _ _ (fun _ => rfl) (by simp [World.setRow]) (fun h => absurd h (by decide)) ((show Sst g (fun u => owns w.heap.size #[.slice A0 n0 c0, .bool s0] u ∧ (owns (w.heap.size + 1) #[.slice A1 n1 c1, .bool s1] u ∧ (owns w5.heap.size #[.slice A5 n5 c5, .bool false] u ∧ (rds A0 n0 l0 u ∧ (rds A1 n1 l1 u ∧ (rds A5 n5 (ofL ⟨#[49]⟩) u ∧ (szW (w5.heap.size + 1) u ∧ (tbs u ∧ blw w u)))))))) from inferInstance).st _ _ _ _ _ _ O hS) (keepL_store O (fun j V hj hV => by
                match j, hj, hV with
                | 0, _, hV => obtain rfl := Option.some.inj hV; exact ssx_un
                | 1, _, hV => obtain rfl := Option.some.inj hV; exact ssx_un
                | 2, _, hV => obtain rfl := Option.some.inj hV; exact ssx_un
                | 3, _, hV => obtain rfl := Option.some.inj hV; exact ssx_un
                | 4, _, hV => obtain rfl := Option.some.inj hV; exact ssx_un
                | 5, _, hV => obtain rfl := Option.some.inj hV; exact ssx_un
                | 6, _, hV => obtain rfl := Option.some.inj hV; exact ssx_un
                | 7, _, hV => obtain rfl := Option.some.inj hV; exact ssx_un
                | 8, _, hV => obtain rfl := Option.some.inj hV; exact ssx_fr
                | 9, _, hV => obtain rfl := Option.some.inj hV; exact ssx_fr
                | 10, _, hV => obtain rfl := Option.some.inj hV; exact ssx_filled (fun e => hD 8 9 (by decide) rfl rfl rfl rfl (e.trans hgx.symm))
                | 11, hj, _ => exact absurd rfl hj
                | q + 12, _, hV => simp at hV)) (fun V hV => by obtain rfl := Option.some.inj hV; rw [if_neg (by decide)]; exact ⟨g, Ay0, ny0, cy0, hgx, hg, O.row, hc0, hn0, hr0.row O⟩)
          · intro vs u hl hS hV
            match vs, hl, hV with
            | [v0, v1, v2, v3, v4, v5, v6, v7, v8, v9, v10, v11], _, hV =>
              obtain ⟨g6, A6, n6, c6, e6, hB6, O6, hcc6, hnn6, r6⟩ := hV 10 _ rfl
              replace e6 : v8 = .pointer (some ⟨g6, 0, none⟩) := e6
              subst e6
              obtain ⟨g7, A7, n7, c7, e7, hB7, O7, hcc7, hnn7, r7⟩ := hV 11 _ rfl
              replace e7 : v9 = .pointer (some ⟨g7, 0, none⟩) := e7
              subst e7
              obtain rfl := hV 0 _ rfl
              obtain rfl := hV 1 _ rfl
              obtain rfl := hV 2 _ rfl
              obtain ⟨_, _, _, rfl, _, _, _⟩ := hV 3 _ rfl
              obtain ⟨_, _, _, rfl, _, _, _⟩ := hV 4 _ rfl
              obtain rfl := hV 5 _ rfl
              obtain rfl := hV 6 _ rfl
              obtain ⟨_, _, _, rfl, _, _, _⟩ := hV 7 _ rfl
              simp only [puts, Act.put, List.setIfInBounds_toArray, List.set_cons_zero, List.set_cons_succ]
              obtain ⟨O2, O3, O5, r0, r1, r5, BZ, TT, BB⟩ := hS
              clear hV
              replace O2 : Own u w.heap.size 24 #[.slice A0 n0 c0, .bool s0] := O2
              replace O3 : Own u (w.heap.size + 1) 24 #[.slice A1 n1 c1, .bool s1] := O3
              replace O5 : Own u w5.heap.size 24 #[.slice A5 n5 c5, .bool false] := O5
              replace r0 : Rb u A0 n0 l0 := r0
              replace r1 : Rb u A1 n1 l1 := r1
              replace r5 : Rb u A5 n5 (ofL ⟨#[49]⟩) := r5
              replace TT : Tabs u := TT
              replace BB : Below w.heap.size w u := BB
              go_wp2
              refine region_y (by kernel_rfl) (fun u => owns w.heap.size #[.slice A0 n0 c0, .bool s0] u ∧ (owns (w.heap.size + 1) #[.slice A1 n1 c1, .bool s1] u ∧ (owns w5.heap.size #[.slice A5 n5 c5, .bool false] u ∧ (owns g6 #[.slice A6 n6 c6, .bool (condV (⟨ofL ⟨#[49]⟩, false⟩ : V) (⟨l0, s0⟩ : V) (⟨l1, s1⟩ : V)).s] u ∧ (owns g7 #[.slice A7 n7 c7, .bool (condV (⟨ofL ⟨#[48]⟩, false⟩ : V) (⟨l0, s0⟩ : V) (⟨l1, s1⟩ : V)).s] u ∧ (rds A0 n0 l0 u ∧ (rds A1 n1 l1 u ∧ (rds A5 n5 (ofL ⟨#[49]⟩) u ∧ (rds A6 n6 (condV (⟨ofL ⟨#[49]⟩, false⟩ : V) (⟨l0, s0⟩ : V) (⟨l1, s1⟩ : V)).l u ∧ (rds A7 n7 (condV (⟨ofL ⟨#[48]⟩, false⟩ : V) (⟨l0, s0⟩ : V) (⟨l1, s1⟩ : V)).l u ∧ (tbs u ∧ blw w u))))))))))) [] [isV (.agg #[.slice A0 n0 c0, .bool s0]), isV (.agg #[.slice A1 n1 c1, .bool s1]), isW (one1 (fromI (mtB noW (⟨l0, s0⟩ : V) (⟨l1, s1⟩ : V)))), isV (.agg #[.slice A5 n5 c5, .bool false]), isV (.bool false), isV (.bool false)] [some 27, some 28, some 29, some 30, some 31, some 8] [[], [], [0, 1], [], [2, 3, 2], [4, 4, 0, 1, 2, 3, 4]] (by kernel_rfl) (by kernel_rfl) rfl (by kernel_rfl) (by kernel_rfl) (by kernel_rfl) ⟨O2.drew, O3.drew, O5.drew, O6.drew, O7.drew, r0.drew, r1.drew, r5.drew, r6.drew, r7.drew, TT.drew, below_drew BB⟩ (fun _ h => by cases h) ?_ ?_
              · refine ⟨?_, ?_, ?_, ?_, ?_, ?_, trivial⟩
                · intro a w' hS hO hF' hP K hK
                  have ha := hO 2 (by rfl)
                  refine if_ok (by rfl) ?_
                  refine wp_load_row 24 (.tmp 2) rfl w.heap.size (ev ha) _ _ (0, 0) _ hS.1 Tryd.underlying24 rfl (by kernel_rfl) ?_
                  exact hK _ w' (fun h => by cases h) (keep_same hS) rfl
                · intro a w' hS hO hF' hP K hK
                  have ha := hO 3 (by rfl)
                  refine if_ok (by rfl) ?_
                  refine wp_load_row 24 (.tmp 3) rfl (w.heap.size + 1) (ev ha) _ _ (0, 0) _ hS.2.1 Tryd.underlying24 rfl (by kernel_rfl) ?_
                  exact hK _ w' (fun h => by cases h) (keep_same hS) rfl
                · intro a w' hS hO hF' hP K hK
                  obtain ⟨_, f0, rfl⟩ := (hF' 0 rfl).1 27 _ rfl rfl
                  obtain ⟨_, f1, rfl⟩ := (hF' 1 rfl).1 28 _ rfl rfl
                  refine if_ok (by rfl) ?_
                  refine wp_calls rfl (enters_of Tryd.func17 (by kernel_rfl) rfl) (args := #[(.agg #[.slice A0 n0 c0, .bool s0]), (.agg #[.slice A1 n1 c1, .bool s1])]) (by simp [Act.eval, f0, f1]) ?_
                  obtain ⟨O2, O3, O5, O6, O7, r0, r1, r5, r6, r7, TT, BB⟩ := id hS
                  apply Calls.mono
                  (with_reducible apply caseEq_any_w); (repeat (first | assumption | (with_reducible (apply Nb.rd; assumption)) | (with_reducible (apply Rb.at_later; assumption)) | (with_reducible (apply Tabs.at_later; assumption)) | (with_reducible apply Rb.alloc) | (with_reducible apply Tabs.alloc) | (with_reducible apply Rb.drew) | (with_reducible apply Tabs.drew) | (show I64 _; unfold I64; omega) | omega))
                  rintro e w2 ⟨A, n, c, rfl, hc, hn, hv, hb⟩
                  exact ⟨_, rfl, hK _ w2 (fun h => by cases h) (keep_below hb hS) ⟨A, n, c, rfl, hc, hn, hv.rd⟩⟩
                · intro a w' hS hO hF' hP K hK
                  have ha := hO 5 (by rfl)
                  refine if_ok (by rfl) ?_
                  refine wp_load_row 24 (.tmp 5) rfl w5.heap.size (ev ha) _ _ (0, 0) _ hS.2.2.1 Tryd.underlying24 rfl (by kernel_rfl) ?_
                  exact hK _ w' (fun h => by cases h) (keep_same hS) rfl
                · intro a w' hS hO hF' hP K hK
                  obtain ⟨_, f0, Ay0, ny0, cy0, rfl, hc0, hn0, hr0⟩ := (hF' 2 rfl).1 29 _ rfl rfl
                  obtain ⟨_, f1, rfl⟩ := (hF' 3 rfl).1 30 _ rfl rfl
                  refine if_ok (by rfl) ?_
                  refine wp_calls rfl (enters_of Tryd.func10 (by kernel_rfl) rfl) (args := #[(.agg #[.slice Ay0 ny0 cy0, .bool (one1 (fromI (mtB noW (⟨l0, s0⟩ : V) (⟨l1, s1⟩ : V)))).s]), (.agg #[.slice A5 n5 c5, .bool false])]) (by simp [Act.eval, f0, f1]) ?_
                  obtain ⟨O2, O3, O5, O6, O7, r0, r1, r5, r6, r7, TT, BB⟩ := id hS
                  apply Calls.mono
                  (refine same_b (p := false) _ _ _ _ _ _ _ _ _ _ _ ?_ ?_ ?_ ?_ ((ce_same (⟨l0, s0⟩ : V) (⟨l1, s1⟩ : V)).trans hE)); (repeat (first | assumption | (with_reducible (apply Nb.rd; assumption)) | (with_reducible (apply Rb.at_later; assumption)) | (with_reducible (apply Tabs.at_later; assumption)) | (with_reducible apply Rb.alloc) | (with_reducible apply Tabs.alloc) | (with_reducible apply Rb.drew) | (with_reducible apply Tabs.drew) | (show I64 _; unfold I64; omega) | omega))
                  rintro e w2 ⟨rfl, hb⟩
                  exact ⟨_, rfl, hK _ w2 (fun h => by cases h) (keep_below hb hS) rfl⟩
                · intro a w' hS hO hF' hP K hK
                  obtain ⟨_, f0, rfl⟩ := (hF' 4 rfl).1 31 _ rfl rfl
                  refine if_ok (by rfl) ?_
                  unfold Oper.wp execOp
                  simp only [Sem.run_pure, ev f0]
                  exact hK _ w' (fun h => by cases h) (keep_same hS) rfl
              · intro vs u hl hS hV
                match vs, hl, hV with
                | [v0, v1, v2, v3, v4, v5], _, hV =>
                  obtain rfl := hV 0 _ rfl
                  obtain rfl := hV 1 _ rfl
                  obtain rfl := hV 3 _ rfl
                  obtain rfl := hV 4 _ rfl
                  obtain rfl := hV 5 _ rfl
                  simp only [puts, Act.put, List.setIfInBounds_toArray, List.set_cons_zero, List.set_cons_succ]
                  obtain ⟨O2, O3, O5, O6, O7, r0, r1, r5, r6, r7, TT, BB⟩ := hS
                  clear hV
                  replace O2 : Own u w.heap.size 24 #[.slice A0 n0 c0, .bool s0] := O2
                  replace O3 : Own u (w.heap.size + 1) 24 #[.slice A1 n1 c1, .bool s1] := O3
                  replace O5 : Own u w5.heap.size 24 #[.slice A5 n5 c5, .bool false] := O5
                  replace O6 : Own u g6 24 #[.slice A6 n6 c6, .bool (condV (⟨ofL ⟨#[49]⟩, false⟩ : V) (⟨l0, s0⟩ : V) (⟨l1, s1⟩ : V)).s] := O6
                  replace O7 : Own u g7 24 #[.slice A7 n7 c7, .bool (condV (⟨ofL ⟨#[48]⟩, false⟩ : V) (⟨l0, s0⟩ : V) (⟨l1, s1⟩ : V)).s] := O7
                  replace r0 : Rb u A0 n0 l0 := r0
                  replace r1 : Rb u A1 n1 l1 := r1
                  replace r5 : Rb u A5 n5 (ofL ⟨#[49]⟩) := r5
                  replace r6 : Rb u A6 n6 (condV (⟨ofL ⟨#[49]⟩, false⟩ : V) (⟨l0, s0⟩ : V) (⟨l1, s1⟩ : V)).l := r6
                  replace r7 : Rb u A7 n7 (condV (⟨ofL ⟨#[48]⟩, false⟩ : V) (⟨l0, s0⟩ : V) (⟨l1, s1⟩ : V)).l := r7
                  replace TT : Tabs u := TT
                  replace BB : Below w.heap.size w u := BB
                  go_wp2
                  refine region_y (by kernel_rfl) (fun u => owns w.heap.size #[.slice A0 n0 c0, .bool s0] u ∧ (owns (w.heap.size + 1) #[.slice A1 n1 c1, .bool s1] u ∧ (owns w5.heap.size #[.slice A5 n5 c5, .bool false] u ∧ (owns g6 #[.slice A6 n6 c6, .bool (condV (⟨ofL ⟨#[49]⟩, false⟩ : V) (⟨l0, s0⟩ : V) (⟨l1, s1⟩ : V)).s] u ∧ (owns g7 #[.slice A7 n7 c7, .bool (condV (⟨ofL ⟨#[48]⟩, false⟩ : V) (⟨l0, s0⟩ : V) (⟨l1, s1⟩ : V)).s] u ∧ (rds A0 n0 l0 u ∧ (rds A1 n1 l1 u ∧ (rds A5 n5 (ofL ⟨#[49]⟩) u ∧ (rds A6 n6 (condV (⟨ofL ⟨#[49]⟩, false⟩ : V) (⟨l0, s0⟩ : V) (⟨l1, s1⟩ : V)).l u ∧ (rds A7 n7 (condV (⟨ofL ⟨#[48]⟩, false⟩ : V) (⟨l0, s0⟩ : V) (⟨l1, s1⟩ : V)).l u ∧ (tbs u ∧ blw w u))))))))))) [] [isV (.bool false), isV (.agg #[.slice A6 n6 c6, .bool (condV (⟨ofL ⟨#[49]⟩, false⟩ : V) (⟨l0, s0⟩ : V) (⟨l1, s1⟩ : V)).s]), isV (.agg #[.slice A7 n7 c7, .bool (condV (⟨ofL ⟨#[48]⟩, false⟩ : V) (⟨l0, s0⟩ : V) (⟨l1, s1⟩ : V)).s]), isV (.bool false), isV (.bool false), isV (.bool false), isV (.agg #[.slice A0 n0 c0, .bool s0]), isV (.agg #[.slice A1 n1 c1, .bool s1]), isW (one1 (notI (fromI (mtB noW (⟨l0, s0⟩ : V) (⟨l1, s1⟩ : V))))), isV (.agg #[.slice A5 n5 c5, .bool false]), isV (.bool true), isV (.bool false), isV (.bool false), isV (.bool false), isV (.bool false), isV (.bool false), isV (.bool false), isV undef, isV undef, isV undef, isV undef, isV (.bool false), isV (.bool false), isV (.bool false), isV (.agg #[.slice A0 n0 c0, .bool s0]), isV (.agg #[.slice A1 n1 c1, .bool s1]), isV (.bool false), isV (.bool false), isV undef, isV undef, isV undef, isV undef, isV (.bool false), isV (.bool false)] [some 32, some 33, some 34, some 35, some 36, some 37, some 38, some 39, some 40, some 41, some 42, some 43, some 44, some 45, some 46, some 47, some 48, some 49, some 50, some 51, some 52, some 53, some 54, some 55, some 56, some 57, some 58, some 59, some 60, some 61, some 62, some 63, some 64, some 65] [[], [], [], [1, 2], [0, 3], [4, 3], [5], [5], [6, 7, 5, 5], [5], [8, 9, 8, 5], [5], [10, 11, 5], [5, 12], [13, 10], [14], [15, 14, 14], [16], [16], [17, 18, 16, 16], [19, 16], [16, 20, 14], [14, 21], [22, 19], [23], [23], [24, 25, 23, 23], [26, 26, 23], [27], [27], [28, 29, 27, 27], [30, 27], [27, 31, 23], [23, 32]] (by kernel_rfl) (by kernel_rfl) rfl (by kernel_rfl) (by kernel_rfl) (by kernel_rfl) ⟨O2.drew, O3.drew, O5.drew, O6.drew, O7.drew, r0.drew, r1.drew, r5.drew, r6.drew, r7.drew, TT.drew, below_drew BB⟩ (fun _ h => by cases h) ?_ ?_
                  · refine ⟨?_, ?_, ?_, ?_, ?_, ?_, ?_, ?_, ?_, ?_, ?_, ?_, ?_, ?_, ?_, ?_, ?_, ?_, ?_, ?_, ?_, ?_, ?_, ?_, ?_, ?_, ?_, ?_, ?_, ?_, ?_, ?_, ?_, ?_, trivial⟩
                    · intro a w' hS hO hF' hP K hK
                      have f0 := hO 8 (by rfl)
                      refine if_ok (by rfl) ?_
                      unfold Oper.wp execOp
                      simp only [Sem.run_pure, ev f0]
                      exact hK _ w' (fun h => by cases h) (keep_same hS) rfl
                    · intro a w' hS hO hF' hP K hK
                      have ha := hO 6 (by rfl)
                      refine if_ok (by rfl) ?_
                      refine wp_load_row 24 (.tmp 6) rfl g6 (ev ha) _ _ (0, 0) _ hS.2.2.2.1 Tryd.underlying24 rfl (by kernel_rfl) ?_
                      exact hK _ w' (fun h => by cases h) (keep_same hS) rfl
                    · intro a w' hS hO hF' hP K hK
                      have ha := hO 7 (by rfl)
                      refine if_ok (by rfl) ?_
                      refine wp_load_row 24 (.tmp 7) rfl g7 (ev ha) _ _ (0, 0) _ hS.2.2.2.2.1 Tryd.underlying24 rfl (by kernel_rfl) ?_
                      exact hK _ w' (fun h => by cases h) (keep_same hS) rfl
                    · intro a w' hS hO hF' hP K hK
                      obtain ⟨_, f0, rfl⟩ := (hF' 1 rfl).1 33 _ rfl rfl
                      obtain ⟨_, f1, rfl⟩ := (hF' 2 rfl).1 34 _ rfl rfl
                      refine if_ok (by rfl) ?_
                      refine wp_calls rfl (enters_of Tryd.func10 (by kernel_rfl) rfl) (args := #[(.agg #[.slice A6 n6 c6, .bool (condV (⟨ofL ⟨#[49]⟩, false⟩ : V) (⟨l0, s0⟩ : V) (⟨l1, s1⟩ : V)).s]), (.agg #[.slice A7 n7 c7, .bool (condV (⟨ofL ⟨#[48]⟩, false⟩ : V) (⟨l0, s0⟩ : V) (⟨l1, s1⟩ : V)).s])]) (by simp [Act.eval, f0, f1]) ?_
                      obtain ⟨O2, O3, O5, O6, O7, r0, r1, r5, r6, r7, TT, BB⟩ := id hS
                      apply Calls.mono
                      (refine same_b (p := false) _ _ _ _ _ _ _ _ _ _ _ ?_ ?_ ?_ ?_ ((cond_same (⟨l0, s0⟩ : V) (⟨l1, s1⟩ : V)).trans hE)); (repeat (first | assumption | (with_reducible (apply Nb.rd; assumption)) | (with_reducible (apply Rb.at_later; assumption)) | (with_reducible (apply Tabs.at_later; assumption)) | (with_reducible apply Rb.alloc) | (with_reducible apply Tabs.alloc) | (with_reducible apply Rb.drew) | (with_reducible apply Tabs.drew) | (show I64 _; unfold I64; omega) | omega))
                      rintro e w2 ⟨rfl, hb⟩
                      exact ⟨_, rfl, hK _ w2 (fun h => by cases h) (keep_below hb hS) rfl⟩
                    · intro a w' hS hO hF' hP K hK
                      obtain ⟨_, f0, rfl⟩ := (hF' 0 rfl).1 32 _ rfl rfl
                      obtain ⟨_, f1, rfl⟩ := (hF' 3 rfl).1 35 _ rfl rfl
                      refine if_ok (by rfl) ?_
                      refine wp_val (w' := w') (q := .bool false) (by unfold execOp; simp only [(ev f0), (ev f1)]; simp [go_sem]) ?_
                      exact hK _ w' (fun h => by cases h) (keep_same hS) rfl
                    · intro a w' hS hO hF' hP K hK
                      obtain ⟨_, f0, rfl⟩ := (hF' 4 rfl).1 36 _ rfl rfl
                      refine if_ok (by rfl) ?_
                      unfold Oper.wp execOp
                      simp only [Sem.run_pure, ev f0]
                      exact hK _ w' (fun h => by cases h) (keep_same hS) rfl
                    · intro a w' hS hO hF' hP K hK
                      obtain ⟨_, fg, rfl⟩ := (hF' 5 rfl).1 37 _ rfl rfl
                      have ha := hO 2 (by rfl)
                      refine if_wanted (by rfl) (yield_of (by rfl) fg) ?_
                      refine wp_load_row 24 (.tmp 2) rfl w.heap.size (ev ha) _ _ (0, 0) _ hS.1 Tryd.underlying24 rfl (by kernel_rfl) ?_
                      exact hK _ w' (fun h => by cases h) (keep_same hS) rfl
                    · intro a w' hS hO hF' hP K hK
                      obtain ⟨_, fg, rfl⟩ := (hF' 5 rfl).1 37 _ rfl rfl
                      have ha := hO 3 (by rfl)
                      refine if_wanted (by rfl) (yield_of (by rfl) fg) ?_
                      refine wp_load_row 24 (.tmp 3) rfl (w.heap.size + 1) (ev ha) _ _ (0, 0) _ hS.2.1 Tryd.underlying24 rfl (by kernel_rfl) ?_
                      exact hK _ w' (fun h => by cases h) (keep_same hS) rfl
                    · intro a w' hS hO hF' hP K hK
                      obtain ⟨_, fg, rfl⟩ := (hF' 5 rfl).1 37 _ rfl rfl
                      obtain ⟨_, f0, rfl⟩ := (hF' 6 rfl).1 38 _ rfl rfl
                      obtain ⟨_, f1, rfl⟩ := (hF' 7 rfl).1 39 _ rfl rfl
                      refine if_wanted (by rfl) (yield_of (by rfl) fg) ?_
                      refine wp_calls rfl (enters_of Tryd.func18 (by kernel_rfl) rfl) (args := #[(.agg #[.slice A0 n0 c0, .bool s0]), (.agg #[.slice A1 n1 c1, .bool s1])]) (by simp [Act.eval, f0, f1]) ?_
                      obtain ⟨O2, O3, O5, O6, O7, r0, r1, r5, r6, r7, TT, BB⟩ := id hS
                      apply Calls.mono
                      (with_reducible apply caseNe_any_w); (repeat (first | assumption | (with_reducible (apply Nb.rd; assumption)) | (with_reducible (apply Rb.at_later; assumption)) | (with_reducible (apply Tabs.at_later; assumption)) | (with_reducible apply Rb.alloc) | (with_reducible apply Tabs.alloc) | (with_reducible apply Rb.drew) | (with_reducible apply Tabs.drew) | (show I64 _; unfold I64; omega) | omega))
                      rintro e w2 ⟨A, n, c, rfl, hc, hn, hv, hb⟩
                      exact ⟨_, rfl, hK _ w2 (fun h => by cases h) (keep_below hb hS) ⟨A, n, c, rfl, hc, hn, hv.rd⟩⟩
                    · intro a w' hS hO hF' hP K hK
                      obtain ⟨_, fg, rfl⟩ := (hF' 5 rfl).1 37 _ rfl rfl
                      have ha := hO 5 (by rfl)
                      refine if_wanted (by rfl) (yield_of (by rfl) fg) ?_
                      refine wp_load_row 24 (.tmp 5) rfl w5.heap.size (ev ha) _ _ (0, 0) _ hS.2.2.1 Tryd.underlying24 rfl (by kernel_rfl) ?_
                      exact hK _ w' (fun h => by cases h) (keep_same hS) rfl
                    · intro a w' hS hO hF' hP K hK
                      obtain ⟨_, fg, rfl⟩ := (hF' 5 rfl).1 37 _ rfl rfl
                      obtain ⟨_, f0, Ay0, ny0, cy0, rfl, hc0, hn0, hr0⟩ := (hF' 8 rfl).1 40 _ rfl rfl
                      obtain ⟨_, f1, rfl⟩ := (hF' 9 rfl).1 41 _ rfl rfl
                      refine if_wanted (by rfl) (yield_of (by rfl) fg) ?_
                      refine wp_calls rfl (enters_of Tryd.func10 (by kernel_rfl) rfl) (args := #[(.agg #[.slice Ay0 ny0 cy0, .bool (one1 (notI (fromI (mtB noW (⟨l0, s0⟩ : V) (⟨l1, s1⟩ : V))))).s]), (.agg #[.slice A5 n5 c5, .bool false])]) (by simp [Act.eval, f0, f1]) ?_
                      obtain ⟨O2, O3, O5, O6, O7, r0, r1, r5, r6, r7, TT, BB⟩ := id hS
                      apply Calls.mono
                      (refine same_b (p := true) _ _ _ _ _ _ _ _ _ _ _ ?_ ?_ ?_ ?_ ((by rw [ne_same, hE]; rfl))); (repeat (first | assumption | (with_reducible (apply Nb.rd; assumption)) | (with_reducible (apply Rb.at_later; assumption)) | (with_reducible (apply Tabs.at_later; assumption)) | (with_reducible apply Rb.alloc) | (with_reducible apply Tabs.alloc) | (with_reducible apply Rb.drew) | (with_reducible apply Tabs.drew) | (show I64 _; unfold I64; omega) | omega))
                      rintro e w2 ⟨rfl, hb⟩
                      exact ⟨_, rfl, hK _ w2 (fun h => by cases h) (keep_below hb hS) rfl⟩
                    · intro a w' hS hO hF' hP K hK
                      obtain ⟨_, fg, rfl⟩ := (hF' 5 rfl).1 37 _ rfl rfl
                      have f0 := hO 8 (by rfl)
                      refine if_wanted (by rfl) (yield_of (by rfl) fg) ?_
                      unfold Oper.wp execOp
                      simp only [Sem.run_pure, ev f0]
                      exact hK _ w' (fun h => by cases h) (keep_same hS) rfl
                    · intro a w' hS hO hF' hP K hK
                      obtain ⟨_, fg, rfl⟩ := (hF' 5 rfl).1 37 _ rfl rfl
                      obtain ⟨_, f0, rfl⟩ := (hF' 10 rfl).1 42 _ rfl rfl
                      obtain ⟨_, f1, rfl⟩ := (hF' 11 rfl).1 43 _ rfl rfl
                      refine if_wanted (by rfl) (yield_of (by rfl) fg) ?_
                      refine wp_val (w' := w') (q := .bool false) (by unfold execOp; simp only [(ev f0), (ev f1)]; simp [go_sem]) ?_
                      exact hK _ w' (fun h => by cases h) (keep_same hS) rfl
                    · intro a w' hS hO hF' hP K hK
                      obtain ⟨_, f0, rfl⟩ := (hF' 5 rfl).1 37 _ rfl rfl
                      obtain ⟨_, f1, rfl⟩ := (hF' 12 rfl).1 44 _ rfl rfl
                      refine if_ok (by rfl) ?_
                      refine wp_pick_or _ _ _ rfl (ev f0) (ev f1) ?_
                      exact hK _ w' (fun h => by cases h) (keep_same hS) rfl
                    · intro a w' hS hO hF' hP K hK
                      obtain ⟨_, f0, rfl⟩ := (hF' 13 rfl).1 45 _ rfl rfl
                      refine if_ok (by rfl) ?_
                      unfold Oper.wp execOp
                      simp only [Sem.run_pure, ev f0]
                      exact hK _ w' (fun h => by cases h) (keep_same hS) rfl
                    · intro a w' hS hO hF' hP K hK
                      obtain ⟨_, fg, rfl⟩ := (hF' 14 rfl).1 46 _ rfl rfl
                      have f0 := hO 8 (by rfl)
                      refine if_wanted (by rfl) (yield_of (by rfl) fg) ?_
                      unfold Oper.wp execOp
                      simp only [Sem.run_pure, ev f0]
                      exact hK _ w' (fun h => by cases h) (keep_same hS) rfl
                    · intro a w' hS hO hF' hP K hK
                      obtain ⟨_, fg, rfl⟩ := (hF' 14 rfl).1 46 _ rfl rfl
                      obtain ⟨_, f0, rfl⟩ := (hF' 15 rfl).1 47 _ rfl rfl
                      refine if_wanted (by rfl) (yield_of (by rfl) fg) ?_
                      unfold Oper.wp execOp
                      simp only [Sem.run_pure, ev f0]
                      exact hK _ w' (fun h => by cases h) (keep_same hS) rfl
                    · intro a w' hS hO hF' hP K hK
                      obtain ⟨_, fg, rfl⟩ := (hF' 16 rfl).1 48 _ rfl rfl
                      refine if_unwanted (by rfl) (yield_of (by rfl) fg) ?_
                      exact hK _ w' (fun h => by cases h) (keep_same hS) rfl
                    · intro a w' hS hO hF' hP K hK
                      obtain ⟨_, fg, rfl⟩ := (hF' 16 rfl).1 48 _ rfl rfl
                      refine if_unwanted (by rfl) (yield_of (by rfl) fg) ?_
                      exact hK _ w' (fun h => by cases h) (keep_same hS) rfl
                    · intro a w' hS hO hF' hP K hK
                      obtain ⟨_, fg, rfl⟩ := (hF' 16 rfl).1 48 _ rfl rfl
                      refine if_unwanted (by rfl) (yield_of (by rfl) fg) ?_
                      exact hK _ w' (fun h => by cases h) (keep_same hS) rfl
                    · intro a w' hS hO hF' hP K hK
                      obtain ⟨_, fg, rfl⟩ := (hF' 16 rfl).1 48 _ rfl rfl
                      refine if_unwanted (by rfl) (yield_of (by rfl) fg) ?_
                      exact hK _ w' (fun h => by cases h) (keep_same hS) rfl
                    · intro a w' hS hO hF' hP K hK
                      obtain ⟨_, fg, rfl⟩ := (hF' 14 rfl).1 46 _ rfl rfl
                      obtain ⟨_, f0, rfl⟩ := (hF' 16 rfl).1 48 _ rfl rfl
                      refine if_wanted (by rfl) (yield_of (by rfl) fg) ?_
                      refine wp_pick_or _ _ _ rfl (ev f0) rfl ?_
                      exact hK _ w' (fun h => by cases h) (keep_same hS) rfl
                    · intro a w' hS hO hF' hP K hK
                      obtain ⟨_, f0, rfl⟩ := (hF' 14 rfl).1 46 _ rfl rfl
                      obtain ⟨_, f1, rfl⟩ := (hF' 21 rfl).1 53 _ rfl rfl
                      refine if_ok (by rfl) ?_
                      refine wp_pick_or _ _ _ rfl (ev f0) (ev f1) ?_
                      exact hK _ w' (fun h => by cases h) (keep_same hS) rfl
                    · intro a w' hS hO hF' hP K hK
                      obtain ⟨_, f0, rfl⟩ := (hF' 22 rfl).1 54 _ rfl rfl
                      refine if_ok (by rfl) ?_
                      unfold Oper.wp execOp
                      simp only [Sem.run_pure, ev f0]
                      exact hK _ w' (fun h => by cases h) (keep_same hS) rfl
                    · intro a w' hS hO hF' hP K hK
                      obtain ⟨_, fg, rfl⟩ := (hF' 23 rfl).1 55 _ rfl rfl
                      have ha := hO 2 (by rfl)
                      refine if_wanted (by rfl) (yield_of (by rfl) fg) ?_
                      refine wp_load_row 24 (.tmp 2) rfl w.heap.size (ev ha) _ _ (0, 0) _ hS.1 Tryd.underlying24 rfl (by kernel_rfl) ?_
                      exact hK _ w' (fun h => by cases h) (keep_same hS) rfl
                    · intro a w' hS hO hF' hP K hK
                      obtain ⟨_, fg, rfl⟩ := (hF' 23 rfl).1 55 _ rfl rfl
                      have ha := hO 3 (by rfl)
                      refine if_wanted (by rfl) (yield_of (by rfl) fg) ?_
                      refine wp_load_row 24 (.tmp 3) rfl (w.heap.size + 1) (ev ha) _ _ (0, 0) _ hS.2.1 Tryd.underlying24 rfl (by kernel_rfl) ?_
                      exact hK _ w' (fun h => by cases h) (keep_same hS) rfl
                    · intro a w' hS hO hF' hP K hK
                      obtain ⟨_, fg, rfl⟩ := (hF' 23 rfl).1 55 _ rfl rfl
                      obtain ⟨_, f0, rfl⟩ := (hF' 24 rfl).1 56 _ rfl rfl
                      obtain ⟨_, f1, rfl⟩ := (hF' 25 rfl).1 57 _ rfl rfl
                      refine if_wanted (by rfl) (yield_of (by rfl) fg) ?_
                      refine wp_calls rfl (enters_of Tryd.func19 (by kernel_rfl) rfl) (args := #[(.agg #[.slice A0 n0 c0, .bool s0]), (.agg #[.slice A1 n1 c1, .bool s1])]) (by simp [Act.eval, f0, f1]) ?_
                      obtain ⟨O2, O3, O5, O6, O7, r0, r1, r5, r6, r7, TT, BB⟩ := id hS
                      apply Calls.mono
                      (with_reducible apply matchZ_b (p := false)); (repeat (first | assumption | (with_reducible (apply Nb.rd; assumption)) | (with_reducible (apply Rb.at_later; assumption)) | (with_reducible (apply Tabs.at_later; assumption)) | (with_reducible apply Rb.alloc) | (with_reducible apply Tabs.alloc) | (with_reducible apply Rb.drew) | (with_reducible apply Tabs.drew) | (show I64 _; unfold I64; omega) | omega)); (try exact hZ)
                      rintro e w2 ⟨rfl, hb⟩
                      exact ⟨_, rfl, hK _ w2 (fun h => by cases h) (keep_below hb hS) rfl⟩
                    · intro a w' hS hO hF' hP K hK
                      obtain ⟨_, fg, rfl⟩ := (hF' 23 rfl).1 55 _ rfl rfl
                      obtain ⟨_, f0, rfl⟩ := (hF' 26 rfl).1 58 _ rfl rfl
                      refine if_wanted (by rfl) (yield_of (by rfl) fg) ?_
                      unfold Oper.wp execOp
                      simp only [Sem.run_pure, ev f0]
                      exact hK _ w' (fun h => by cases h) (keep_same hS) rfl
                    · intro a w' hS hO hF' hP K hK
                      obtain ⟨_, fg, rfl⟩ := (hF' 27 rfl).1 59 _ rfl rfl
                      refine if_unwanted (by rfl) (yield_of (by rfl) fg) ?_
                      exact hK _ w' (fun h => by cases h) (keep_same hS) rfl
                    · intro a w' hS hO hF' hP K hK
                      obtain ⟨_, fg, rfl⟩ := (hF' 27 rfl).1 59 _ rfl rfl
                      refine if_unwanted (by rfl) (yield_of (by rfl) fg) ?_
                      exact hK _ w' (fun h => by cases h) (keep_same hS) rfl
                    · intro a w' hS hO hF' hP K hK
                      obtain ⟨_, fg, rfl⟩ := (hF' 27 rfl).1 59 _ rfl rfl
                      refine if_unwanted (by rfl) (yield_of (by rfl) fg) ?_
                      exact hK _ w' (fun h => by cases h) (keep_same hS) rfl
                    · intro a w' hS hO hF' hP K hK
                      obtain ⟨_, fg, rfl⟩ := (hF' 27 rfl).1 59 _ rfl rfl
                      refine if_unwanted (by rfl) (yield_of (by rfl) fg) ?_
                      exact hK _ w' (fun h => by cases h) (keep_same hS) rfl
                    · intro a w' hS hO hF' hP K hK
                      obtain ⟨_, fg, rfl⟩ := (hF' 23 rfl).1 55 _ rfl rfl
                      obtain ⟨_, f0, rfl⟩ := (hF' 27 rfl).1 59 _ rfl rfl
                      refine if_wanted (by rfl) (yield_of (by rfl) fg) ?_
                      refine wp_pick_or _ _ _ rfl (ev f0) rfl ?_
                      exact hK _ w' (fun h => by cases h) (keep_same hS) rfl
                    · intro a w' hS hO hF' hP K hK
                      obtain ⟨_, f0, rfl⟩ := (hF' 23 rfl).1 55 _ rfl rfl
                      obtain ⟨_, f1, rfl⟩ := (hF' 32 rfl).1 64 _ rfl rfl
                      refine if_ok (by rfl) ?_
                      refine wp_pick_or _ _ _ rfl (ev f0) (ev f1) ?_
                      exact hK _ w' (fun h => by cases h) (keep_same hS) rfl
                  · intro vs u hl hS hV
                    match vs, hl, hV with
                    | v0 :: v1 :: v2 :: v3 :: v4 :: v5 :: v6 :: v7 :: v8 :: v9 :: v10 :: v11 :: v12 :: v13 :: v14 :: v15 :: v16 :: v17 :: v18 :: v19 :: v20 :: v21 :: v22 :: v23 :: v24 :: v25 :: v26 :: v27 :: v28 :: v29 :: v30 :: v31 :: v32 :: v33 :: [], _, hV =>
                      obtain rfl := hV 0 _ rfl
                      obtain rfl := hV 1 _ rfl
                      obtain rfl := hV 2 _ rfl
                      obtain rfl := hV 3 _ rfl
                      obtain rfl := hV 4 _ rfl
                      obtain rfl := hV 5 _ rfl
                      obtain rfl := hV 6 _ rfl
                      obtain rfl := hV 7 _ rfl
                      obtain rfl := hV 9 _ rfl
                      obtain rfl := hV 10 _ rfl
                      obtain rfl := hV 11 _ rfl
                      obtain rfl := hV 12 _ rfl
                      obtain rfl := hV 13 _ rfl
                      obtain rfl := hV 14 _ rfl
                      obtain rfl := hV 15 _ rfl
                      obtain rfl := hV 16 _ rfl
                      obtain rfl := hV 17 _ rfl
                      obtain rfl := hV 18 _ rfl
                      obtain rfl := hV 19 _ rfl
                      obtain rfl := hV 20 _ rfl
                      obtain rfl := hV 21 _ rfl
                      obtain rfl := hV 22 _ rfl
                      obtain rfl := hV 23 _ rfl
                      obtain rfl := hV 24 _ rfl
                      obtain rfl := hV 25 _ rfl
                      obtain rfl := hV 26 _ rfl
                      obtain rfl := hV 27 _ rfl
                      obtain rfl := hV 28 _ rfl
                      obtain rfl := hV 29 _ rfl
                      obtain rfl := hV 30 _ rfl
                      obtain rfl := hV 31 _ rfl
                      obtain rfl := hV 32 _ rfl
                      obtain rfl := hV 33 _ rfl
                      simp only [puts, Act.put, List.setIfInBounds_toArray, List.set_cons_zero, List.set_cons_succ]
                      obtain ⟨O2, O3, O5, O6, O7, r0, r1, r5, r6, r7, TT, BB⟩ := hS
                      clear hV
                      replace O2 : Own u w.heap.size 24 #[.slice A0 n0 c0, .bool s0] := O2
                      replace O3 : Own u (w.heap.size + 1) 24 #[.slice A1 n1 c1, .bool s1] := O3
                      replace O5 : Own u w5.heap.size 24 #[.slice A5 n5 c5, .bool false] := O5
                      replace O6 : Own u g6 24 #[.slice A6 n6 c6, .bool (condV (⟨ofL ⟨#[49]⟩, false⟩ : V) (⟨l0, s0⟩ : V) (⟨l1, s1⟩ : V)).s] := O6
                      replace O7 : Own u g7 24 #[.slice A7 n7 c7, .bool (condV (⟨ofL ⟨#[48]⟩, false⟩ : V) (⟨l0, s0⟩ : V) (⟨l1, s1⟩ : V)).s] := O7
                      replace r0 : Rb u A0 n0 l0 := r0
                      replace r1 : Rb u A1 n1 l1 := r1
                      replace r5 : Rb u A5 n5 (ofL ⟨#[49]⟩) := r5
                      replace r6 : Rb u A6 n6 (condV (⟨ofL ⟨#[49]⟩, false⟩ : V) (⟨l0, s0⟩ : V) (⟨l1, s1⟩ : V)).l := r6
                      replace r7 : Rb u A7 n7 (condV (⟨ofL ⟨#[48]⟩, false⟩ : V) (⟨l0, s0⟩ : V) (⟨l1, s1⟩ : V)).l := r7
                      replace TT : Tabs u := TT
                      replace BB : Below w.heap.size w u := BB
                      replace BB := Lib.hid BB
                      have q20 := O2.cell 0
                      have q21 := O2.cell 1
                      have q30 := O3.cell 0
                      have q31 := O3.cell 1
                      cases hkA : kn (⟨l0, s0⟩ : V)
                      · have KA := Lib.hid (fun (u : World) (h : Rb u A0 n0 l0) => known_b (p := false) A0 n0 c0 s0 l0 u h hkA)
                        go_wp2_with (go_at_call 21; first | ((with_reducible refine (KA.out _ r0).mono ?_); rintro e wn ⟨rfl, hb⟩; have kb := hb; (try replace O2 := O2.step kb); (try replace O3 := O3.step kb); (try replace O5 := O5.step kb); (try replace O6 := O6.step kb); (try replace O7 := O7.step kb); (try replace r0 := r0.step kb); (try replace r1 := r1.step kb); (try replace r5 := r5.step kb); (try replace r6 := r6.step kb); (try replace r7 := r7.step kb); (try replace TT := TT.step kb); replace BB := Lib.hid (below_step BB.out kb); (try clear q20 q21); (try (have q20 := O2.cell 0; have q21 := O2.cell 1)); (try clear q30 q31); (try (have q30 := O3.cell 0; have q31 := O3.cell 1))) | ((with_reducible refine (KB.out _ r1).mono ?_); rintro e wn ⟨rfl, hb⟩; have kb := hb; (try replace O2 := O2.step kb); (try replace O3 := O3.step kb); (try replace O5 := O5.step kb); (try replace O6 := O6.step kb); (try replace O7 := O7.step kb); (try replace r0 := r0.step kb); (try replace r1 := r1.step kb); (try replace r5 := r5.step kb); (try replace r6 := r6.step kb); (try replace r7 := r7.step kb); (try replace TT := TT.step kb); replace BB := Lib.hid (below_step BB.out kb); (try clear q20 q21); (try (have q20 := O2.cell 0; have q21 := O2.cell 1)); (try clear q30 q31); (try (have q30 := O3.cell 0; have q31 := O3.cell 1))))
                        go_ret
                        exact ⟨rfl, BB.out⟩
                      · have KA := Lib.hid (fun (u : World) (h : Rb u A0 n0 l0) => known_b (p := true) A0 n0 c0 s0 l0 u h hkA)
                        cases hkB : kn (⟨l1, s1⟩ : V)
                        · have KB := Lib.hid (fun (u : World) (h : Rb u A1 n1 l1) => known_b (p := false) A1 n1 c1 s1 l1 u h hkB)
                          go_wp2_with (go_at_call 21; first | ((with_reducible refine (KA.out _ r0).mono ?_); rintro e wn ⟨rfl, hb⟩; have kb := hb; (try replace O2 := O2.step kb); (try replace O3 := O3.step kb); (try replace O5 := O5.step kb); (try replace O6 := O6.step kb); (try replace O7 := O7.step kb); (try replace r0 := r0.step kb); (try replace r1 := r1.step kb); (try replace r5 := r5.step kb); (try replace r6 := r6.step kb); (try replace r7 := r7.step kb); (try replace TT := TT.step kb); replace BB := Lib.hid (below_step BB.out kb); (try clear q20 q21); (try (have q20 := O2.cell 0; have q21 := O2.cell 1)); (try clear q30 q31); (try (have q30 := O3.cell 0; have q31 := O3.cell 1))) | ((with_reducible refine (KB.out _ r1).mono ?_); rintro e wn ⟨rfl, hb⟩; have kb := hb; (try replace O2 := O2.step kb); (try replace O3 := O3.step kb); (try replace O5 := O5.step kb); (try replace O6 := O6.step kb); (try replace O7 := O7.step kb); (try replace r0 := r0.step kb); (try replace r1 := r1.step kb); (try replace r5 := r5.step kb); (try replace r6 := r6.step kb); (try replace r7 := r7.step kb); (try replace TT := TT.step kb); replace BB := Lib.hid (below_step BB.out kb); (try clear q20 q21); (try (have q20 := O2.cell 0; have q21 := O2.cell 1)); (try clear q30 q31); (try (have q30 := O3.cell 0; have q31 := O3.cell 1))))
                          go_ret
                          exact ⟨rfl, BB.out⟩
                        · have KB := Lib.hid (fun (u : World) (h : Rb u A1 n1 l1) => known_b (p := true) A1 n1 c1 s1 l1 u h hkB)
                          replace hkA := Lib.hid hkA
                          replace hkB := Lib.hid hkB
                          go_wp2_with (go_at_call 21; first | ((with_reducible refine (KA.out _ r0).mono ?_); rintro e wn ⟨rfl, hb⟩; have kb := hb; (try replace O2 := O2.step kb); (try replace O3 := O3.step kb); (try replace O5 := O5.step kb); (try replace O6 := O6.step kb); (try replace O7 := O7.step kb); (try replace r0 := r0.step kb); (try replace r1 := r1.step kb); (try replace r5 := r5.step kb); (try replace r6 := r6.step kb); (try replace r7 := r7.step kb); (try replace TT := TT.step kb); replace BB := Lib.hid (below_step BB.out kb); (try clear q20 q21); (try (have q20 := O2.cell 0; have q21 := O2.cell 1)); (try clear q30 q31); (try (have q30 := O3.cell 0; have q31 := O3.cell 1))) | ((with_reducible refine (KB.out _ r1).mono ?_); rintro e wn ⟨rfl, hb⟩; have kb := hb; (try replace O2 := O2.step kb); (try replace O3 := O3.step kb); (try replace O5 := O5.step kb); (try replace O6 := O6.step kb); (try replace O7 := O7.step kb); (try replace r0 := r0.step kb); (try replace r1 := r1.step kb); (try replace r5 := r5.step kb); (try replace r6 := r6.step kb); (try replace r7 := r7.step kb); (try replace TT := TT.step kb); replace BB := Lib.hid (below_step BB.out kb); (try clear q20 q21); (try (have q20 := O2.cell 0; have q21 := O2.cell 1)); (try clear q30 q31); (try (have q30 := O3.cell 0; have q31 := O3.cell 1))))
                          exact absurd (known_all hkA.out hkB.out) (by rw [hE, hX]; decide)
      · have hX := z_x hZ
        go_enter Tryd.func4, Tryd.ntmps4
        go_wp2_with (first | (go_at_call 5; refine (HL.out _ _ (by simp)).mono ?_; rintro e wn ⟨rfl, rfl⟩; replace O2 := O2.alloc (.cells #[.slice A0 n0 c0, .bool s0, .slice A1 n1 c1, .bool s1] 24); replace O3 := O3.alloc (.cells #[.slice A0 n0 c0, .bool s0, .slice A1 n1 c1, .bool s1] 24); replace r0 := r0.alloc (.cells #[.slice A0 n0 c0, .bool s0, .slice A1 n1 c1, .bool s1] 24); replace r1 := r1.alloc (.cells #[.slice A0 n0 c0, .bool s0, .slice A1 n1 c1, .bool s1] 24); replace TT := TT.alloc (.cells #[.slice A0 n0 c0, .bool s0, .slice A1 n1 c1, .bool s1] 24); replace BB := Lib.hid (below_new BB.out (.cells #[.slice A0 n0 c0, .bool s0, .slice A1 n1 c1, .bool s1] 24))) | (go_at_call 6; refine (awake_any _ TT).mono ?_; rintro e wn ⟨rfl, hb⟩; have kb := hb; (try replace O2 := O2.step kb); (try replace O3 := O3.step kb); (try replace r0 := r0.step kb); (try replace r1 := r1.step kb); (try replace TT := TT.step kb); replace BB := Lib.hid (below_step BB.out kb); (try clear q20 q21); (try (have q20 := O2.cell 0; have q21 := O2.cell 1)); (try clear q30 q31); (try (have q30 := O3.cell 0; have q31 := O3.cell 1))) | (go_at_call 15; refine (of_w _ _ (by decide)).mono ?_; rintro e w5 ⟨A5, n5, c5, rfl, hc5, hn5, hv, hb⟩; have kb := hb; replace O2 := O2.step kb; replace O3 := O3.step kb; replace r0 := r0.step kb; replace r1 := r1.step kb; replace TT := TT.step kb; replace BB := Lib.hid (below_step BB.out kb); replace O2 := O2.alloc (.cells #[.slice A5 n5 c5, .bool false] 24); replace O3 := O3.alloc (.cells #[.slice A5 n5 c5, .bool false] 24); replace r0 := r0.alloc (.cells #[.slice A5 n5 c5, .bool false] 24); replace r1 := r1.alloc (.cells #[.slice A5 n5 c5, .bool false] 24); replace TT := TT.alloc (.cells #[.slice A5 n5 c5, .bool false] 24); replace BB := Lib.hid (below_new BB.out (.cells #[.slice A5 n5 c5, .bool false] 24)); have O5 := Own.new w5 24 #[.slice A5 n5 c5, .bool false]; have r5 := hv.rd.alloc (.cells #[.slice A5 n5 c5, .bool false] 24); clear hb kb hv))
        have hBase : w.heap.size ≤ w5.heap.size + 1 := by have := BB.out.size; simp at this; omega
        have hq3 : w.heap.size + 1 < w5.heap.size + 1 := by have := O3.lt; simpa using this
        refine region_l (by kernel_rfl) (fun u => owns w.heap.size #[.slice A0 n0 c0, .bool s0] u ∧ (owns (w.heap.size + 1) #[.slice A1 n1 c1, .bool s1] u ∧ (owns w5.heap.size #[.slice A5 n5 c5, .bool false] u ∧ (rds A0 n0 l0 u ∧ (rds A1 n1 l1 u ∧ (rds A5 n5 (ofL ⟨#[49]⟩) u ∧ (szW (w5.heap.size + 1) u ∧ (tbs u ∧ blw w u)))))))) [un (isV (.agg #[.slice A5 n5 c5, .bool false])), un (isV (.agg #[.slice A0 n0 c0, .bool s0])), un (isV (.agg #[.slice A1 n1 c1, .bool s1])), un (isW (condV (⟨(ofL ⟨#[49]⟩), false⟩ : V) (⟨l0, s0⟩ : V) (⟨l1, s1⟩ : V))), un (isW (⟨ofL ⟨#[48]⟩, false⟩ : V)), un (isV (.agg #[.slice A0 n0 c0, .bool s0])), un (isV (.agg #[.slice A1 n1 c1, .bool s1])), un (isW (condV (⟨ofL ⟨#[48]⟩, false⟩ : V) (⟨l0, s0⟩ : V) (⟨l1, s1⟩ : V))), un (isFr (w5.heap.size + 1)), un (isFr (w5.heap.size + 1)), filled (w5.heap.size + 1) (condV (⟨(ofL ⟨#[49]⟩), false⟩ : V) (⟨l0, s0⟩ : V) (⟨l1, s1⟩ : V)), filled (w5.heap.size + 1) (condV (⟨ofL ⟨#[48]⟩, false⟩ : V) (⟨l0, s0⟩ : V) (⟨l1, s1⟩ : V))] [some 19, some 20, some 21, some 22, some 23, some 24, some 25, some 26, some 6, some 7, none, none] [0, 1, 2, 3, 4, 5, 6, 7, 8, 9, 8, 9] [8, 9] [[], [], [], [0, 1, 2], [3], [], [], [4, 5, 6, 4], [], [], [8, 3, 7, 0, 1, 2, 3, 8, 9], [9, 7, 10, 0, 1, 2, 3, 4, 5, 6, 7, 8, 9, 10]] (by kernel_rfl) (by kernel_rfl) rfl (by kernel_rfl) (by kernel_rfl) (by kernel_rfl) (by kernel_rfl) ⟨O2.drew, O3.drew, O5.drew, r0.drew, r1.drew, r5.drew, (by simp [szW, World.drew]), TT.drew, below_drew BB.out⟩ ?_ ?_
        · refine ⟨?_, ?_, ?_, ?_, ?_, ?_, ?_, ?_, ?_, ?_, ?_, ?_, trivial⟩
          · intro a w' hS hO hF hD K hK
            have ha := hO 5 (by rfl)
            refine if_ok (by rfl) ?_
            refine wp_load_row 24 (.tmp 5) rfl w5.heap.size (ev ha) _ _ (0, 0) _ hS.2.2.1 Tryd.underlying24 rfl (by kernel_rfl) ?_
            exact hK _ w' (fun h => by cases h) (Nat.le_refl _) (fun h => absurd h (by decide)) hS (fun _ _ _ _ h => h) (fun V hV => by obtain rfl := Option.some.inj hV; exact rfl)
          · intro a w' hS hO hF hD K hK
            have ha := hO 2 (by rfl)
            refine if_ok (by rfl) ?_
            refine wp_load_row 24 (.tmp 2) rfl w.heap.size (ev ha) _ _ (0, 0) _ hS.1 Tryd.underlying24 rfl (by kernel_rfl) ?_
            exact hK _ w' (fun h => by cases h) (Nat.le_refl _) (fun h => absurd h (by decide)) hS (fun _ _ _ _ h => h) (fun V hV => by obtain rfl := Option.some.inj hV; exact rfl)
          · intro a w' hS hO hF hD K hK
            have ha := hO 3 (by rfl)
            refine if_ok (by rfl) ?_
            refine wp_load_row 24 (.tmp 3) rfl (w.heap.size + 1) (ev ha) _ _ (0, 0) _ hS.2.1 Tryd.underlying24 rfl (by kernel_rfl) ?_
            exact hK _ w' (fun h => by cases h) (Nat.le_refl _) (fun h => absurd h (by decide)) hS (fun _ _ _ _ h => h) (fun V hV => by obtain rfl := Option.some.inj hV; exact rfl)
          · intro a w' hS hO hF hD K hK
            have j0 := hF 0 rfl
            have f0 := j0.2 19 rfl
            rw [show valD _ _ 0 = _ from j0.1 _ rfl] at f0
            have j1 := hF 1 rfl
            have f1 := j1.2 20 rfl
            rw [show valD _ _ 1 = _ from j1.1 _ rfl] at f1
            have j2 := hF 2 rfl
            have f2 := j2.2 21 rfl
            rw [show valD _ _ 2 = _ from j2.1 _ rfl] at f2
            refine if_ok (by rfl) ?_
            refine wp_calls rfl (enters_of Tryd.func16 (by kernel_rfl) rfl) (args := #[(.agg #[.slice A5 n5 c5, .bool false]), (.agg #[.slice A0 n0 c0, .bool s0]), (.agg #[.slice A1 n1 c1, .bool s1])]) (by simp [Act.eval, f0, f1, f2]) ?_
            obtain ⟨O2, O3, O5, r0, r1, r5, BZ, TT, BB⟩ := id hS
            apply Calls.mono
            (with_reducible apply cond_any_w); (repeat (first | assumption | (with_reducible (apply Nb.rd; assumption)) | (with_reducible (apply Rb.at_later; assumption)) | (with_reducible (apply Tabs.at_later; assumption)) | (with_reducible apply Rb.alloc) | (with_reducible apply Tabs.alloc) | (with_reducible apply Rb.drew) | (with_reducible apply Tabs.drew) | (show I64 _; unfold I64; omega) | omega))
            rintro e w2 ⟨A, n, c, rfl, hc, hn, hv, hb⟩
            exact ⟨_, rfl, hK _ w2 (fun h => by cases h) hb.size (fun h => absurd h (by decide)) ((show Stb (fun u => owns w.heap.size #[.slice A0 n0 c0, .bool s0] u ∧ (owns (w.heap.size + 1) #[.slice A1 n1 c1, .bool s1] u ∧ (owns w5.heap.size #[.slice A5 n5 c5, .bool false] u ∧ (rds A0 n0 l0 u ∧ (rds A1 n1 l1 u ∧ (rds A5 n5 (ofL ⟨#[49]⟩) u ∧ (szW (w5.heap.size + 1) u ∧ (tbs u ∧ blw w u)))))))) from inferInstance).st _ _ hb hS) (keepL_below hb) (fun V hV => by obtain rfl := Option.some.inj hV; exact ⟨A, n, c, rfl, hc, hn, hv.rd⟩)⟩
          · intro a w' hS hO hF hD K hK
            refine if_ok (by rfl) ?_
            refine wp_calls rfl (enters_of Tryd.func15 (by kernel_rfl) rfl) (args := #[(.string ⟨#[48]⟩)]) (by simp [Act.eval]) ?_
            obtain ⟨O2, O3, O5, r0, r1, r5, BZ, TT, BB⟩ := id hS
            apply Calls.mono
            (with_reducible apply of_w); decide
            rintro e w2 ⟨A, n, c, rfl, hc, hn, hv, hb⟩
            exact ⟨_, rfl, hK _ w2 (fun h => by cases h) hb.size (fun h => absurd h (by decide)) ((show Stb (fun u => owns w.heap.size #[.slice A0 n0 c0, .bool s0] u ∧ (owns (w.heap.size + 1) #[.slice A1 n1 c1, .bool s1] u ∧ (owns w5.heap.size #[.slice A5 n5 c5, .bool false] u ∧ (rds A0 n0 l0 u ∧ (rds A1 n1 l1 u ∧ (rds A5 n5 (ofL ⟨#[49]⟩) u ∧ (szW (w5.heap.size + 1) u ∧ (tbs u ∧ blw w u)))))))) from inferInstance).st _ _ hb hS) (keepL_below hb) (fun V hV => by obtain rfl := Option.some.inj hV; exact ⟨A, n, c, rfl, hc, hn, hv.rd⟩)⟩
          · intro a w' hS hO hF hD K hK
            have ha := hO 2 (by rfl)
            refine if_ok (by rfl) ?_
            refine wp_load_row 24 (.tmp 2) rfl w.heap.size (ev ha) _ _ (0, 0) _ hS.1 Tryd.underlying24 rfl (by kernel_rfl) ?_
            exact hK _ w' (fun h => by cases h) (Nat.le_refl _) (fun h => absurd h (by decide)) hS (fun _ _ _ _ h => h) (fun V hV => by obtain rfl := Option.some.inj hV; exact rfl)
          · intro a w' hS hO hF hD K hK
            have ha := hO 3 (by rfl)
            refine if_ok (by rfl) ?_
            refine wp_load_row 24 (.tmp 3) rfl (w.heap.size + 1) (ev ha) _ _ (0, 0) _ hS.2.1 Tryd.underlying24 rfl (by kernel_rfl) ?_
            exact hK _ w' (fun h => by cases h) (Nat.le_refl _) (fun h => absurd h (by decide)) hS (fun _ _ _ _ h => h) (fun V hV => by obtain rfl := Option.some.inj hV; exact rfl)
          · intro a w' hS hO hF hD K hK
            have j0 := hF 4 rfl
            have f0 := j0.2 23 rfl
            obtain ⟨Ay0, ny0, cy0, e0, hc0, hn0, hr0⟩ := j0.1 _ rfl
            rw [e0] at f0
            have j1 := hF 5 rfl
            have f1 := j1.2 24 rfl
            rw [show valD _ _ 5 = _ from j1.1 _ rfl] at f1
            have j2 := hF 6 rfl
            have f2 := j2.2 25 rfl
            rw [show valD _ _ 6 = _ from j2.1 _ rfl] at f2
            refine if_ok (by rfl) ?_
            refine wp_calls rfl (enters_of Tryd.func16 (by kernel_rfl) rfl) (args := #[(.agg #[.slice Ay0 ny0 cy0, .bool (⟨ofL ⟨#[48]⟩, false⟩ : V).s]), (.agg #[.slice A0 n0 c0, .bool s0]), (.agg #[.slice A1 n1 c1, .bool s1])]) (by simp [Act.eval, f0, f1, f2]) ?_
            obtain ⟨O2, O3, O5, r0, r1, r5, BZ, TT, BB⟩ := id hS
            apply Calls.mono
            (with_reducible apply cond_any_w); (repeat (first | assumption | (with_reducible (apply Nb.rd; assumption)) | (with_reducible (apply Rb.at_later; assumption)) | (with_reducible (apply Tabs.at_later; assumption)) | (with_reducible apply Rb.alloc) | (with_reducible apply Tabs.alloc) | (with_reducible apply Rb.drew) | (with_reducible apply Tabs.drew) | (show I64 _; unfold I64; omega) | omega))
            rintro e w2 ⟨A, n, c, rfl, hc, hn, hv, hb⟩
            exact ⟨_, rfl, hK _ w2 (fun h => by cases h) hb.size (fun h => absurd h (by decide)) ((show Stb (fun u => owns w.heap.size #[.slice A0 n0 c0, .bool s0] u ∧ (owns (w.heap.size + 1) #[.slice A1 n1 c1, .bool s1] u ∧ (owns w5.heap.size #[.slice A5 n5 c5, .bool false] u ∧ (rds A0 n0 l0 u ∧ (rds A1 n1 l1 u ∧ (rds A5 n5 (ofL ⟨#[49]⟩) u ∧ (szW (w5.heap.size + 1) u ∧ (tbs u ∧ blw w u)))))))) from inferInstance).st _ _ hb hS) (keepL_below hb) (fun V hV => by obtain rfl := Option.some.inj hV; exact ⟨A, n, c, rfl, hc, hn, hv.rd⟩)⟩
          · intro a w' hS hO hF hD K hK
            refine if_ok (by rfl) ?_
            refine wp_alloc rfl ?_
            have hb := below_new (Below.refl w'.heap.size w') (.cells #[.slice none 0 0, .bool false] 24)
            have hBz := hS.2.2.2.2.2.2.1
            exact hK _ _ (fun h => by cases h) hb.size (fun _ => ⟨rfl, by simp⟩) ((show Stb (fun u => owns w.heap.size #[.slice A0 n0 c0, .bool s0] u ∧ (owns (w.heap.size + 1) #[.slice A1 n1 c1, .bool s1] u ∧ (owns w5.heap.size #[.slice A5 n5 c5, .bool false] u ∧ (rds A0 n0 l0 u ∧ (rds A1 n1 l1 u ∧ (rds A5 n5 (ofL ⟨#[49]⟩) u ∧ (szW (w5.heap.size + 1) u ∧ (tbs u ∧ blw w u)))))))) from inferInstance).st _ _ hb hS) (keepL_below hb) (fun V hV => by obtain rfl := Option.some.inj hV; exact ⟨_, rfl, hBz, _, _, _, _, Own.new w' 24 _⟩)
          · intro a w' hS hO hF hD K hK
            refine if_ok (by rfl) ?_
            refine wp_alloc rfl ?_
            have hb := below_new (Below.refl w'.heap.size w') (.cells #[.slice none 0 0, .bool false] 24)
            have hBz := hS.2.2.2.2.2.2.1
            exact hK _ _ (fun h => by cases h) hb.size (fun _ => ⟨rfl, by simp⟩) ((show Stb (fun u => owns w.heap.size #[.slice A0 n0 c0, .bool s0] u ∧ (owns (w.heap.size + 1) #[.slice A1 n1 c1, .bool s1] u ∧ (owns w5.heap.size #[.slice A5 n5 c5, .bool false] u ∧ (rds A0 n0 l0 u ∧ (rds A1 n1 l1 u ∧ (rds A5 n5 (ofL ⟨#[49]⟩) u ∧ (szW (w5.heap.size + 1) u ∧ (tbs u ∧ blw w u)))))))) from inferInstance).st _ _ hb hS) (keepL_below hb) (fun V hV => by obtain rfl := Option.some.inj hV; exact ⟨_, rfl, hBz, _, _, _, _, Own.new w' 24 _⟩)
          · intro a w' hS hO hF hD K hK
            have j0 := hF 3 rfl
            have f0 := j0.2 22 rfl
            obtain ⟨Ay0, ny0, cy0, e0, hc0, hn0, hr0⟩ := j0.1 _ rfl
            rw [e0] at f0
            have jp := hF 8 rfl
            have fp := jp.2 6 rfl
            obtain ⟨g, eg, hg, X, q1, q2, q3, O⟩ := jp.1 _ rfl
            have hgx := eg
            rw [eg] at fp
            have hB0 := hBase
            haveI : Over w g := ⟨Nat.le_trans (show w.heap.size ≤ _ from hB0) hg⟩
            haveI : Apart g w.heap.size := ⟨fun e => by subst e; have := hB0; omega⟩
            haveI : Apart g (w.heap.size + 1) := ⟨fun e => by subst e; have := hB0; omega⟩
            haveI : Apart g w5.heap.size := ⟨fun e => by subst e; have := hB0; omega⟩
            refine if_ok (by rfl) ?_
            refine wp_store_row _ _ _ rfl g _ (ev fp) (ev f0) _ _ O vec_size rfl (by simp [Value.oneCell']) ?_
            exact hK _ _ (fun _ => rfl) (by simp [World.setRow]) (fun h => absurd h (by decide)) ((show Sst g (fun u => owns w.heap.size #[.slice A0 n0 c0, .bool s0] u ∧ (owns (w.heap.size + 1) #[.slice A1 n1 c1, .bool s1] u ∧ (owns w5.heap.size #[.slice A5 n5 c5, .bool false] u ∧ (rds A0 n0 l0 u ∧ (rds A1 n1 l1 u ∧ (rds A5 n5 (ofL ⟨#[49]⟩) u ∧ (szW (w5.heap.size + 1) u ∧ (tbs u ∧ blw w u)))))))) from inferInstance).st _ _ _ _ _ _ O hS) (keepL_store O (fun j V hj hV => by
              match j, hj, hV with
              | 0, _, hV => obtain rfl := Option.some.inj hV; exact ssx_un
              | 1, _, hV => obtain rfl := Option.some.inj hV; exact ssx_un
              | 2, _, hV => obtain rfl := Option.some.inj hV; exact ssx_un
              | 3, _, hV => obtain rfl := Option.some.inj hV; exact ssx_un
              | 4, _, hV => obtain rfl := Option.some.inj hV; exact ssx_un
              | 5, _, hV => obtain rfl := Option.some.inj hV; exact ssx_un
              | 6, _, hV => obtain rfl := Option.some.inj hV; exact ssx_un
              | 7, _, hV => obtain rfl := Option.some.inj hV; exact ssx_un
              | 8, _, hV => obtain rfl := Option.some.inj hV; exact ssx_fr
              | 9, _, hV => obtain rfl := Option.some.inj hV; exact ssx_fr
              | 10, hj, _ => exact absurd rfl hj
              | 11, _, hV => obtain rfl := Option.some.inj hV; exact ssx_filled (fun e => hD 9 8 (by decide) rfl rfl rfl rfl (e.trans hgx.symm))
              | q + 12, _, hV => simp at hV)) (fun V hV => by obtain rfl := Option.some.inj hV; rw [if_neg (by decide)]; exact ⟨g, Ay0, ny0, cy0, hgx, hg, O.row, hc0, hn0, hr0.row O⟩)
          · intro a w' hS hO hF hD K hK
            have j0 := hF 7 rfl
            have f0 := j0.2 26 rfl
            obtain ⟨Ay0, ny0, cy0, e0, hc0, hn0, hr0⟩ := j0.1 _ rfl
            rw [e0] at f0
            have jp := hF 9 rfl
            have fp := jp.2 7 rfl
            obtain ⟨g, eg, hg, X, q1, q2, q3, O⟩ := jp.1 _ rfl
            have hgx := eg
            rw [eg] at fp
            have hB0 := hBase
            haveI : Over w g := ⟨Nat.le_trans (show w.heap.size ≤ _ from hB0) hg⟩
            haveI : Apart g w.heap.size := ⟨fun e => by subst e; have := hB0; omega⟩
            haveI : Apart g (w.heap.size + 1) := ⟨fun e => by subst e; have := hB0; omega⟩
            haveI : Apart g w5.heap.size := ⟨fun e => by subst e; have := hB0; omega⟩
            refine if_ok (by rfl) ?_
            refine wp_store_row _ _ _ rfl g _ (ev fp) (ev f0) _ _ O vec_size rfl (by simp [Value.oneCell']) ?_
            exact hK _ _ (fun _ => rfl) (by simp [World.setRow]) (fun h => absurd h (by decide)) ((show Sst g (fun u => owns w.heap.size #[.slice A0 n0 c0, .bool s0] u ∧ (owns (w.heap.size + 1) #[.slice A1 n1 c1, .bool s1] u ∧ (owns w5.heap.size #[.slice A5 n5 c5, .bool false] u ∧ (rds A0 n0 l0 u ∧ (rds A1 n1 l1 u ∧ (rds A5 n5 (ofL ⟨#[49]⟩) u ∧ (szW (w5.heap.size + 1) u ∧ (tbs u ∧ blw w u)))))))) from inferInstance).st _ _ _ _ _ _ O hS) (keepL_store O (fun j V hj hV => by
              match j, hj, hV with
              | 0, _, hV => obtain rfl := Option.some.inj hV; exact ssx_un
              | 1, _, hV => obtain rfl := Option.some.inj hV; exact ssx_un
              | 2, _, hV => obtain rfl := Option.some.inj hV; exact ssx_un
              | 3, _, hV => obtain rfl := Option.some.inj hV; exact ssx_un
              | 4, _, hV => obtain rfl := Option.some.inj hV; exact ssx_un
              | 5, _, hV => obtain rfl := Option.some.inj hV; exact ssx_un
              | 6, _, hV => obtain rfl := Option.some.inj hV; exact ssx_un
              | 7, _, hV => obtain rfl := Option.some.inj hV; exact ssx_un
              | 8, _, hV => obtain rfl := Option.some.inj hV; exact ssx_fr
              | 9, _, hV => obtain rfl := Option.some.inj hV; exact ssx_fr
              | 10, _, hV => obtain rfl := Option.some.inj hV; exact ssx_filled (fun e => hD 8 9 (by decide) rfl rfl rfl rfl (e.trans hgx.symm))
              | 11, hj, _ => exact absurd rfl hj
              | q + 12, _, hV => simp at hV)) (fun V hV => by obtain rfl := Option.some.inj hV; rw [if_neg (by decide)]; exact ⟨g, Ay0, ny0, cy0, hgx, hg, O.row, hc0, hn0, hr0.row O⟩)
        · intro vs u hl hS hV
          match vs, hl, hV with
          | [v0, v1, v2, v3, v4, v5, v6, v7, v8, v9, v10, v11], _, hV =>
            obtain ⟨g6, A6, n6, c6, e6, hB6, O6, hcc6, hnn6, r6⟩ := hV 10 _ rfl
            replace e6 : v8 = .pointer (some ⟨g6, 0, none⟩) := e6
            subst e6
            obtain ⟨g7, A7, n7, c7, e7, hB7, O7, hcc7, hnn7, r7⟩ := hV 11 _ rfl
            replace e7 : v9 = .pointer (some ⟨g7, 0, none⟩) := e7
            subst e7
            obtain rfl := hV 0 _ rfl
            obtain rfl := hV 1 _ rfl
            obtain rfl := hV 2 _ rfl
            obtain ⟨_, _, _, rfl, _, _, _⟩ := hV 3 _ rfl
            obtain ⟨_, _, _, rfl, _, _, _⟩ := hV 4 _ rfl
            obtain rfl := hV 5 _ rfl
            obtain rfl := hV 6 _ rfl
            obtain ⟨_, _, _, rfl, _, _, _⟩ := hV 7 _ rfl
            simp only [puts, Act.put, List.setIfInBounds_toArray, List.set_cons_zero, List.set_cons_succ]
            obtain ⟨O2, O3, O5, r0, r1, r5, BZ, TT, BB⟩ := hS
            clear hV
            replace O2 : Own u w.heap.size 24 #[.slice A0 n0 c0, .bool s0] := O2
            replace O3 : Own u (w.heap.size + 1) 24 #[.slice A1 n1 c1, .bool s1] := O3
            replace O5 : Own u w5.heap.size 24 #[.slice A5 n5 c5, .bool false] := O5
            replace r0 : Rb u A0 n0 l0 := r0
            replace r1 : Rb u A1 n1 l1 := r1
            replace r5 : Rb u A5 n5 (ofL ⟨#[49]⟩) := r5
            replace TT : Tabs u := TT
            replace BB : Below w.heap.size w u := BB
            go_wp2
            refine region_y (by kernel_rfl) (fun u => owns w.heap.size #[.slice A0 n0 c0, .bool s0] u ∧ (owns (w.heap.size + 1) #[.slice A1 n1 c1, .bool s1] u ∧ (owns w5.heap.size #[.slice A5 n5 c5, .bool false] u ∧ (owns g6 #[.slice A6 n6 c6, .bool (condV (⟨ofL ⟨#[49]⟩, false⟩ : V) (⟨l0, s0⟩ : V) (⟨l1, s1⟩ : V)).s] u ∧ (owns g7 #[.slice A7 n7 c7, .bool (condV (⟨ofL ⟨#[48]⟩, false⟩ : V) (⟨l0, s0⟩ : V) (⟨l1, s1⟩ : V)).s] u ∧ (rds A0 n0 l0 u ∧ (rds A1 n1 l1 u ∧ (rds A5 n5 (ofL ⟨#[49]⟩) u ∧ (rds A6 n6 (condV (⟨ofL ⟨#[49]⟩, false⟩ : V) (⟨l0, s0⟩ : V) (⟨l1, s1⟩ : V)).l u ∧ (rds A7 n7 (condV (⟨ofL ⟨#[48]⟩, false⟩ : V) (⟨l0, s0⟩ : V) (⟨l1, s1⟩ : V)).l u ∧ (tbs u ∧ blw w u))))))))))) [] [isV (.agg #[.slice A0 n0 c0, .bool s0]), isV (.agg #[.slice A1 n1 c1, .bool s1]), isW (one1 (fromI (mtB noW (⟨l0, s0⟩ : V) (⟨l1, s1⟩ : V)))), isV (.agg #[.slice A5 n5 c5, .bool false]), isV (.bool false), isV (.bool false)] [some 27, some 28, some 29, some 30, some 31, some 8] [[], [], [0, 1], [], [2, 3, 2], [4, 4, 0, 1, 2, 3, 4]] (by kernel_rfl) (by kernel_rfl) rfl (by kernel_rfl) (by kernel_rfl) (by kernel_rfl) ⟨O2.drew, O3.drew, O5.drew, O6.drew, O7.drew, r0.drew, r1.drew, r5.drew, r6.drew, r7.drew, TT.drew, below_drew BB⟩ (fun _ h => by cases h) ?_ ?_
            · refine ⟨?_, ?_, ?_, ?_, ?_, ?_, trivial⟩
              · intro a w' hS hO hF' hP K hK
                have ha := hO 2 (by rfl)
                refine if_ok (by rfl) ?_
                refine wp_load_row 24 (.tmp 2) rfl w.heap.size (ev ha) _ _ (0, 0) _ hS.1 Tryd.underlying24 rfl (by kernel_rfl) ?_
                exact hK _ w' (fun h => by cases h) (keep_same hS) rfl
              · intro a w' hS hO hF' hP K hK
                have ha := hO 3 (by rfl)
                refine if_ok (by rfl) ?_
                refine wp_load_row 24 (.tmp 3) rfl (w.heap.size + 1) (ev ha) _ _ (0, 0) _ hS.2.1 Tryd.underlying24 rfl (by kernel_rfl) ?_
                exact hK _ w' (fun h => by cases h) (keep_same hS) rfl
              · intro a w' hS hO hF' hP K hK
                obtain ⟨_, f0, rfl⟩ := (hF' 0 rfl).1 27 _ rfl rfl
                obtain ⟨_, f1, rfl⟩ := (hF' 1 rfl).1 28 _ rfl rfl
                refine if_ok (by rfl) ?_
                refine wp_calls rfl (enters_of Tryd.func17 (by kernel_rfl) rfl) (args := #[(.agg #[.slice A0 n0 c0, .bool s0]), (.agg #[.slice A1 n1 c1, .bool s1])]) (by simp [Act.eval, f0, f1]) ?_
                obtain ⟨O2, O3, O5, O6, O7, r0, r1, r5, r6, r7, TT, BB⟩ := id hS
                apply Calls.mono
                (with_reducible apply caseEq_any_w); (repeat (first | assumption | (with_reducible (apply Nb.rd; assumption)) | (with_reducible (apply Rb.at_later; assumption)) | (with_reducible (apply Tabs.at_later; assumption)) | (with_reducible apply Rb.alloc) | (with_reducible apply Tabs.alloc) | (with_reducible apply Rb.drew) | (with_reducible apply Tabs.drew) | (show I64 _; unfold I64; omega) | omega))
                rintro e w2 ⟨A, n, c, rfl, hc, hn, hv, hb⟩
                exact ⟨_, rfl, hK _ w2 (fun h => by cases h) (keep_below hb hS) ⟨A, n, c, rfl, hc, hn, hv.rd⟩⟩
              · intro a w' hS hO hF' hP K hK
                have ha := hO 5 (by rfl)
                refine if_ok (by rfl) ?_
                refine wp_load_row 24 (.tmp 5) rfl w5.heap.size (ev ha) _ _ (0, 0) _ hS.2.2.1 Tryd.underlying24 rfl (by kernel_rfl) ?_
                exact hK _ w' (fun h => by cases h) (keep_same hS) rfl
              · intro a w' hS hO hF' hP K hK
                obtain ⟨_, f0, Ay0, ny0, cy0, rfl, hc0, hn0, hr0⟩ := (hF' 2 rfl).1 29 _ rfl rfl
                obtain ⟨_, f1, rfl⟩ := (hF' 3 rfl).1 30 _ rfl rfl
                refine if_ok (by rfl) ?_
                refine wp_calls rfl (enters_of Tryd.func10 (by kernel_rfl) rfl) (args := #[(.agg #[.slice Ay0 ny0 cy0, .bool (one1 (fromI (mtB noW (⟨l0, s0⟩ : V) (⟨l1, s1⟩ : V)))).s]), (.agg #[.slice A5 n5 c5, .bool false])]) (by simp [Act.eval, f0, f1]) ?_
                obtain ⟨O2, O3, O5, O6, O7, r0, r1, r5, r6, r7, TT, BB⟩ := id hS
                apply Calls.mono
                (refine same_b (p := false) _ _ _ _ _ _ _ _ _ _ _ ?_ ?_ ?_ ?_ ((ce_same (⟨l0, s0⟩ : V) (⟨l1, s1⟩ : V)).trans hE)); (repeat (first | assumption | (with_reducible (apply Nb.rd; assumption)) | (with_reducible (apply Rb.at_later; assumption)) | (with_reducible (apply Tabs.at_later; assumption)) | (with_reducible apply Rb.alloc) | (with_reducible apply Tabs.alloc) | (with_reducible apply Rb.drew) | (with_reducible apply Tabs.drew) | (show I64 _; unfold I64; omega) | omega))
                rintro e w2 ⟨rfl, hb⟩
                exact ⟨_, rfl, hK _ w2 (fun h => by cases h) (keep_below hb hS) rfl⟩
              · intro a w' hS hO hF' hP K hK
                obtain ⟨_, f0, rfl⟩ := (hF' 4 rfl).1 31 _ rfl rfl
                refine if_ok (by rfl) ?_
                unfold Oper.wp execOp
                simp only [Sem.run_pure, ev f0]
                exact hK _ w' (fun h => by cases h) (keep_same hS) rfl
            · intro vs u hl hS hV
              match vs, hl, hV with
              | [v0, v1, v2, v3, v4, v5], _, hV =>
                obtain rfl := hV 0 _ rfl
                obtain rfl := hV 1 _ rfl
                obtain rfl := hV 3 _ rfl
                obtain rfl := hV 4 _ rfl
                obtain rfl := hV 5 _ rfl
                simp only [puts, Act.put, List.setIfInBounds_toArray, List.set_cons_zero, List.set_cons_succ]
                obtain ⟨O2, O3, O5, O6, O7, r0, r1, r5, r6, r7, TT, BB⟩ := hS
                clear hV
                replace O2 : Own u w.heap.size 24 #[.slice A0 n0 c0, .bool s0] := O2
                replace O3 : Own u (w.heap.size + 1) 24 #[.slice A1 n1 c1, .bool s1] := O3
                replace O5 : Own u w5.heap.size 24 #[.slice A5 n5 c5, .bool false] := O5
                replace O6 : Own u g6 24 #[.slice A6 n6 c6, .bool (condV (⟨ofL ⟨#[49]⟩, false⟩ : V) (⟨l0, s0⟩ : V) (⟨l1, s1⟩ : V)).s] := O6
                replace O7 : Own u g7 24 #[.slice A7 n7 c7, .bool (condV (⟨ofL ⟨#[48]⟩, false⟩ : V) (⟨l0, s0⟩ : V) (⟨l1, s1⟩ : V)).s] := O7
                replace r0 : Rb u A0 n0 l0 := r0
                replace r1 : Rb u A1 n1 l1 := r1
                replace r5 : Rb u A5 n5 (ofL ⟨#[49]⟩) := r5
                replace r6 : Rb u A6 n6 (condV (⟨ofL ⟨#[49]⟩, false⟩ : V) (⟨l0, s0⟩ : V) (⟨l1, s1⟩ : V)).l := r6
                replace r7 : Rb u A7 n7 (condV (⟨ofL ⟨#[48]⟩, false⟩ : V) (⟨l0, s0⟩ : V) (⟨l1, s1⟩ : V)).l := r7
                replace TT : Tabs u := TT
                replace BB : Below w.heap.size w u := BB
                go_wp2
                refine region_y (by kernel_rfl) (fun u => owns w.heap.size #[.slice A0 n0 c0, .bool s0] u ∧ (owns (w.heap.size + 1) #[.slice A1 n1 c1, .bool s1] u ∧ (owns w5.heap.size #[.slice A5 n5 c5, .bool false] u ∧ (owns g6 #[.slice A6 n6 c6, .bool (condV (⟨ofL ⟨#[49]⟩, false⟩ : V) (⟨l0, s0⟩ : V) (⟨l1, s1⟩ : V)).s] u ∧ (owns g7 #[.slice A7 n7 c7, .bool (condV (⟨ofL ⟨#[48]⟩, false⟩ : V) (⟨l0, s0⟩ : V) (⟨l1, s1⟩ : V)).s] u ∧ (rds A0 n0 l0 u ∧ (rds A1 n1 l1 u ∧ (rds A5 n5 (ofL ⟨#[49]⟩) u ∧ (rds A6 n6 (condV (⟨ofL ⟨#[49]⟩, false⟩ : V) (⟨l0, s0⟩ : V) (⟨l1, s1⟩ : V)).l u ∧ (rds A7 n7 (condV (⟨ofL ⟨#[48]⟩, false⟩ : V) (⟨l0, s0⟩ : V) (⟨l1, s1⟩ : V)).l u ∧ (tbs u ∧ blw w u))))))))))) [] [isV (.bool false), isV (.agg #[.slice A6 n6 c6, .bool (condV (⟨ofL ⟨#[49]⟩, false⟩ : V) (⟨l0, s0⟩ : V) (⟨l1, s1⟩ : V)).s]), isV (.agg #[.slice A7 n7 c7, .bool (condV (⟨ofL ⟨#[48]⟩, false⟩ : V) (⟨l0, s0⟩ : V) (⟨l1, s1⟩ : V)).s]), isV (.bool false), isV (.bool false), isV (.bool false), isV (.agg #[.slice A0 n0 c0, .bool s0]), isV (.agg #[.slice A1 n1 c1, .bool s1]), isW (one1 (notI (fromI (mtB noW (⟨l0, s0⟩ : V) (⟨l1, s1⟩ : V))))), isV (.agg #[.slice A5 n5 c5, .bool false]), isV (.bool true), isV (.bool false), isV (.bool false), isV (.bool false), isV (.bool false), isV (.bool false), isV (.bool false), isV undef, isV undef, isV undef, isV undef, isV (.bool false), isV (.bool false), isV (.bool false), isV (.agg #[.slice A0 n0 c0, .bool s0]), isV (.agg #[.slice A1 n1 c1, .bool s1]), isV (.bool true), isV (.bool true), isV (.agg #[.slice A0 n0 c0, .bool s0]), isV (.agg #[.slice A1 n1 c1, .bool s1]), isV (.bool true), isV (.bool false), isV (.bool false), isV (.bool false)] [some 32, some 33, some 34, some 35, some 36, some 37, some 38, some 39, some 40, some 41, some 42, some 43, some 44, some 45, some 46, some 47, some 48, some 49, some 50, some 51, some 52, some 53, some 54, some 55, some 56, some 57, some 58, some 59, some 60, some 61, some 62, some 63, some 64, some 65] [[], [], [], [1, 2], [0, 3], [4, 3], [5], [5], [6, 7, 5, 5], [5], [8, 9, 8, 5], [5], [10, 11, 5], [5, 12], [13, 10], [14], [15, 14, 14], [16], [16], [17, 18, 16, 16], [19, 16], [16, 20, 14], [14, 21], [22, 19], [23], [23], [24, 25, 23, 23], [26, 26, 23], [27], [27], [28, 29, 27, 27], [30, 27], [27, 31, 23], [23, 32]] (by kernel_rfl) (by kernel_rfl) rfl (by kernel_rfl) (by kernel_rfl) (by kernel_rfl) ⟨O2.drew, O3.drew, O5.drew, O6.drew, O7.drew, r0.drew, r1.drew, r5.drew, r6.drew, r7.drew, TT.drew, below_drew BB⟩ (fun _ h => by cases h) ?_ ?_
                · refine ⟨?_, ?_, ?_, ?_, ?_, ?_, ?_, ?_, ?_, ?_, ?_, ?_, ?_, ?_, ?_, ?_, ?_, ?_, ?_, ?_, ?_, ?_, ?_, ?_, ?_, ?_, ?_, ?_, ?_, ?_, ?_, ?_, ?_, ?_, trivial⟩
                  · intro a w' hS hO hF' hP K hK
                    have f0 := hO 8 (by rfl)
                    refine if_ok (by rfl) ?_
                    unfold Oper.wp execOp
                    simp only [Sem.run_pure, ev f0]
                    exact hK _ w' (fun h => by cases h) (keep_same hS) rfl
                  · intro a w' hS hO hF' hP K hK
                    have ha := hO 6 (by rfl)
                    refine if_ok (by rfl) ?_
                    refine wp_load_row 24 (.tmp 6) rfl g6 (ev ha) _ _ (0, 0) _ hS.2.2.2.1 Tryd.underlying24 rfl (by kernel_rfl) ?_
                    exact hK _ w' (fun h => by cases h) (keep_same hS) rfl
                  · intro a w' hS hO hF' hP K hK
                    have ha := hO 7 (by rfl)
                    refine if_ok (by rfl) ?_
                    refine wp_load_row 24 (.tmp 7) rfl g7 (ev ha) _ _ (0, 0) _ hS.2.2.2.2.1 Tryd.underlying24 rfl (by kernel_rfl) ?_
                    exact hK _ w' (fun h => by cases h) (keep_same hS) rfl
                  · intro a w' hS hO hF' hP K hK
                    obtain ⟨_, f0, rfl⟩ := (hF' 1 rfl).1 33 _ rfl rfl
                    obtain ⟨_, f1, rfl⟩ := (hF' 2 rfl).1 34 _ rfl rfl
                    refine if_ok (by rfl) ?_
                    refine wp_calls rfl (enters_of Tryd.func10 (by kernel_rfl) rfl) (args := #[(.agg #[.slice A6 n6 c6, .bool (condV (⟨ofL ⟨#[49]⟩, false⟩ : V) (⟨l0, s0⟩ : V) (⟨l1, s1⟩ : V)).s]), (.agg #[.slice A7 n7 c7, .bool (condV (⟨ofL ⟨#[48]⟩, false⟩ : V) (⟨l0, s0⟩ : V) (⟨l1, s1⟩ : V)).s])]) (by simp [Act.eval, f0, f1]) ?_
                    obtain ⟨O2, O3, O5, O6, O7, r0, r1, r5, r6, r7, TT, BB⟩ := id hS
                    apply Calls.mono
                    (refine same_b (p := false) _ _ _ _ _ _ _ _ _ _ _ ?_ ?_ ?_ ?_ ((cond_same (⟨l0, s0⟩ : V) (⟨l1, s1⟩ : V)).trans hE)); (repeat (first | assumption | (with_reducible (apply Nb.rd; assumption)) | (with_reducible (apply Rb.at_later; assumption)) | (with_reducible (apply Tabs.at_later; assumption)) | (with_reducible apply Rb.alloc) | (with_reducible apply Tabs.alloc) | (with_reducible apply Rb.drew) | (with_reducible apply Tabs.drew) | (show I64 _; unfold I64; omega) | omega))
                    rintro e w2 ⟨rfl, hb⟩
                    exact ⟨_, rfl, hK _ w2 (fun h => by cases h) (keep_below hb hS) rfl⟩
                  · intro a w' hS hO hF' hP K hK
                    obtain ⟨_, f0, rfl⟩ := (hF' 0 rfl).1 32 _ rfl rfl
                    obtain ⟨_, f1, rfl⟩ := (hF' 3 rfl).1 35 _ rfl rfl
                    refine if_ok (by rfl) ?_
                    refine wp_val (w' := w') (q := .bool false) (by unfold execOp; simp only [(ev f0), (ev f1)]; simp [go_sem]) ?_
                    exact hK _ w' (fun h => by cases h) (keep_same hS) rfl
                  · intro a w' hS hO hF' hP K hK
                    obtain ⟨_, f0, rfl⟩ := (hF' 4 rfl).1 36 _ rfl rfl
                    refine if_ok (by rfl) ?_
                    unfold Oper.wp execOp
                    simp only [Sem.run_pure, ev f0]
                    exact hK _ w' (fun h => by cases h) (keep_same hS) rfl
                  · intro a w' hS hO hF' hP K hK
                    obtain ⟨_, fg, rfl⟩ := (hF' 5 rfl).1 37 _ rfl rfl
                    have ha := hO 2 (by rfl)
                    refine if_wanted (by rfl) (yield_of (by rfl) fg) ?_
                    refine wp_load_row 24 (.tmp 2) rfl w.heap.size (ev ha) _ _ (0, 0) _ hS.1 Tryd.underlying24 rfl (by kernel_rfl) ?_
                    exact hK _ w' (fun h => by cases h) (keep_same hS) rfl
                  · intro a w' hS hO hF' hP K hK
                    obtain ⟨_, fg, rfl⟩ := (hF' 5 rfl).1 37 _ rfl rfl
                    have ha := hO 3 (by rfl)
                    refine if_wanted (by rfl) (yield_of (by rfl) fg) ?_
                    refine wp_load_row 24 (.tmp 3) rfl (w.heap.size + 1) (ev ha) _ _ (0, 0) _ hS.2.1 Tryd.underlying24 rfl (by kernel_rfl) ?_
                    exact hK _ w' (fun h => by cases h) (keep_same hS) rfl
                  · intro a w' hS hO hF' hP K hK
                    obtain ⟨_, fg, rfl⟩ := (hF' 5 rfl).1 37 _ rfl rfl
                    obtain ⟨_, f0, rfl⟩ := (hF' 6 rfl).1 38 _ rfl rfl
                    obtain ⟨_, f1, rfl⟩ := (hF' 7 rfl).1 39 _ rfl rfl
                    refine if_wanted (by rfl) (yield_of (by rfl) fg) ?_
                    refine wp_calls rfl (enters_of Tryd.func18 (by kernel_rfl) rfl) (args := #[(.agg #[.slice A0 n0 c0, .bool s0]), (.agg #[.slice A1 n1 c1, .bool s1])]) (by simp [Act.eval, f0, f1]) ?_
                    obtain ⟨O2, O3, O5, O6, O7, r0, r1, r5, r6, r7, TT, BB⟩ := id hS
                    apply Calls.mono
                    (with_reducible apply caseNe_any_w); (repeat (first | assumption | (with_reducible (apply Nb.rd; assumption)) | (with_reducible (apply Rb.at_later; assumption)) | (with_reducible (apply Tabs.at_later; assumption)) | (with_reducible apply Rb.alloc) | (with_reducible apply Tabs.alloc) | (with_reducible apply Rb.drew) | (with_reducible apply Tabs.drew) | (show I64 _; unfold I64; omega) | omega))
                    rintro e w2 ⟨A, n, c, rfl, hc, hn, hv, hb⟩
                    exact ⟨_, rfl, hK _ w2 (fun h => by cases h) (keep_below hb hS) ⟨A, n, c, rfl, hc, hn, hv.rd⟩⟩
                  · intro a w' hS hO hF' hP K hK
                    obtain ⟨_, fg, rfl⟩ := (hF' 5 rfl).1 37 _ rfl rfl
                    have ha := hO 5 (by rfl)
                    refine if_wanted (by rfl) (yield_of (by rfl) fg) ?_
                    refine wp_load_row 24 (.tmp 5) rfl w5.heap.size (ev ha) _ _ (0, 0) _ hS.2.2.1 Tryd.underlying24 rfl (by kernel_rfl) ?_
                    exact hK _ w' (fun h => by cases h) (keep_same hS) rfl
                  · intro a w' hS hO hF' hP K hK
                    obtain ⟨_, fg, rfl⟩ := (hF' 5 rfl).1 37 _ rfl rfl
                    obtain ⟨_, f0, Ay0, ny0, cy0, rfl, hc0, hn0, hr0⟩ := (hF' 8 rfl).1 40 _ rfl rfl
                    obtain ⟨_, f1, rfl⟩ := (hF' 9 rfl).1 41 _ rfl rfl
                    refine if_wanted (by rfl) (yield_of (by rfl) fg) ?_
                    refine wp_calls rfl (enters_of Tryd.func10 (by kernel_rfl) rfl) (args := #[(.agg #[.slice Ay0 ny0 cy0, .bool (one1 (notI (fromI (mtB noW (⟨l0, s0⟩ : V) (⟨l1, s1⟩ : V))))).s]), (.agg #[.slice A5 n5 c5, .bool false])]) (by simp [Act.eval, f0, f1]) ?_
                    obtain ⟨O2, O3, O5, O6, O7, r0, r1, r5, r6, r7, TT, BB⟩ := id hS
                    apply Calls.mono
                    (refine same_b (p := true) _ _ _ _ _ _ _ _ _ _ _ ?_ ?_ ?_ ?_ ((by rw [ne_same, hE]; rfl))); (repeat (first | assumption | (with_reducible (apply Nb.rd; assumption)) | (with_reducible (apply Rb.at_later; assumption)) | (with_reducible (apply Tabs.at_later; assumption)) | (with_reducible apply Rb.alloc) | (with_reducible apply Tabs.alloc) | (with_reducible apply Rb.drew) | (with_reducible apply Tabs.drew) | (show I64 _; unfold I64; omega) | omega))
                    rintro e w2 ⟨rfl, hb⟩
                    exact ⟨_, rfl, hK _ w2 (fun h => by cases h) (keep_below hb hS) rfl⟩
                  · intro a w' hS hO hF' hP K hK
                    obtain ⟨_, fg, rfl⟩ := (hF' 5 rfl).1 37 _ rfl rfl
                    have f0 := hO 8 (by rfl)
                    refine if_wanted (by rfl) (yield_of (by rfl) fg) ?_
                    unfold Oper.wp execOp
                    simp only [Sem.run_pure, ev f0]
                    exact hK _ w' (fun h => by cases h) (keep_same hS) rfl
                  · intro a w' hS hO hF' hP K hK
                    obtain ⟨_, fg, rfl⟩ := (hF' 5 rfl).1 37 _ rfl rfl
                    obtain ⟨_, f0, rfl⟩ := (hF' 10 rfl).1 42 _ rfl rfl
                    obtain ⟨_, f1, rfl⟩ := (hF' 11 rfl).1 43 _ rfl rfl
                    refine if_wanted (by rfl) (yield_of (by rfl) fg) ?_
                    refine wp_val (w' := w') (q := .bool false) (by unfold execOp; simp only [(ev f0), (ev f1)]; simp [go_sem]) ?_
                    exact hK _ w' (fun h => by cases h) (keep_same hS) rfl
                  · intro a w' hS hO hF' hP K hK
                    obtain ⟨_, f0, rfl⟩ := (hF' 5 rfl).1 37 _ rfl rfl
                    obtain ⟨_, f1, rfl⟩ := (hF' 12 rfl).1 44 _ rfl rfl
                    refine if_ok (by rfl) ?_
                    refine wp_pick_or _ _ _ rfl (ev f0) (ev f1) ?_
                    exact hK _ w' (fun h => by cases h) (keep_same hS) rfl
                  · intro a w' hS hO hF' hP K hK
                    obtain ⟨_, f0, rfl⟩ := (hF' 13 rfl).1 45 _ rfl rfl
                    refine if_ok (by rfl) ?_
                    unfold Oper.wp execOp
                    simp only [Sem.run_pure, ev f0]
                    exact hK _ w' (fun h => by cases h) (keep_same hS) rfl
                  · intro a w' hS hO hF' hP K hK
                    obtain ⟨_, fg, rfl⟩ := (hF' 14 rfl).1 46 _ rfl rfl
                    have f0 := hO 8 (by rfl)
                    refine if_wanted (by rfl) (yield_of (by rfl) fg) ?_
                    unfold Oper.wp execOp
                    simp only [Sem.run_pure, ev f0]
                    exact hK _ w' (fun h => by cases h) (keep_same hS) rfl
                  · intro a w' hS hO hF' hP K hK
                    obtain ⟨_, fg, rfl⟩ := (hF' 14 rfl).1 46 _ rfl rfl
                    obtain ⟨_, f0, rfl⟩ := (hF' 15 rfl).1 47 _ rfl rfl
                    refine if_wanted (by rfl) (yield_of (by rfl) fg) ?_
                    unfold Oper.wp execOp
                    simp only [Sem.run_pure, ev f0]
                    exact hK _ w' (fun h => by cases h) (keep_same hS) rfl
                  · intro a w' hS hO hF' hP K hK
                    obtain ⟨_, fg, rfl⟩ := (hF' 16 rfl).1 48 _ rfl rfl
                    refine if_unwanted (by rfl) (yield_of (by rfl) fg) ?_
                    exact hK _ w' (fun h => by cases h) (keep_same hS) rfl
                  · intro a w' hS hO hF' hP K hK
                    obtain ⟨_, fg, rfl⟩ := (hF' 16 rfl).1 48 _ rfl rfl
                    refine if_unwanted (by rfl) (yield_of (by rfl) fg) ?_
                    exact hK _ w' (fun h => by cases h) (keep_same hS) rfl
                  · intro a w' hS hO hF' hP K hK
                    obtain ⟨_, fg, rfl⟩ := (hF' 16 rfl).1 48 _ rfl rfl
                    refine if_unwanted (by rfl) (yield_of (by rfl) fg) ?_
                    exact hK _ w' (fun h => by cases h) (keep_same hS) rfl
                  · intro a w' hS hO hF' hP K hK
                    obtain ⟨_, fg, rfl⟩ := (hF' 16 rfl).1 48 _ rfl rfl
                    refine if_unwanted (by rfl) (yield_of (by rfl) fg) ?_
                    exact hK _ w' (fun h => by cases h) (keep_same hS) rfl
                  · intro a w' hS hO hF' hP K hK
                    obtain ⟨_, fg, rfl⟩ := (hF' 14 rfl).1 46 _ rfl rfl
                    obtain ⟨_, f0, rfl⟩ := (hF' 16 rfl).1 48 _ rfl rfl
                    refine if_wanted (by rfl) (yield_of (by rfl) fg) ?_
                    refine wp_pick_or _ _ _ rfl (ev f0) rfl ?_
                    exact hK _ w' (fun h => by cases h) (keep_same hS) rfl
                  · intro a w' hS hO hF' hP K hK
                    obtain ⟨_, f0, rfl⟩ := (hF' 14 rfl).1 46 _ rfl rfl
                    obtain ⟨_, f1, rfl⟩ := (hF' 21 rfl).1 53 _ rfl rfl
                    refine if_ok (by rfl) ?_
                    refine wp_pick_or _ _ _ rfl (ev f0) (ev f1) ?_
                    exact hK _ w' (fun h => by cases h) (keep_same hS) rfl
                  · intro a w' hS hO hF' hP K hK
                    obtain ⟨_, f0, rfl⟩ := (hF' 22 rfl).1 54 _ rfl rfl
                    refine if_ok (by rfl) ?_
                    unfold Oper.wp execOp
                    simp only [Sem.run_pure, ev f0]
                    exact hK _ w' (fun h => by cases h) (keep_same hS) rfl
                  · intro a w' hS hO hF' hP K hK
                    obtain ⟨_, fg, rfl⟩ := (hF' 23 rfl).1 55 _ rfl rfl
                    have ha := hO 2 (by rfl)
                    refine if_wanted (by rfl) (yield_of (by rfl) fg) ?_
                    refine wp_load_row 24 (.tmp 2) rfl w.heap.size (ev ha) _ _ (0, 0) _ hS.1 Tryd.underlying24 rfl (by kernel_rfl) ?_
                    exact hK _ w' (fun h => by cases h) (keep_same hS) rfl
                  · intro a w' hS hO hF' hP K hK
                    obtain ⟨_, fg, rfl⟩ := (hF' 23 rfl).1 55 _ rfl rfl
                    have ha := hO 3 (by rfl)
                    refine if_wanted (by rfl) (yield_of (by rfl) fg) ?_
                    refine wp_load_row 24 (.tmp 3) rfl (w.heap.size + 1) (ev ha) _ _ (0, 0) _ hS.2.1 Tryd.underlying24 rfl (by kernel_rfl) ?_
                    exact hK _ w' (fun h => by cases h) (keep_same hS) rfl
                  · intro a w' hS hO hF' hP K hK
                    obtain ⟨_, fg, rfl⟩ := (hF' 23 rfl).1 55 _ rfl rfl
                    obtain ⟨_, f0, rfl⟩ := (hF' 24 rfl).1 56 _ rfl rfl
                    obtain ⟨_, f1, rfl⟩ := (hF' 25 rfl).1 57 _ rfl rfl
                    refine if_wanted (by rfl) (yield_of (by rfl) fg) ?_
                    refine wp_calls rfl (enters_of Tryd.func19 (by kernel_rfl) rfl) (args := #[(.agg #[.slice A0 n0 c0, .bool s0]), (.agg #[.slice A1 n1 c1, .bool s1])]) (by simp [Act.eval, f0, f1]) ?_
                    obtain ⟨O2, O3, O5, O6, O7, r0, r1, r5, r6, r7, TT, BB⟩ := id hS
                    apply Calls.mono
                    (with_reducible apply matchZ_b (p := true)); (repeat (first | assumption | (with_reducible (apply Nb.rd; assumption)) | (with_reducible (apply Rb.at_later; assumption)) | (with_reducible (apply Tabs.at_later; assumption)) | (with_reducible apply Rb.alloc) | (with_reducible apply Tabs.alloc) | (with_reducible apply Rb.drew) | (with_reducible apply Tabs.drew) | (show I64 _; unfold I64; omega) | omega)); (try exact hZ)
                    rintro e w2 ⟨rfl, hb⟩
                    exact ⟨_, rfl, hK _ w2 (fun h => by cases h) (keep_below hb hS) rfl⟩
                  · intro a w' hS hO hF' hP K hK
                    obtain ⟨_, fg, rfl⟩ := (hF' 23 rfl).1 55 _ rfl rfl
                    obtain ⟨_, f0, rfl⟩ := (hF' 26 rfl).1 58 _ rfl rfl
                    refine if_wanted (by rfl) (yield_of (by rfl) fg) ?_
                    unfold Oper.wp execOp
                    simp only [Sem.run_pure, ev f0]
                    exact hK _ w' (fun h => by cases h) (keep_same hS) rfl
                  · intro a w' hS hO hF' hP K hK
                    obtain ⟨_, fg, rfl⟩ := (hF' 27 rfl).1 59 _ rfl rfl
                    have ha := hO 2 (by rfl)
                    refine if_wanted (by rfl) (yield_of (by rfl) fg) ?_
                    refine wp_load_row 24 (.tmp 2) rfl w.heap.size (ev ha) _ _ (0, 0) _ hS.1 Tryd.underlying24 rfl (by kernel_rfl) ?_
                    exact hK _ w' (fun h => by cases h) (keep_same hS) rfl
                  · intro a w' hS hO hF' hP K hK
                    obtain ⟨_, fg, rfl⟩ := (hF' 27 rfl).1 59 _ rfl rfl
                    have ha := hO 3 (by rfl)
                    refine if_wanted (by rfl) (yield_of (by rfl) fg) ?_
                    refine wp_load_row 24 (.tmp 3) rfl (w.heap.size + 1) (ev ha) _ _ (0, 0) _ hS.2.1 Tryd.underlying24 rfl (by kernel_rfl) ?_
                    exact hK _ w' (fun h => by cases h) (keep_same hS) rfl
                  · intro a w' hS hO hF' hP K hK
                    obtain ⟨_, fg, rfl⟩ := (hF' 27 rfl).1 59 _ rfl rfl
                    obtain ⟨_, f0, rfl⟩ := (hF' 28 rfl).1 60 _ rfl rfl
                    obtain ⟨_, f1, rfl⟩ := (hF' 29 rfl).1 61 _ rfl rfl
                    refine if_wanted (by rfl) (yield_of (by rfl) fg) ?_
                    refine wp_calls rfl (enters_of Tryd.func20 (by kernel_rfl) rfl) (args := #[(.agg #[.slice A0 n0 c0, .bool s0]), (.agg #[.slice A1 n1 c1, .bool s1])]) (by simp [Act.eval, f0, f1]) ?_
                    obtain ⟨O2, O3, O5, O6, O7, r0, r1, r5, r6, r7, TT, BB⟩ := id hS
                    apply Calls.mono
                    (with_reducible apply matchX_b (p := true)); (repeat (first | assumption | (with_reducible (apply Nb.rd; assumption)) | (with_reducible (apply Rb.at_later; assumption)) | (with_reducible (apply Tabs.at_later; assumption)) | (with_reducible apply Rb.alloc) | (with_reducible apply Tabs.alloc) | (with_reducible apply Rb.drew) | (with_reducible apply Tabs.drew) | (show I64 _; unfold I64; omega) | omega)); (try exact hX)
                    rintro e w2 ⟨rfl, hb⟩
                    exact ⟨_, rfl, hK _ w2 (fun h => by cases h) (keep_below hb hS) rfl⟩
                  · intro a w' hS hO hF' hP K hK
                    obtain ⟨_, fg, rfl⟩ := (hF' 27 rfl).1 59 _ rfl rfl
                    obtain ⟨_, f0, rfl⟩ := (hF' 30 rfl).1 62 _ rfl rfl
                    refine if_wanted (by rfl) (yield_of (by rfl) fg) ?_
                    refine wp_not _ rfl (ev f0) ?_
                    exact hK _ w' (fun h => by cases h) (keep_same hS) rfl
                  · intro a w' hS hO hF' hP K hK
                    obtain ⟨_, fg, rfl⟩ := (hF' 23 rfl).1 55 _ rfl rfl
                    obtain ⟨_, f0, rfl⟩ := (hF' 27 rfl).1 59 _ rfl rfl
                    obtain ⟨_, f1, rfl⟩ := (hF' 31 rfl).1 63 _ rfl rfl
                    refine if_wanted (by rfl) (yield_of (by rfl) fg) ?_
                    refine wp_pick_and _ _ _ rfl (ev f0) (ev f1) ?_
                    exact hK _ w' (fun h => by cases h) (keep_same hS) rfl
                  · intro a w' hS hO hF' hP K hK
                    obtain ⟨_, f0, rfl⟩ := (hF' 23 rfl).1 55 _ rfl rfl
                    obtain ⟨_, f1, rfl⟩ := (hF' 32 rfl).1 64 _ rfl rfl
                    refine if_ok (by rfl) ?_
                    refine wp_pick_or _ _ _ rfl (ev f0) (ev f1) ?_
                    exact hK _ w' (fun h => by cases h) (keep_same hS) rfl
                · intro vs u hl hS hV
                  match vs, hl, hV with
                  | v0 :: v1 :: v2 :: v3 :: v4 :: v5 :: v6 :: v7 :: v8 :: v9 :: v10 :: v11 :: v12 :: v13 :: v14 :: v15 :: v16 :: v17 :: v18 :: v19 :: v20 :: v21 :: v22 :: v23 :: v24 :: v25 :: v26 :: v27 :: v28 :: v29 :: v30 :: v31 :: v32 :: v33 :: [], _, hV =>
                    obtain rfl := hV 0 _ rfl
                    obtain rfl := hV 1 _ rfl
                    obtain rfl := hV 2 _ rfl
                    obtain rfl := hV 3 _ rfl
                    obtain rfl := hV 4 _ rfl
                    obtain rfl := hV 5 _ rfl
                    obtain rfl := hV 6 _ rfl
                    obtain rfl := hV 7 _ rfl
                    obtain rfl := hV 9 _ rfl
                    obtain rfl := hV 10 _ rfl
                    obtain rfl := hV 11 _ rfl
                    obtain rfl := hV 12 _ rfl
                    obtain rfl := hV 13 _ rfl
                    obtain rfl := hV 14 _ rfl
                    obtain rfl := hV 15 _ rfl
                    obtain rfl := hV 16 _ rfl
                    obtain rfl := hV 17 _ rfl
                    obtain rfl := hV 18 _ rfl
                    obtain rfl := hV 19 _ rfl
                    obtain rfl := hV 20 _ rfl
                    obtain rfl := hV 21 _ rfl
                    obtain rfl := hV 22 _ rfl
                    obtain rfl := hV 23 _ rfl
                    obtain rfl := hV 24 _ rfl
                    obtain rfl := hV 25 _ rfl
                    obtain rfl := hV 26 _ rfl
                    obtain rfl := hV 27 _ rfl
                    obtain rfl := hV 28 _ rfl
                    obtain rfl := hV 29 _ rfl
                    obtain rfl := hV 30 _ rfl
                    obtain rfl := hV 31 _ rfl
                    obtain rfl := hV 32 _ rfl
                    obtain rfl := hV 33 _ rfl
                    simp only [puts, Act.put, List.setIfInBounds_toArray, List.set_cons_zero, List.set_cons_succ]
                    obtain ⟨O2, O3, O5, O6, O7, r0, r1, r5, r6, r7, TT, BB⟩ := hS
                    clear hV
                    replace O2 : Own u w.heap.size 24 #[.slice A0 n0 c0, .bool s0] := O2
                    replace O3 : Own u (w.heap.size + 1) 24 #[.slice A1 n1 c1, .bool s1] := O3
                    replace O5 : Own u w5.heap.size 24 #[.slice A5 n5 c5, .bool false] := O5
                    replace O6 : Own u g6 24 #[.slice A6 n6 c6, .bool (condV (⟨ofL ⟨#[49]⟩, false⟩ : V) (⟨l0, s0⟩ : V) (⟨l1, s1⟩ : V)).s] := O6
                    replace O7 : Own u g7 24 #[.slice A7 n7 c7, .bool (condV (⟨ofL ⟨#[48]⟩, false⟩ : V) (⟨l0, s0⟩ : V) (⟨l1, s1⟩ : V)).s] := O7
                    replace r0 : Rb u A0 n0 l0 := r0
                    replace r1 : Rb u A1 n1 l1 := r1
                    replace r5 : Rb u A5 n5 (ofL ⟨#[49]⟩) := r5
                    replace r6 : Rb u A6 n6 (condV (⟨ofL ⟨#[49]⟩, false⟩ : V) (⟨l0, s0⟩ : V) (⟨l1, s1⟩ : V)).l := r6
                    replace r7 : Rb u A7 n7 (condV (⟨ofL ⟨#[48]⟩, false⟩ : V) (⟨l0, s0⟩ : V) (⟨l1, s1⟩ : V)).l := r7
                    replace TT : Tabs u := TT
                    replace BB : Below w.heap.size w u := BB
                    replace BB := Lib.hid BB
                    have q20 := O2.cell 0
                    have q21 := O2.cell 1
                    have q30 := O3.cell 0
                    have q31 := O3.cell 1
                    cases hkA : kn (⟨l0, s0⟩ : V)
                    · have KA := Lib.hid (fun (u : World) (h : Rb u A0 n0 l0) => known_b (p := false) A0 n0 c0 s0 l0 u h hkA)
                      go_wp2_with (go_at_call 21; first | ((with_reducible refine (KA.out _ r0).mono ?_); rintro e wn ⟨rfl, hb⟩; have kb := hb; (try replace O2 := O2.step kb); (try replace O3 := O3.step kb); (try replace O5 := O5.step kb); (try replace O6 := O6.step kb); (try replace O7 := O7.step kb); (try replace r0 := r0.step kb); (try replace r1 := r1.step kb); (try replace r5 := r5.step kb); (try replace r6 := r6.step kb); (try replace r7 := r7.step kb); (try replace TT := TT.step kb); replace BB := Lib.hid (below_step BB.out kb); (try clear q20 q21); (try (have q20 := O2.cell 0; have q21 := O2.cell 1)); (try clear q30 q31); (try (have q30 := O3.cell 0; have q31 := O3.cell 1))) | ((with_reducible refine (KB.out _ r1).mono ?_); rintro e wn ⟨rfl, hb⟩; have kb := hb; (try replace O2 := O2.step kb); (try replace O3 := O3.step kb); (try replace O5 := O5.step kb); (try replace O6 := O6.step kb); (try replace O7 := O7.step kb); (try replace r0 := r0.step kb); (try replace r1 := r1.step kb); (try replace r5 := r5.step kb); (try replace r6 := r6.step kb); (try replace r7 := r7.step kb); (try replace TT := TT.step kb); replace BB := Lib.hid (below_step BB.out kb); (try clear q20 q21); (try (have q20 := O2.cell 0; have q21 := O2.cell 1)); (try clear q30 q31); (try (have q30 := O3.cell 0; have q31 := O3.cell 1))))
                      go_ret
                      exact ⟨rfl, BB.out⟩
                    · have KA := Lib.hid (fun (u : World) (h : Rb u A0 n0 l0) => known_b (p := true) A0 n0 c0 s0 l0 u h hkA)
                      cases hkB : kn (⟨l1, s1⟩ : V)
                      · have KB := Lib.hid (fun (u : World) (h : Rb u A1 n1 l1) => known_b (p := false) A1 n1 c1 s1 l1 u h hkB)
                        go_wp2_with (go_at_call 21; first | ((with_reducible refine (KA.out _ r0).mono ?_); rintro e wn ⟨rfl, hb⟩; have kb := hb; (try replace O2 := O2.step kb); (try replace O3 := O3.step kb); (try replace O5 := O5.step kb); (try replace O6 := O6.step kb); (try replace O7 := O7.step kb); (try replace r0 := r0.step kb); (try replace r1 := r1.step kb); (try replace r5 := r5.step kb); (try replace r6 := r6.step kb); (try replace r7 := r7.step kb); (try replace TT := TT.step kb); replace BB := Lib.hid (below_step BB.out kb); (try clear q20 q21); (try (have q20 := O2.cell 0; have q21 := O2.cell 1)); (try clear q30 q31); (try (have q30 := O3.cell 0; have q31 := O3.cell 1))) | ((with_reducible refine (KB.out _ r1).mono ?_); rintro e wn ⟨rfl, hb⟩; have kb := hb; (try replace O2 := O2.step kb); (try replace O3 := O3.step kb); (try replace O5 := O5.step kb); (try replace O6 := O6.step kb); (try replace O7 := O7.step kb); (try replace r0 := r0.step kb); (try replace r1 := r1.step kb); (try replace r5 := r5.step kb); (try replace r6 := r6.step kb); (try replace r7 := r7.step kb); (try replace TT := TT.step kb); replace BB := Lib.hid (below_step BB.out kb); (try clear q20 q21); (try (have q20 := O2.cell 0; have q21 := O2.cell 1)); (try clear q30 q31); (try (have q30 := O3.cell 0; have q31 := O3.cell 1))))
                        go_ret
                        exact ⟨rfl, BB.out⟩
                      · have KB := Lib.hid (fun (u : World) (h : Rb u A1 n1 l1) => known_b (p := true) A1 n1 c1 s1 l1 u h hkB)
                        replace hkA := Lib.hid hkA
                        replace hkB := Lib.hid hkB
                        go_wp2_with (go_at_call 21; first | ((with_reducible refine (KA.out _ r0).mono ?_); rintro e wn ⟨rfl, hb⟩; have kb := hb; (try replace O2 := O2.step kb); (try replace O3 := O3.step kb); (try replace O5 := O5.step kb); (try replace O6 := O6.step kb); (try replace O7 := O7.step kb); (try replace r0 := r0.step kb); (try replace r1 := r1.step kb); (try replace r5 := r5.step kb); (try replace r6 := r6.step kb); (try replace r7 := r7.step kb); (try replace TT := TT.step kb); replace BB := Lib.hid (below_step BB.out kb); (try clear q20 q21); (try (have q20 := O2.cell 0; have q21 := O2.cell 1)); (try clear q30 q31); (try (have q30 := O3.cell 0; have q31 := O3.cell 1))) | ((with_reducible refine (KB.out _ r1).mono ?_); rintro e wn ⟨rfl, hb⟩; have kb := hb; (try replace O2 := O2.step kb); (try replace O3 := O3.step kb); (try replace O5 := O5.step kb); (try replace O6 := O6.step kb); (try replace O7 := O7.step kb); (try replace r0 := r0.step kb); (try replace r1 := r1.step kb); (try replace r5 := r5.step kb); (try replace r6 := r6.step kb); (try replace r7 := r7.step kb); (try replace TT := TT.step kb); replace BB := Lib.hid (below_step BB.out kb); (try clear q20 q21); (try (have q20 := O2.cell 0; have q21 := O2.cell 1)); (try clear q30 q31); (try (have q30 := O3.cell 0; have q31 := O3.cell 1))))
                        exact absurd (known_all hkA.out hkB.out) (by rw [hE, hX]; decide)
    · have hZ := no_z hE
      have hX := z_x hZ
      go_enter Tryd.func4, Tryd.ntmps4
      go_wp2_with (first | (go_at_call 5; refine (HL.out _ _ (by simp)).mono ?_; rintro e wn ⟨rfl, rfl⟩; replace O2 := O2.alloc (.cells #[.slice A0 n0 c0, .bool s0, .slice A1 n1 c1, .bool s1] 24); replace O3 := O3.alloc (.cells #[.slice A0 n0 c0, .bool s0, .slice A1 n1 c1, .bool s1] 24); replace r0 := r0.alloc (.cells #[.slice A0 n0 c0, .bool s0, .slice A1 n1 c1, .bool s1] 24); replace r1 := r1.alloc (.cells #[.slice A0 n0 c0, .bool s0, .slice A1 n1 c1, .bool s1] 24); replace TT := TT.alloc (.cells #[.slice A0 n0 c0, .bool s0, .slice A1 n1 c1, .bool s1] 24); replace BB := Lib.hid (below_new BB.out (.cells #[.slice A0 n0 c0, .bool s0, .slice A1 n1 c1, .bool s1] 24))) | (go_at_call 6; refine (awake_any _ TT).mono ?_; rintro e wn ⟨rfl, hb⟩; have kb := hb; (try replace O2 := O2.step kb); (try replace O3 := O3.step kb); (try replace r0 := r0.step kb); (try replace r1 := r1.step kb); (try replace TT := TT.step kb); replace BB := Lib.hid (below_step BB.out kb); (try clear q20 q21); (try (have q20 := O2.cell 0; have q21 := O2.cell 1)); (try clear q30 q31); (try (have q30 := O3.cell 0; have q31 := O3.cell 1))) | (go_at_call 15; refine (of_w _ _ (by decide)).mono ?_; rintro e w5 ⟨A5, n5, c5, rfl, hc5, hn5, hv, hb⟩; have kb := hb; replace O2 := O2.step kb; replace O3 := O3.step kb; replace r0 := r0.step kb; replace r1 := r1.step kb; replace TT := TT.step kb; replace BB := Lib.hid (below_step BB.out kb); replace O2 := O2.alloc (.cells #[.slice A5 n5 c5, .bool false] 24); replace O3 := O3.alloc (.cells #[.slice A5 n5 c5, .bool false] 24); replace r0 := r0.alloc (.cells #[.slice A5 n5 c5, .bool false] 24); replace r1 := r1.alloc (.cells #[.slice A5 n5 c5, .bool false] 24); replace TT := TT.alloc (.cells #[.slice A5 n5 c5, .bool false] 24); replace BB := Lib.hid (below_new BB.out (.cells #[.slice A5 n5 c5, .bool false] 24)); have O5 := Own.new w5 24 #[.slice A5 n5 c5, .bool false]; have r5 := hv.rd.alloc (.cells #[.slice A5 n5 c5, .bool false] 24); clear hb kb hv))
      have hBase : w.heap.size ≤ w5.heap.size + 1 := by have := BB.out.size; simp at this; omega
      have hq3 : w.heap.size + 1 < w5.heap.size + 1 := by have := O3.lt; simpa using this
      refine region_l (by kernel_rfl) (fun u => owns w.heap.size #[.slice A0 n0 c0, .bool s0] u ∧ (owns (w.heap.size + 1) #[.slice A1 n1 c1, .bool s1] u ∧ (owns w5.heap.size #[.slice A5 n5 c5, .bool false] u ∧ (rds A0 n0 l0 u ∧ (rds A1 n1 l1 u ∧ (rds A5 n5 (ofL ⟨#[49]⟩) u ∧ (szW (w5.heap.size + 1) u ∧ (tbs u ∧ blw w u)))))))) [un (isV (.agg #[.slice A5 n5 c5, .bool false])), un (isV (.agg #[.slice A0 n0 c0, .bool s0])), un (isV (.agg #[.slice A1 n1 c1, .bool s1])), un (isW (condV (⟨(ofL ⟨#[49]⟩), false⟩ : V) (⟨l0, s0⟩ : V) (⟨l1, s1⟩ : V))), un (isW (⟨ofL ⟨#[48]⟩, false⟩ : V)), un (isV (.agg #[.slice A0 n0 c0, .bool s0])), un (isV (.agg #[.slice A1 n1 c1, .bool s1])), un (isW (condV (⟨ofL ⟨#[48]⟩, false⟩ : V) (⟨l0, s0⟩ : V) (⟨l1, s1⟩ : V))), un (isFr (w5.heap.size + 1)), un (isFr (w5.heap.size + 1)), filled (w5.heap.size + 1) (condV (⟨(ofL ⟨#[49]⟩), false⟩ : V) (⟨l0, s0⟩ : V) (⟨l1, s1⟩ : V)), filled (w5.heap.size + 1) (condV (⟨ofL ⟨#[48]⟩, false⟩ : V) (⟨l0, s0⟩ : V) (⟨l1, s1⟩ : V))] [some 19, some 20, some 21, some 22, some 23, some 24, some 25, some 26, some 6, some 7, none, none] [0, 1, 2, 3, 4, 5, 6, 7, 8, 9, 8, 9] [8, 9] [[], [], [], [0, 1, 2], [3], [], [], [4, 5, 6, 4], [], [], [8, 3, 7, 0, 1, 2, 3, 8, 9], [9, 7, 10, 0, 1, 2, 3, 4, 5, 6, 7, 8, 9, 10]] (by kernel_rfl) (by kernel_rfl) rfl (by kernel_rfl) (by kernel_rfl) (by kernel_rfl) (by kernel_rfl) ⟨O2.drew, O3.drew, O5.drew, r0.drew, r1.drew, r5.drew, (by simp [szW, World.drew]), TT.drew, below_drew BB.out⟩ ?_ ?_
      · refine ⟨?_, ?_, ?_, ?_, ?_, ?_, ?_, ?_, ?_, ?_, ?_, ?_, trivial⟩
        · intro a w' hS hO hF hD K hK
          have ha := hO 5 (by rfl)
          refine if_ok (by rfl) ?_
          refine wp_load_row 24 (.tmp 5) rfl w5.heap.size (ev ha) _ _ (0, 0) _ hS.2.2.1 Tryd.underlying24 rfl (by kernel_rfl) ?_
          exact hK _ w' (fun h => by cases h) (Nat.le_refl _) (fun h => absurd h (by decide)) hS (fun _ _ _ _ h => h) (fun V hV => by obtain rfl := Option.some.inj hV; exact rfl)
        · intro a w' hS hO hF hD K hK
          have ha := hO 2 (by rfl)
          refine if_ok (by rfl) ?_
          refine wp_load_row 24 (.tmp 2) rfl w.heap.size (ev ha) _ _ (0, 0) _ hS.1 Tryd.underlying24 rfl (by kernel_rfl) ?_
          exact hK _ w' (fun h => by cases h) (Nat.le_refl _) (fun h => absurd h (by decide)) hS (fun _ _ _ _ h => h) (fun V hV => by obtain rfl := Option.some.inj hV; exact rfl)
        · intro a w' hS hO hF hD K hK
          have ha := hO 3 (by rfl)
          refine if_ok (by rfl) ?_
          refine wp_load_row 24 (.tmp 3) rfl (w.heap.size + 1) (ev ha) _ _ (0, 0) _ hS.2.1 Tryd.underlying24 rfl (by kernel_rfl) ?_
          exact hK _ w' (fun h => by cases h) (Nat.le_refl _) (fun h => absurd h (by decide)) hS (fun _ _ _ _ h => h) (fun V hV => by obtain rfl := Option.some.inj hV; exact rfl)
        · intro a w' hS hO hF hD K hK
          have j0 := hF 0 rfl
          have f0 := j0.2 19 rfl
          rw [show valD _ _ 0 = _ from j0.1 _ rfl] at f0
          have j1 := hF 1 rfl
          have f1 := j1.2 20 rfl
          rw [show valD _ _ 1 = _ from j1.1 _ rfl] at f1
          have j2 := hF 2 rfl
          have f2 := j2.2 21 rfl
          rw [show valD _ _ 2 = _ from j2.1 _ rfl] at f2
          refine if_ok (by rfl) ?_
          refine wp_calls rfl (enters_of Tryd.func16 (by kernel_rfl) rfl) (args := #[(.agg #[.slice A5 n5 c5, .bool false]), (.agg #[.slice A0 n0 c0, .bool s0]), (.agg #[.slice A1 n1 c1, .bool s1])]) (by simp [Act.eval, f0, f1, f2]) ?_
          obtain ⟨O2, O3, O5, r0, r1, r5, BZ, TT, BB⟩ := id hS
          apply Calls.mono
          (with_reducible apply cond_any_w); (repeat (first | assumption | (with_reducible (apply Nb.rd; assumption)) | (with_reducible (apply Rb.at_later; assumption)) | (with_reducible (apply Tabs.at_later; assumption)) | (with_reducible apply Rb.alloc) | (with_reducible apply Tabs.alloc) | (with_reducible apply Rb.drew) | (with_reducible apply Tabs.drew) | (show I64 _; unfold I64; omega) | omega))
          rintro e w2 ⟨A, n, c, rfl, hc, hn, hv, hb⟩
          exact ⟨_, rfl, hK _ w2 (fun h => by cases h) hb.size (fun h => absurd h (by decide)) ((show Stb (fun u => owns w.heap.size #[.slice A0 n0 c0, .bool s0] u ∧ (owns (w.heap.size + 1) #[.slice A1 n1 c1, .bool s1] u ∧ (owns w5.heap.size #[.slice A5 n5 c5, .bool false] u ∧ (rds A0 n0 l0 u ∧ (rds A1 n1 l1 u ∧ (rds A5 n5 (ofL ⟨#[49]⟩) u ∧ (szW (w5.heap.size + 1) u ∧ (tbs u ∧ blw w u)))))))) from inferInstance).st _ _ hb hS) (keepL_below hb) (fun V hV => by obtain rfl := Option.some.inj hV; exact ⟨A, n, c, rfl, hc, hn, hv.rd⟩)⟩
        · intro a w' hS hO hF hD K hK
          refine if_ok (by rfl) ?_
          refine wp_calls rfl (enters_of Tryd.func15 (by kernel_rfl) rfl) (args := #[(.string ⟨#[48]⟩)]) (by simp [Act.eval]) ?_
          obtain ⟨O2, O3, O5, r0, r1, r5, BZ, TT, BB⟩ := id hS
          apply Calls.mono
          (with_reducible apply of_w); decide
          rintro e w2 ⟨A, n, c, rfl, hc, hn, hv, hb⟩
          exact ⟨_, rfl, hK _ w2 (fun h => by cases h) hb.size (fun h => absurd h (by decide)) ((show Stb (fun u => owns w.heap.size #[.slice A0 n0 c0, .bool s0] u ∧ (owns (w.heap.size + 1) #[.slice A1 n1 c1, .bool s1] u ∧ (owns w5.heap.size #[.slice A5 n5 c5, .bool false] u ∧ (rds A0 n0 l0 u ∧ (rds A1 n1 l1 u ∧ (rds A5 n5 (ofL ⟨#[49]⟩) u ∧ (szW (w5.heap.size + 1) u ∧ (tbs u ∧ blw w u)))))))) from inferInstance).st _ _ hb hS) (keepL_below hb) (fun V hV => by obtain rfl := Option.some.inj hV; exact ⟨A, n, c, rfl, hc, hn, hv.rd⟩)⟩
        · intro a w' hS hO hF hD K hK
          have ha := hO 2 (by rfl)
          refine if_ok (by rfl) ?_
          refine wp_load_row 24 (.tmp 2) rfl w.heap.size (ev ha) _ _ (0, 0) _ hS.1 Tryd.underlying24 rfl (by kernel_rfl) ?_
          exact hK _ w' (fun h => by cases h) (Nat.le_refl _) (fun h => absurd h (by decide)) hS (fun _ _ _ _ h => h) (fun V hV => by obtain rfl := Option.some.inj hV; exact rfl)
        · intro a w' hS hO hF hD K hK
          have ha := hO 3 (by rfl)
          refine if_ok (by rfl) ?_
          refine wp_load_row 24 (.tmp 3) rfl (w.heap.size + 1) (ev ha) _ _ (0, 0) _ hS.2.1 Tryd.underlying24 rfl (by kernel_rfl) ?_
          exact hK _ w' (fun h => by cases h) (Nat.le_refl _) (fun h => absurd h (by decide)) hS (fun _ _ _ _ h => h) (fun V hV => by obtain rfl := Option.some.inj hV; exact rfl)
        · intro a w' hS hO hF hD K hK
          have j0 := hF 4 rfl
          have f0 := j0.2 23 rfl
          obtain ⟨Ay0, ny0, cy0, e0, hc0, hn0, hr0⟩ := j0.1 _ rfl
          rw [e0] at f0
          have j1 := hF 5 rfl
          have f1 := j1.2 24 rfl
          rw [show valD _ _ 5 = _ from j1.1 _ rfl] at f1
          have j2 := hF 6 rfl
          have f2 := j2.2 25 rfl
          rw [show valD _ _ 6 = _ from j2.1 _ rfl] at f2
          refine if_ok (by rfl) ?_
          refine wp_calls rfl (enters_of Tryd.func16 (by kernel_rfl) rfl) (args := #[(.agg #[.slice Ay0 ny0 cy0, .bool (⟨ofL ⟨#[48]⟩, false⟩ : V).s]), (.agg #[.slice A0 n0 c0, .bool s0]), (.agg #[.slice A1 n1 c1, .bool s1])]) (by simp [Act.eval, f0, f1, f2]) ?_
          obtain ⟨O2, O3, O5, r0, r1, r5, BZ, TT, BB⟩ := id hS
          apply Calls.mono
          (with_reducible apply cond_any_w); (repeat (first | assumption | (with_reducible (apply Nb.rd; assumption)) | (with_reducible (apply Rb.at_later; assumption)) | (with_reducible (apply Tabs.at_later; assumption)) | (with_reducible apply Rb.alloc) | (with_reducible apply Tabs.alloc) | (with_reducible apply Rb.drew) | (with_reducible apply Tabs.drew) | (show I64 _; unfold I64; omega) | omega))
          rintro e w2 ⟨A, n, c, rfl, hc, hn, hv, hb⟩
          exact ⟨_, rfl, hK _ w2 (fun h => by cases h) hb.size (fun h => absurd h (by decide)) ((show Stb (fun u => owns w.heap.size #[.slice A0 n0 c0, .bool s0] u ∧ (owns (w.heap.size + 1) #[.slice A1 n1 c1, .bool s1] u ∧ (owns w5.heap.size #[.slice A5 n5 c5, .bool false] u ∧ (rds A0 n0 l0 u ∧ (rds A1 n1 l1 u ∧ (rds A5 n5 (ofL ⟨#[49]⟩) u ∧ (szW (w5.heap.size + 1) u ∧ (tbs u ∧ blw w u)))))))) from inferInstance).st _ _ hb hS) (keepL_below hb) (fun V hV => by obtain rfl := Option.some.inj hV; exact ⟨A, n, c, rfl, hc, hn, hv.rd⟩)⟩
        · intro a w' hS hO hF hD K hK
          refine if_ok (by rfl) ?_
          refine wp_alloc rfl ?_
          have hb := below_new (Below.refl w'.heap.size w') (.cells #[.slice none 0 0, .bool false] 24)
          have hBz := hS.2.2.2.2.2.2.1
          exact hK _ _ (fun h => by cases h) hb.size (fun _ => ⟨rfl, by simp⟩) ((show Stb (fun u => owns w.heap.size #[.slice A0 n0 c0, .bool s0] u ∧ (owns (w.heap.size + 1) #[.slice A1 n1 c1, .bool s1] u ∧ (owns w5.heap.size #[.slice A5 n5 c5, .bool false] u ∧ (rds A0 n0 l0 u ∧ (rds A1 n1 l1 u ∧ (rds A5 n5 (ofL ⟨#[49]⟩) u ∧ (szW (w5.heap.size + 1) u ∧ (tbs u ∧ blw w u)))))))) from inferInstance).st _ _ hb hS) (keepL_below hb) (fun V hV => by obtain rfl := Option.some.inj hV; exact ⟨_, rfl, hBz, _, _, _, _, Own.new w' 24 _⟩)
        · intro a w' hS hO hF hD K hK
          refine if_ok (by rfl) ?_
          refine wp_alloc rfl ?_
          have hb := below_new (Below.refl w'.heap.size w') (.cells #[.slice none 0 0, .bool false] 24)
          have hBz := hS.2.2.2.2.2.2.1
          exact hK _ _ (fun h => by cases h) hb.size (fun _ => ⟨rfl, by simp⟩) ((show Stb (fun u => owns w.heap.size #[.slice A0 n0 c0, .bool s0] u ∧ (owns (w.heap.size + 1) #[.slice A1 n1 c1, .bool s1] u ∧ (owns w5.heap.size #[.slice A5 n5 c5, .bool false] u ∧ (rds A0 n0 l0 u ∧ (rds A1 n1 l1 u ∧ (rds A5 n5 (ofL ⟨#[49]⟩) u ∧ (szW (w5.heap.size + 1) u ∧ (tbs u ∧ blw w u)))))))) from inferInstance).st _ _ hb hS) (keepL_below hb) (fun V hV => by obtain rfl := Option.some.inj hV; exact ⟨_, rfl, hBz, _, _, _, _, Own.new w' 24 _⟩)
        · intro a w' hS hO hF hD K hK
          have j0 := hF 3 rfl
          have f0 := j0.2 22 rfl
          obtain ⟨Ay0, ny0, cy0, e0, hc0, hn0, hr0⟩ := j0.1 _ rfl
          rw [e0] at f0
          have jp := hF 8 rfl
          have fp := jp.2 6 rfl
          obtain ⟨g, eg, hg, X, q1, q2, q3, O⟩ := jp.1 _ rfl
          have hgx := eg
          rw [eg] at fp
          have hB0 := hBase
          haveI : Over w g := ⟨Nat.le_trans (show w.heap.size ≤ _ from hB0) hg⟩
          haveI : Apart g w.heap.size := ⟨fun e => by subst e; have := hB0; omega⟩
          haveI : Apart g (w.heap.size + 1) := ⟨fun e => by subst e; have := hB0; omega⟩
          haveI : Apart g w5.heap.size := ⟨fun e => by subst e; have := hB0; omega⟩
          refine if_ok (by rfl) ?_
          refine wp_store_row _ _ _ rfl g _ (ev fp) (ev f0) _ _ O vec_size rfl (by simp [Value.oneCell']) ?_
          exact hK _ _ (fun _ => rfl) (by simp [World.setRow]) (fun h => absurd h (by decide)) ((show Sst g (fun u => owns w.heap.size #[.slice A0 n0 c0, .bool s0] u ∧ (owns (w.heap.size + 1) #[.slice A1 n1 c1, .bool s1] u ∧ (owns w5.heap.size #[.slice A5 n5 c5, .bool false] u ∧ (rds A0 n0 l0 u ∧ (rds A1 n1 l1 u ∧ (rds A5 n5 (ofL ⟨#[49]⟩) u ∧ (szW (w5.heap.size + 1) u ∧ (tbs u ∧ blw w u)))))))) from inferInstance).st _ _ _ _ _ _ O hS) (keepL_store O (fun j V hj hV => by
            match j, hj, hV with
            | 0, _, hV => obtain rfl := Option.some.inj hV; exact ssx_un
            | 1, _, hV => obtain rfl := Option.some.inj hV; exact ssx_un
            | 2, _, hV => obtain rfl := Option.some.inj hV; exact ssx_un
            | 3, _, hV => obtain rfl := Option.some.inj hV; exact ssx_un
            | 4, _, hV => obtain rfl := Option.some.inj hV; exact ssx_un
            | 5, _, hV => obtain rfl := Option.some.inj hV; exact ssx_un
            | 6, _, hV => obtain rfl := Option.some.inj hV; exact ssx_un
            | 7, _, hV => obtain rfl := Option.some.inj hV; exact ssx_un
            | 8, _, hV => obtain rfl := Option.some.inj hV; exact ssx_fr
            | 9, _, hV => obtain rfl := Option.some.inj hV; exact ssx_fr
            | 10, hj, _ => exact absurd rfl hj
            | 11, _, hV => obtain rfl := Option.some.inj hV; exact ssx_filled (fun e => hD 9 8 (by decide) rfl rfl rfl rfl (e.trans hgx.symm))
            | q + 12, _, hV => simp at hV)) (fun V hV => by obtain rfl := Option.some.inj hV; rw [if_neg (by decide)]; exact ⟨g, Ay0, ny0, cy0, hgx, hg, O.row, hc0, hn0, hr0.row O⟩)
        · intro a w' hS hO hF hD K hK
          have j0 := hF 7 rfl
          have f0 := j0.2 26 rfl
          obtain ⟨Ay0, ny0, cy0, e0, hc0, hn0, hr0⟩ := j0.1 _ rfl
          rw [e0] at f0
          have jp := hF 9 rfl
          have fp := jp.2 7 rfl
          obtain ⟨g, eg, hg, X, q1, q2, q3, O⟩ := jp.1 _ rfl
          have hgx := eg
          rw [eg] at fp
          have hB0 := hBase
          haveI : Over w g := ⟨Nat.le_trans (show w.heap.size ≤ _ from hB0) hg⟩
          haveI : Apart g w.heap.size := ⟨fun e => by subst e; have := hB0; omega⟩
          haveI : Apart g (w.heap.size + 1) := ⟨fun e => by subst e; have := hB0; omega⟩
          haveI : Apart g w5.heap.size := ⟨fun e => by subst e; have := hB0; omega⟩
          refine if_ok (by rfl) ?_
          refine wp_store_row _ _ _ rfl g _ (ev fp) (ev f0) _ _ O vec_size rfl (by simp [Value.oneCell']) ?_
          exact hK _ _ (fun _ => rfl) (by simp [World.setRow]) (fun h => absurd h (by decide)) ((show Sst g (fun u => owns w.heap.size #[.slice A0 n0 c0, .bool s0] u ∧ (owns (w.heap.size + 1) #[.slice A1 n1 c1, .bool s1] u ∧ (owns w5.heap.size #[.slice A5 n5 c5, .bool false] u ∧ (rds A0 n0 l0 u ∧ (rds A1 n1 l1 u ∧ (rds A5 n5 (ofL ⟨#[49]⟩) u ∧ (szW (w5.heap.size + 1) u ∧ (tbs u ∧ blw w u)))))))) from inferInstance).st _ _ _ _ _ _ O hS) (keepL_store O (fun j V hj hV => by
            match j, hj, hV with
            | 0, _, hV => obtain rfl := Option.some.inj hV; exact ssx_un
            | 1, _, hV => obtain rfl := Option.some.inj hV; exact ssx_un
            | 2, _, hV => obtain rfl := Option.some.inj hV; exact ssx_un
            | 3, _, hV => obtain rfl := Option.some.inj hV; exact ssx_un
            | 4, _, hV => obtain rfl := Option.some.inj hV; exact ssx_un
            | 5, _, hV => obtain rfl := Option.some.inj hV; exact ssx_un
            | 6, _, hV => obtain rfl := Option.some.inj hV; exact ssx_un
            | 7, _, hV => obtain rfl := Option.some.inj hV; exact ssx_un
            | 8, _, hV => obtain rfl := Option.some.inj hV; exact ssx_fr
            | 9, _, hV => obtain rfl := Option.some.inj hV; exact ssx_fr
            | 10, _, hV => obtain rfl := Option.some.inj hV; exact ssx_filled (fun e => hD 8 9 (by decide) rfl rfl rfl rfl (e.trans hgx.symm))
            | 11, hj, _ => exact absurd rfl hj
            | q + 12, _, hV => simp at hV)) (fun V hV => by obtain rfl := Option.some.inj hV; rw [if_neg (by decide)]; exact ⟨g, Ay0, ny0, cy0, hgx, hg, O.row, hc0, hn0, hr0.row O⟩)
      · intro vs u hl hS hV
        match vs, hl, hV with
        | [v0, v1, v2, v3, v4, v5, v6, v7, v8, v9, v10, v11], _, hV =>
          obtain ⟨g6, A6, n6, c6, e6, hB6, O6, hcc6, hnn6, r6⟩ := hV 10 _ rfl
          replace e6 : v8 = .pointer (some ⟨g6, 0, none⟩) := e6
          subst e6
          obtain ⟨g7, A7, n7, c7, e7, hB7, O7, hcc7, hnn7, r7⟩ := hV 11 _ rfl
          replace e7 : v9 = .pointer (some ⟨g7, 0, none⟩) := e7
          subst e7
          obtain rfl := hV 0 _ rfl
          obtain rfl := hV 1 _ rfl
          obtain rfl := hV 2 _ rfl
          obtain ⟨_, _, _, rfl, _, _, _⟩ := hV 3 _ rfl
          obtain ⟨_, _, _, rfl, _, _, _⟩ := hV 4 _ rfl
          obtain rfl := hV 5 _ rfl
          obtain rfl := hV 6 _ rfl
          obtain ⟨_, _, _, rfl, _, _, _⟩ := hV 7 _ rfl
          simp only [puts, Act.put, List.setIfInBounds_toArray, List.set_cons_zero, List.set_cons_succ]
          obtain ⟨O2, O3, O5, r0, r1, r5, BZ, TT, BB⟩ := hS
          clear hV
          replace O2 : Own u w.heap.size 24 #[.slice A0 n0 c0, .bool s0] := O2
          replace O3 : Own u (w.heap.size + 1) 24 #[.slice A1 n1 c1, .bool s1] := O3
          replace O5 : Own u w5.heap.size 24 #[.slice A5 n5 c5, .bool false] := O5
          replace r0 : Rb u A0 n0 l0 := r0
          replace r1 : Rb u A1 n1 l1 := r1
          replace r5 : Rb u A5 n5 (ofL ⟨#[49]⟩) := r5
          replace TT : Tabs u := TT
          replace BB : Below w.heap.size w u := BB
          go_wp2
          refine region_y (by kernel_rfl) (fun u => owns w.heap.size #[.slice A0 n0 c0, .bool s0] u ∧ (owns (w.heap.size + 1) #[.slice A1 n1 c1, .bool s1] u ∧ (owns w5.heap.size #[.slice A5 n5 c5, .bool false] u ∧ (owns g6 #[.slice A6 n6 c6, .bool (condV (⟨ofL ⟨#[49]⟩, false⟩ : V) (⟨l0, s0⟩ : V) (⟨l1, s1⟩ : V)).s] u ∧ (owns g7 #[.slice A7 n7 c7, .bool (condV (⟨ofL ⟨#[48]⟩, false⟩ : V) (⟨l0, s0⟩ : V) (⟨l1, s1⟩ : V)).s] u ∧ (rds A0 n0 l0 u ∧ (rds A1 n1 l1 u ∧ (rds A5 n5 (ofL ⟨#[49]⟩) u ∧ (rds A6 n6 (condV (⟨ofL ⟨#[49]⟩, false⟩ : V) (⟨l0, s0⟩ : V) (⟨l1, s1⟩ : V)).l u ∧ (rds A7 n7 (condV (⟨ofL ⟨#[48]⟩, false⟩ : V) (⟨l0, s0⟩ : V) (⟨l1, s1⟩ : V)).l u ∧ (tbs u ∧ blw w u))))))))))) [] [isV (.agg #[.slice A0 n0 c0, .bool s0]), isV (.agg #[.slice A1 n1 c1, .bool s1]), isW (one1 (fromI (mtB noW (⟨l0, s0⟩ : V) (⟨l1, s1⟩ : V)))), isV (.agg #[.slice A5 n5 c5, .bool false]), isV (.bool true), isV (.bool true)] [some 27, some 28, some 29, some 30, some 31, some 8] [[], [], [0, 1], [], [2, 3, 2], [4, 4, 0, 1, 2, 3, 4]] (by kernel_rfl) (by kernel_rfl) rfl (by kernel_rfl) (by kernel_rfl) (by kernel_rfl) ⟨O2.drew, O3.drew, O5.drew, O6.drew, O7.drew, r0.drew, r1.drew, r5.drew, r6.drew, r7.drew, TT.drew, below_drew BB⟩ (fun _ h => by cases h) ?_ ?_
          · refine ⟨?_, ?_, ?_, ?_, ?_, ?_, trivial⟩
            · intro a w' hS hO hF' hP K hK
              have ha := hO 2 (by rfl)
              refine if_ok (by rfl) ?_
              refine wp_load_row 24 (.tmp 2) rfl w.heap.size (ev ha) _ _ (0, 0) _ hS.1 Tryd.underlying24 rfl (by kernel_rfl) ?_
              exact hK _ w' (fun h => by cases h) (keep_same hS) rfl
            · intro a w' hS hO hF' hP K hK
              have ha := hO 3 (by rfl)
              refine if_ok (by rfl) ?_
              refine wp_load_row 24 (.tmp 3) rfl (w.heap.size + 1) (ev ha) _ _ (0, 0) _ hS.2.1 Tryd.underlying24 rfl (by kernel_rfl) ?_
              exact hK _ w' (fun h => by cases h) (keep_same hS) rfl
            · intro a w' hS hO hF' hP K hK
              obtain ⟨_, f0, rfl⟩ := (hF' 0 rfl).1 27 _ rfl rfl
              obtain ⟨_, f1, rfl⟩ := (hF' 1 rfl).1 28 _ rfl rfl
              refine if_ok (by rfl) ?_
              refine wp_calls rfl (enters_of Tryd.func17 (by kernel_rfl) rfl) (args := #[(.agg #[.slice A0 n0 c0, .bool s0]), (.agg #[.slice A1 n1 c1, .bool s1])]) (by simp [Act.eval, f0, f1]) ?_
              obtain ⟨O2, O3, O5, O6, O7, r0, r1, r5, r6, r7, TT, BB⟩ := id hS
              apply Calls.mono
              (with_reducible apply caseEq_any_w); (repeat (first | assumption | (with_reducible (apply Nb.rd; assumption)) | (with_reducible (apply Rb.at_later; assumption)) | (with_reducible (apply Tabs.at_later; assumption)) | (with_reducible apply Rb.alloc) | (with_reducible apply Tabs.alloc) | (with_reducible apply Rb.drew) | (with_reducible apply Tabs.drew) | (show I64 _; unfold I64; omega) | omega))
              rintro e w2 ⟨A, n, c, rfl, hc, hn, hv, hb⟩
              exact ⟨_, rfl, hK _ w2 (fun h => by cases h) (keep_below hb hS) ⟨A, n, c, rfl, hc, hn, hv.rd⟩⟩
            · intro a w' hS hO hF' hP K hK
              have ha := hO 5 (by rfl)
              refine if_ok (by rfl) ?_
              refine wp_load_row 24 (.tmp 5) rfl w5.heap.size (ev ha) _ _ (0, 0) _ hS.2.2.1 Tryd.underlying24 rfl (by kernel_rfl) ?_
              exact hK _ w' (fun h => by cases h) (keep_same hS) rfl
            · intro a w' hS hO hF' hP K hK
              obtain ⟨_, f0, Ay0, ny0, cy0, rfl, hc0, hn0, hr0⟩ := (hF' 2 rfl).1 29 _ rfl rfl
              obtain ⟨_, f1, rfl⟩ := (hF' 3 rfl).1 30 _ rfl rfl
              refine if_ok (by rfl) ?_
              refine wp_calls rfl (enters_of Tryd.func10 (by kernel_rfl) rfl) (args := #[(.agg #[.slice Ay0 ny0 cy0, .bool (one1 (fromI (mtB noW (⟨l0, s0⟩ : V) (⟨l1, s1⟩ : V)))).s]), (.agg #[.slice A5 n5 c5, .bool false])]) (by simp [Act.eval, f0, f1]) ?_
              obtain ⟨O2, O3, O5, O6, O7, r0, r1, r5, r6, r7, TT, BB⟩ := id hS
              apply Calls.mono
              (refine same_b (p := true) _ _ _ _ _ _ _ _ _ _ _ ?_ ?_ ?_ ?_ ((ce_same (⟨l0, s0⟩ : V) (⟨l1, s1⟩ : V)).trans hE)); (repeat (first | assumption | (with_reducible (apply Nb.rd; assumption)) | (with_reducible (apply Rb.at_later; assumption)) | (with_reducible (apply Tabs.at_later; assumption)) | (with_reducible apply Rb.alloc) | (with_reducible apply Tabs.alloc) | (with_reducible apply Rb.drew) | (with_reducible apply Tabs.drew) | (show I64 _; unfold I64; omega) | omega))
              rintro e w2 ⟨rfl, hb⟩
              exact ⟨_, rfl, hK _ w2 (fun h => by cases h) (keep_below hb hS) rfl⟩
            · intro a w' hS hO hF' hP K hK
              obtain ⟨_, f0, rfl⟩ := (hF' 4 rfl).1 31 _ rfl rfl
              refine if_ok (by rfl) ?_
              unfold Oper.wp execOp
              simp only [Sem.run_pure, ev f0]
              exact hK _ w' (fun h => by cases h) (keep_same hS) rfl
          · intro vs u hl hS hV
            match vs, hl, hV with
            | [v0, v1, v2, v3, v4, v5], _, hV =>
              obtain rfl := hV 0 _ rfl
              obtain rfl := hV 1 _ rfl
              obtain rfl := hV 3 _ rfl
              obtain rfl := hV 4 _ rfl
              obtain rfl := hV 5 _ rfl
              simp only [puts, Act.put, List.setIfInBounds_toArray, List.set_cons_zero, List.set_cons_succ]
              obtain ⟨O2, O3, O5, O6, O7, r0, r1, r5, r6, r7, TT, BB⟩ := hS
              clear hV
              replace O2 : Own u w.heap.size 24 #[.slice A0 n0 c0, .bool s0] := O2
              replace O3 : Own u (w.heap.size + 1) 24 #[.slice A1 n1 c1, .bool s1] := O3
              replace O5 : Own u w5.heap.size 24 #[.slice A5 n5 c5, .bool false] := O5
              replace O6 : Own u g6 24 #[.slice A6 n6 c6, .bool (condV (⟨ofL ⟨#[49]⟩, false⟩ : V) (⟨l0, s0⟩ : V) (⟨l1, s1⟩ : V)).s] := O6
              replace O7 : Own u g7 24 #[.slice A7 n7 c7, .bool (condV (⟨ofL ⟨#[48]⟩, false⟩ : V) (⟨l0, s0⟩ : V) (⟨l1, s1⟩ : V)).s] := O7
              replace r0 : Rb u A0 n0 l0 := r0
              replace r1 : Rb u A1 n1 l1 := r1
              replace r5 : Rb u A5 n5 (ofL ⟨#[49]⟩) := r5
              replace r6 : Rb u A6 n6 (condV (⟨ofL ⟨#[49]⟩, false⟩ : V) (⟨l0, s0⟩ : V) (⟨l1, s1⟩ : V)).l := r6
              replace r7 : Rb u A7 n7 (condV (⟨ofL ⟨#[48]⟩, false⟩ : V) (⟨l0, s0⟩ : V) (⟨l1, s1⟩ : V)).l := r7
              replace TT : Tabs u := TT
              replace BB : Below w.heap.size w u := BB
              go_wp2
              refine region_y (by kernel_rfl) (fun u => owns w.heap.size #[.slice A0 n0 c0, .bool s0] u ∧ (owns (w.heap.size + 1) #[.slice A1 n1 c1, .bool s1] u ∧ (owns w5.heap.size #[.slice A5 n5 c5, .bool false] u ∧ (owns g6 #[.slice A6 n6 c6, .bool (condV (⟨ofL ⟨#[49]⟩, false⟩ : V) (⟨l0, s0⟩ : V) (⟨l1, s1⟩ : V)).s] u ∧ (owns g7 #[.slice A7 n7 c7, .bool (condV (⟨ofL ⟨#[48]⟩, false⟩ : V) (⟨l0, s0⟩ : V) (⟨l1, s1⟩ : V)).s] u ∧ (rds A0 n0 l0 u ∧ (rds A1 n1 l1 u ∧ (rds A5 n5 (ofL ⟨#[49]⟩) u ∧ (rds A6 n6 (condV (⟨ofL ⟨#[49]⟩, false⟩ : V) (⟨l0, s0⟩ : V) (⟨l1, s1⟩ : V)).l u ∧ (rds A7 n7 (condV (⟨ofL ⟨#[48]⟩, false⟩ : V) (⟨l0, s0⟩ : V) (⟨l1, s1⟩ : V)).l u ∧ (tbs u ∧ blw w u))))))))))) [] [isV (.bool true), isV (.agg #[.slice A6 n6 c6, .bool (condV (⟨ofL ⟨#[49]⟩, false⟩ : V) (⟨l0, s0⟩ : V) (⟨l1, s1⟩ : V)).s]), isV (.agg #[.slice A7 n7 c7, .bool (condV (⟨ofL ⟨#[48]⟩, false⟩ : V) (⟨l0, s0⟩ : V) (⟨l1, s1⟩ : V)).s]), isV (.bool true), isV (.bool false), isV (.bool false), isV (.agg #[.slice A0 n0 c0, .bool s0]), isV (.agg #[.slice A1 n1 c1, .bool s1]), isW (one1 (notI (fromI (mtB noW (⟨l0, s0⟩ : V) (⟨l1, s1⟩ : V))))), isV (.agg #[.slice A5 n5 c5, .bool false]), isV (.bool false), isV (.bool true), isV (.bool false), isV (.bool false), isV (.bool false), isV (.bool true), isV (.bool true), isV (.agg #[.slice A0 n0 c0, .bool s0]), isV (.agg #[.slice A1 n1 c1, .bool s1]), isV (.bool true), isV (.bool false), isV (.bool false), isV (.bool false), isV (.bool false), isV (.agg #[.slice A0 n0 c0, .bool s0]), isV (.agg #[.slice A1 n1 c1, .bool s1]), isV (.bool true), isV (.bool true), isV (.agg #[.slice A0 n0 c0, .bool s0]), isV (.agg #[.slice A1 n1 c1, .bool s1]), isV (.bool true), isV (.bool false), isV (.bool false), isV (.bool false)] [some 32, some 33, some 34, some 35, some 36, some 37, some 38, some 39, some 40, some 41, some 42, some 43, some 44, some 45, some 46, some 47, some 48, some 49, some 50, some 51, some 52, some 53, some 54, some 55, some 56, some 57, some 58, some 59, some 60, some 61, some 62, some 63, some 64, some 65] [[], [], [], [1, 2], [0, 3], [4, 3], [5], [5], [6, 7, 5, 5], [5], [8, 9, 8, 5], [5], [10, 11, 5], [5, 12], [13, 10], [14], [15, 14, 14], [16], [16], [17, 18, 16, 16], [19, 16], [16, 20, 14], [14, 21], [22, 19], [23], [23], [24, 25, 23, 23], [26, 26, 23], [27], [27], [28, 29, 27, 27], [30, 27], [27, 31, 23], [23, 32]] (by kernel_rfl) (by kernel_rfl) rfl (by kernel_rfl) (by kernel_rfl) (by kernel_rfl) ⟨O2.drew, O3.drew, O5.drew, O6.drew, O7.drew, r0.drew, r1.drew, r5.drew, r6.drew, r7.drew, TT.drew, below_drew BB⟩ (fun _ h => by cases h) ?_ ?_
              · refine ⟨?_, ?_, ?_, ?_, ?_, ?_, ?_, ?_, ?_, ?_, ?_, ?_, ?_, ?_, ?_, ?_, ?_, ?_, ?_, ?_, ?_, ?_, ?_, ?_, ?_, ?_, ?_, ?_, ?_, ?_, ?_, ?_, ?_, ?_, trivial⟩
                · intro a w' hS hO hF' hP K hK
                  have f0 := hO 8 (by rfl)
                  refine if_ok (by rfl) ?_
                  unfold Oper.wp execOp
                  simp only [Sem.run_pure, ev f0]
                  exact hK _ w' (fun h => by cases h) (keep_same hS) rfl
                · intro a w' hS hO hF' hP K hK
                  have ha := hO 6 (by rfl)
                  refine if_ok (by rfl) ?_
                  refine wp_load_row 24 (.tmp 6) rfl g6 (ev ha) _ _ (0, 0) _ hS.2.2.2.1 Tryd.underlying24 rfl (by kernel_rfl) ?_
                  exact hK _ w' (fun h => by cases h) (keep_same hS) rfl
                · intro a w' hS hO hF' hP K hK
                  have ha := hO 7 (by rfl)
                  refine if_ok (by rfl) ?_
                  refine wp_load_row 24 (.tmp 7) rfl g7 (ev ha) _ _ (0, 0) _ hS.2.2.2.2.1 Tryd.underlying24 rfl (by kernel_rfl) ?_
                  exact hK _ w' (fun h => by cases h) (keep_same hS) rfl
                · intro a w' hS hO hF' hP K hK
                  obtain ⟨_, f0, rfl⟩ := (hF' 1 rfl).1 33 _ rfl rfl
                  obtain ⟨_, f1, rfl⟩ := (hF' 2 rfl).1 34 _ rfl rfl
                  refine if_ok (by rfl) ?_
                  refine wp_calls rfl (enters_of Tryd.func10 (by kernel_rfl) rfl) (args := #[(.agg #[.slice A6 n6 c6, .bool (condV (⟨ofL ⟨#[49]⟩, false⟩ : V) (⟨l0, s0⟩ : V) (⟨l1, s1⟩ : V)).s]), (.agg #[.slice A7 n7 c7, .bool (condV (⟨ofL ⟨#[48]⟩, false⟩ : V) (⟨l0, s0⟩ : V) (⟨l1, s1⟩ : V)).s])]) (by simp [Act.eval, f0, f1]) ?_
                  obtain ⟨O2, O3, O5, O6, O7, r0, r1, r5, r6, r7, TT, BB⟩ := id hS
                  apply Calls.mono
                  (refine same_b (p := true) _ _ _ _ _ _ _ _ _ _ _ ?_ ?_ ?_ ?_ ((cond_same (⟨l0, s0⟩ : V) (⟨l1, s1⟩ : V)).trans hE)); (repeat (first | assumption | (with_reducible (apply Nb.rd; assumption)) | (with_reducible (apply Rb.at_later; assumption)) | (with_reducible (apply Tabs.at_later; assumption)) | (with_reducible apply Rb.alloc) | (with_reducible apply Tabs.alloc) | (with_reducible apply Rb.drew) | (with_reducible apply Tabs.drew) | (show I64 _; unfold I64; omega) | omega))
                  rintro e w2 ⟨rfl, hb⟩
                  exact ⟨_, rfl, hK _ w2 (fun h => by cases h) (keep_below hb hS) rfl⟩
                · intro a w' hS hO hF' hP K hK
                  obtain ⟨_, f0, rfl⟩ := (hF' 0 rfl).1 32 _ rfl rfl
                  obtain ⟨_, f1, rfl⟩ := (hF' 3 rfl).1 35 _ rfl rfl
                  refine if_ok (by rfl) ?_
                  refine wp_val (w' := w') (q := .bool false) (by unfold execOp; simp only [(ev f0), (ev f1)]; simp [go_sem]) ?_
                  exact hK _ w' (fun h => by cases h) (keep_same hS) rfl
                · intro a w' hS hO hF' hP K hK
                  obtain ⟨_, f0, rfl⟩ := (hF' 4 rfl).1 36 _ rfl rfl
                  refine if_ok (by rfl) ?_
                  unfold Oper.wp execOp
                  simp only [Sem.run_pure, ev f0]
                  exact hK _ w' (fun h => by cases h) (keep_same hS) rfl
                · intro a w' hS hO hF' hP K hK
                  obtain ⟨_, fg, rfl⟩ := (hF' 5 rfl).1 37 _ rfl rfl
                  have ha := hO 2 (by rfl)
                  refine if_wanted (by rfl) (yield_of (by rfl) fg) ?_
                  refine wp_load_row 24 (.tmp 2) rfl w.heap.size (ev ha) _ _ (0, 0) _ hS.1 Tryd.underlying24 rfl (by kernel_rfl) ?_
                  exact hK _ w' (fun h => by cases h) (keep_same hS) rfl
                · intro a w' hS hO hF' hP K hK
                  obtain ⟨_, fg, rfl⟩ := (hF' 5 rfl).1 37 _ rfl rfl
                  have ha := hO 3 (by rfl)
                  refine if_wanted (by rfl) (yield_of (by rfl) fg) ?_
                  refine wp_load_row 24 (.tmp 3) rfl (w.heap.size + 1) (ev ha) _ _ (0, 0) _ hS.2.1 Tryd.underlying24 rfl (by kernel_rfl) ?_
                  exact hK _ w' (fun h => by cases h) (keep_same hS) rfl
                · intro a w' hS hO hF' hP K hK
                  obtain ⟨_, fg, rfl⟩ := (hF' 5 rfl).1 37 _ rfl rfl
                  obtain ⟨_, f0, rfl⟩ := (hF' 6 rfl).1 38 _ rfl rfl
                  obtain ⟨_, f1, rfl⟩ := (hF' 7 rfl).1 39 _ rfl rfl
                  refine if_wanted (by rfl) (yield_of (by rfl) fg) ?_
                  refine wp_calls rfl (enters_of Tryd.func18 (by kernel_rfl) rfl) (args := #[(.agg #[.slice A0 n0 c0, .bool s0]), (.agg #[.slice A1 n1 c1, .bool s1])]) (by simp [Act.eval, f0, f1]) ?_
                  obtain ⟨O2, O3, O5, O6, O7, r0, r1, r5, r6, r7, TT, BB⟩ := id hS
                  apply Calls.mono
                  (with_reducible apply caseNe_any_w); (repeat (first | assumption | (with_reducible (apply Nb.rd; assumption)) | (with_reducible (apply Rb.at_later; assumption)) | (with_reducible (apply Tabs.at_later; assumption)) | (with_reducible apply Rb.alloc) | (with_reducible apply Tabs.alloc) | (with_reducible apply Rb.drew) | (with_reducible apply Tabs.drew) | (show I64 _; unfold I64; omega) | omega))
                  rintro e w2 ⟨A, n, c, rfl, hc, hn, hv, hb⟩
                  exact ⟨_, rfl, hK _ w2 (fun h => by cases h) (keep_below hb hS) ⟨A, n, c, rfl, hc, hn, hv.rd⟩⟩
                · intro a w' hS hO hF' hP K hK
                  obtain ⟨_, fg, rfl⟩ := (hF' 5 rfl).1 37 _ rfl rfl
                  have ha := hO 5 (by rfl)
                  refine if_wanted (by rfl) (yield_of (by rfl) fg) ?_
                  refine wp_load_row 24 (.tmp 5) rfl w5.heap.size (ev ha) _ _ (0, 0) _ hS.2.2.1 Tryd.underlying24 rfl (by kernel_rfl) ?_
                  exact hK _ w' (fun h => by cases h) (keep_same hS) rfl
                · intro a w' hS hO hF' hP K hK
                  obtain ⟨_, fg, rfl⟩ := (hF' 5 rfl).1 37 _ rfl rfl
                  obtain ⟨_, f0, Ay0, ny0, cy0, rfl, hc0, hn0, hr0⟩ := (hF' 8 rfl).1 40 _ rfl rfl
                  obtain ⟨_, f1, rfl⟩ := (hF' 9 rfl).1 41 _ rfl rfl
                  refine if_wanted (by rfl) (yield_of (by rfl) fg) ?_
                  refine wp_calls rfl (enters_of Tryd.func10 (by kernel_rfl) rfl) (args := #[(.agg #[.slice Ay0 ny0 cy0, .bool (one1 (notI (fromI (mtB noW (⟨l0, s0⟩ : V) (⟨l1, s1⟩ : V))))).s]), (.agg #[.slice A5 n5 c5, .bool false])]) (by simp [Act.eval, f0, f1]) ?_
                  obtain ⟨O2, O3, O5, O6, O7, r0, r1, r5, r6, r7, TT, BB⟩ := id hS
                  apply Calls.mono
                  (refine same_b (p := false) _ _ _ _ _ _ _ _ _ _ _ ?_ ?_ ?_ ?_ ((by rw [ne_same, hE]; rfl))); (repeat (first | assumption | (with_reducible (apply Nb.rd; assumption)) | (with_reducible (apply Rb.at_later; assumption)) | (with_reducible (apply Tabs.at_later; assumption)) | (with_reducible apply Rb.alloc) | (with_reducible apply Tabs.alloc) | (with_reducible apply Rb.drew) | (with_reducible apply Tabs.drew) | (show I64 _; unfold I64; omega) | omega))
                  rintro e w2 ⟨rfl, hb⟩
                  exact ⟨_, rfl, hK _ w2 (fun h => by cases h) (keep_below hb hS) rfl⟩
                · intro a w' hS hO hF' hP K hK
                  obtain ⟨_, fg, rfl⟩ := (hF' 5 rfl).1 37 _ rfl rfl
                  have f0 := hO 8 (by rfl)
                  refine if_wanted (by rfl) (yield_of (by rfl) fg) ?_
                  unfold Oper.wp execOp
                  simp only [Sem.run_pure, ev f0]
                  exact hK _ w' (fun h => by cases h) (keep_same hS) rfl
                · intro a w' hS hO hF' hP K hK
                  obtain ⟨_, fg, rfl⟩ := (hF' 5 rfl).1 37 _ rfl rfl
                  obtain ⟨_, f0, rfl⟩ := (hF' 10 rfl).1 42 _ rfl rfl
                  obtain ⟨_, f1, rfl⟩ := (hF' 11 rfl).1 43 _ rfl rfl
                  refine if_wanted (by rfl) (yield_of (by rfl) fg) ?_
                  refine wp_val (w' := w') (q := .bool false) (by unfold execOp; simp only [(ev f0), (ev f1)]; simp [go_sem]) ?_
                  exact hK _ w' (fun h => by cases h) (keep_same hS) rfl
                · intro a w' hS hO hF' hP K hK
                  obtain ⟨_, f0, rfl⟩ := (hF' 5 rfl).1 37 _ rfl rfl
                  obtain ⟨_, f1, rfl⟩ := (hF' 12 rfl).1 44 _ rfl rfl
                  refine if_ok (by rfl) ?_
                  refine wp_pick_or _ _ _ rfl (ev f0) (ev f1) ?_
                  exact hK _ w' (fun h => by cases h) (keep_same hS) rfl
                · intro a w' hS hO hF' hP K hK
                  obtain ⟨_, f0, rfl⟩ := (hF' 13 rfl).1 45 _ rfl rfl
                  refine if_ok (by rfl) ?_
                  unfold Oper.wp execOp
                  simp only [Sem.run_pure, ev f0]
                  exact hK _ w' (fun h => by cases h) (keep_same hS) rfl
                · intro a w' hS hO hF' hP K hK
                  obtain ⟨_, fg, rfl⟩ := (hF' 14 rfl).1 46 _ rfl rfl
                  have f0 := hO 8 (by rfl)
                  refine if_wanted (by rfl) (yield_of (by rfl) fg) ?_
                  unfold Oper.wp execOp
                  simp only [Sem.run_pure, ev f0]
                  exact hK _ w' (fun h => by cases h) (keep_same hS) rfl
                · intro a w' hS hO hF' hP K hK
                  obtain ⟨_, fg, rfl⟩ := (hF' 14 rfl).1 46 _ rfl rfl
                  obtain ⟨_, f0, rfl⟩ := (hF' 15 rfl).1 47 _ rfl rfl
                  refine if_wanted (by rfl) (yield_of (by rfl) fg) ?_
                  unfold Oper.wp execOp
                  simp only [Sem.run_pure, ev f0]
                  exact hK _ w' (fun h => by cases h) (keep_same hS) rfl
                · intro a w' hS hO hF' hP K hK
                  obtain ⟨_, fg, rfl⟩ := (hF' 16 rfl).1 48 _ rfl rfl
                  have ha := hO 2 (by rfl)
                  refine if_wanted (by rfl) (yield_of (by rfl) fg) ?_
                  refine wp_load_row 24 (.tmp 2) rfl w.heap.size (ev ha) _ _ (0, 0) _ hS.1 Tryd.underlying24 rfl (by kernel_rfl) ?_
                  exact hK _ w' (fun h => by cases h) (keep_same hS) rfl
                · intro a w' hS hO hF' hP K hK
                  obtain ⟨_, fg, rfl⟩ := (hF' 16 rfl).1 48 _ rfl rfl
                  have ha := hO 3 (by rfl)
                  refine if_wanted (by rfl) (yield_of (by rfl) fg) ?_
                  refine wp_load_row 24 (.tmp 3) rfl (w.heap.size + 1) (ev ha) _ _ (0, 0) _ hS.2.1 Tryd.underlying24 rfl (by kernel_rfl) ?_
                  exact hK _ w' (fun h => by cases h) (keep_same hS) rfl
                · intro a w' hS hO hF' hP K hK
                  obtain ⟨_, fg, rfl⟩ := (hF' 16 rfl).1 48 _ rfl rfl
                  obtain ⟨_, f0, rfl⟩ := (hF' 17 rfl).1 49 _ rfl rfl
                  obtain ⟨_, f1, rfl⟩ := (hF' 18 rfl).1 50 _ rfl rfl
                  refine if_wanted (by rfl) (yield_of (by rfl) fg) ?_
                  refine wp_calls rfl (enters_of Tryd.func19 (by kernel_rfl) rfl) (args := #[(.agg #[.slice A0 n0 c0, .bool s0]), (.agg #[.slice A1 n1 c1, .bool s1])]) (by simp [Act.eval, f0, f1]) ?_
                  obtain ⟨O2, O3, O5, O6, O7, r0, r1, r5, r6, r7, TT, BB⟩ := id hS
                  apply Calls.mono
                  (with_reducible apply matchZ_b (p := true)); (repeat (first | assumption | (with_reducible (apply Nb.rd; assumption)) | (with_reducible (apply Rb.at_later; assumption)) | (with_reducible (apply Tabs.at_later; assumption)) | (with_reducible apply Rb.alloc) | (with_reducible apply Tabs.alloc) | (with_reducible apply Rb.drew) | (with_reducible apply Tabs.drew) | (show I64 _; unfold I64; omega) | omega)); (try exact hZ)
                  rintro e w2 ⟨rfl, hb⟩
                  exact ⟨_, rfl, hK _ w2 (fun h => by cases h) (keep_below hb hS) rfl⟩
                · intro a w' hS hO hF' hP K hK
                  obtain ⟨_, fg, rfl⟩ := (hF' 16 rfl).1 48 _ rfl rfl
                  obtain ⟨_, f0, rfl⟩ := (hF' 19 rfl).1 51 _ rfl rfl
                  refine if_wanted (by rfl) (yield_of (by rfl) fg) ?_
                  refine wp_not _ rfl (ev f0) ?_
                  exact hK _ w' (fun h => by cases h) (keep_same hS) rfl
                · intro a w' hS hO hF' hP K hK
                  obtain ⟨_, fg, rfl⟩ := (hF' 14 rfl).1 46 _ rfl rfl
                  obtain ⟨_, f0, rfl⟩ := (hF' 16 rfl).1 48 _ rfl rfl
                  obtain ⟨_, f1, rfl⟩ := (hF' 20 rfl).1 52 _ rfl rfl
                  refine if_wanted (by rfl) (yield_of (by rfl) fg) ?_
                  refine wp_pick_and _ _ _ rfl (ev f0) (ev f1) ?_
                  exact hK _ w' (fun h => by cases h) (keep_same hS) rfl
                · intro a w' hS hO hF' hP K hK
                  obtain ⟨_, f0, rfl⟩ := (hF' 14 rfl).1 46 _ rfl rfl
                  obtain ⟨_, f1, rfl⟩ := (hF' 21 rfl).1 53 _ rfl rfl
                  refine if_ok (by rfl) ?_
                  refine wp_pick_or _ _ _ rfl (ev f0) (ev f1) ?_
                  exact hK _ w' (fun h => by cases h) (keep_same hS) rfl
                · intro a w' hS hO hF' hP K hK
                  obtain ⟨_, f0, rfl⟩ := (hF' 22 rfl).1 54 _ rfl rfl
                  refine if_ok (by rfl) ?_
                  unfold Oper.wp execOp
                  simp only [Sem.run_pure, ev f0]
                  exact hK _ w' (fun h => by cases h) (keep_same hS) rfl
                · intro a w' hS hO hF' hP K hK
                  obtain ⟨_, fg, rfl⟩ := (hF' 23 rfl).1 55 _ rfl rfl
                  have ha := hO 2 (by rfl)
                  refine if_wanted (by rfl) (yield_of (by rfl) fg) ?_
                  refine wp_load_row 24 (.tmp 2) rfl w.heap.size (ev ha) _ _ (0, 0) _ hS.1 Tryd.underlying24 rfl (by kernel_rfl) ?_
                  exact hK _ w' (fun h => by cases h) (keep_same hS) rfl
                · intro a w' hS hO hF' hP K hK
                  obtain ⟨_, fg, rfl⟩ := (hF' 23 rfl).1 55 _ rfl rfl
                  have ha := hO 3 (by rfl)
                  refine if_wanted (by rfl) (yield_of (by rfl) fg) ?_
                  refine wp_load_row 24 (.tmp 3) rfl (w.heap.size + 1) (ev ha) _ _ (0, 0) _ hS.2.1 Tryd.underlying24 rfl (by kernel_rfl) ?_
                  exact hK _ w' (fun h => by cases h) (keep_same hS) rfl
                · intro a w' hS hO hF' hP K hK
                  obtain ⟨_, fg, rfl⟩ := (hF' 23 rfl).1 55 _ rfl rfl
                  obtain ⟨_, f0, rfl⟩ := (hF' 24 rfl).1 56 _ rfl rfl
                  obtain ⟨_, f1, rfl⟩ := (hF' 25 rfl).1 57 _ rfl rfl
                  refine if_wanted (by rfl) (yield_of (by rfl) fg) ?_
                  refine wp_calls rfl (enters_of Tryd.func19 (by kernel_rfl) rfl) (args := #[(.agg #[.slice A0 n0 c0, .bool s0]), (.agg #[.slice A1 n1 c1, .bool s1])]) (by simp [Act.eval, f0, f1]) ?_
                  obtain ⟨O2, O3, O5, O6, O7, r0, r1, r5, r6, r7, TT, BB⟩ := id hS
                  apply Calls.mono
                  (with_reducible apply matchZ_b (p := true)); (repeat (first | assumption | (with_reducible (apply Nb.rd; assumption)) | (with_reducible (apply Rb.at_later; assumption)) | (with_reducible (apply Tabs.at_later; assumption)) | (with_reducible apply Rb.alloc) | (with_reducible apply Tabs.alloc) | (with_reducible apply Rb.drew) | (with_reducible apply Tabs.drew) | (show I64 _; unfold I64; omega) | omega)); (try exact hZ)
                  rintro e w2 ⟨rfl, hb⟩
                  exact ⟨_, rfl, hK _ w2 (fun h => by cases h) (keep_below hb hS) rfl⟩
                · intro a w' hS hO hF' hP K hK
                  obtain ⟨_, fg, rfl⟩ := (hF' 23 rfl).1 55 _ rfl rfl
                  obtain ⟨_, f0, rfl⟩ := (hF' 26 rfl).1 58 _ rfl rfl
                  refine if_wanted (by rfl) (yield_of (by rfl) fg) ?_
                  unfold Oper.wp execOp
                  simp only [Sem.run_pure, ev f0]
                  exact hK _ w' (fun h => by cases h) (keep_same hS) rfl
                · intro a w' hS hO hF' hP K hK
                  obtain ⟨_, fg, rfl⟩ := (hF' 27 rfl).1 59 _ rfl rfl
                  have ha := hO 2 (by rfl)
                  refine if_wanted (by rfl) (yield_of (by rfl) fg) ?_
                  refine wp_load_row 24 (.tmp 2) rfl w.heap.size (ev ha) _ _ (0, 0) _ hS.1 Tryd.underlying24 rfl (by kernel_rfl) ?_
                  exact hK _ w' (fun h => by cases h) (keep_same hS) rfl
                · intro a w' hS hO hF' hP K hK
                  obtain ⟨_, fg, rfl⟩ := (hF' 27 rfl).1 59 _ rfl rfl
                  have ha := hO 3 (by rfl)
                  refine if_wanted (by rfl) (yield_of (by rfl) fg) ?_
                  refine wp_load_row 24 (.tmp 3) rfl (w.heap.size + 1) (ev ha) _ _ (0, 0) _ hS.2.1 Tryd.underlying24 rfl (by kernel_rfl) ?_
                  exact hK _ w' (fun h => by cases h) (keep_same hS) rfl
                · intro a w' hS hO hF' hP K hK
                  obtain ⟨_, fg, rfl⟩ := (hF' 27 rfl).1 59 _ rfl rfl
                  obtain ⟨_, f0, rfl⟩ := (hF' 28 rfl).1 60 _ rfl rfl
                  obtain ⟨_, f1, rfl⟩ := (hF' 29 rfl).1 61 _ rfl rfl
                  refine if_wanted (by rfl) (yield_of (by rfl) fg) ?_
                  refine wp_calls rfl (enters_of Tryd.func20 (by kernel_rfl) rfl) (args := #[(.agg #[.slice A0 n0 c0, .bool s0]), (.agg #[.slice A1 n1 c1, .bool s1])]) (by simp [Act.eval, f0, f1]) ?_
                  obtain ⟨O2, O3, O5, O6, O7, r0, r1, r5, r6, r7, TT, BB⟩ := id hS
                  apply Calls.mono
                  (with_reducible apply matchX_b (p := true)); (repeat (first | assumption | (with_reducible (apply Nb.rd; assumption)) | (with_reducible (apply Rb.at_later; assumption)) | (with_reducible (apply Tabs.at_later; assumption)) | (with_reducible apply Rb.alloc) | (with_reducible apply Tabs.alloc) | (with_reducible apply Rb.drew) | (with_reducible apply Tabs.drew) | (show I64 _; unfold I64; omega) | omega)); (try exact hX)
                  rintro e w2 ⟨rfl, hb⟩
                  exact ⟨_, rfl, hK _ w2 (fun h => by cases h) (keep_below hb hS) rfl⟩
                · intro a w' hS hO hF' hP K hK
                  obtain ⟨_, fg, rfl⟩ := (hF' 27 rfl).1 59 _ rfl rfl
                  obtain ⟨_, f0, rfl⟩ := (hF' 30 rfl).1 62 _ rfl rfl
                  refine if_wanted (by rfl) (yield_of (by rfl) fg) ?_
                  refine wp_not _ rfl (ev f0) ?_
                  exact hK _ w' (fun h => by cases h) (keep_same hS) rfl
                · intro a w' hS hO hF' hP K hK
                  obtain ⟨_, fg, rfl⟩ := (hF' 23 rfl).1 55 _ rfl rfl
                  obtain ⟨_, f0, rfl⟩ := (hF' 27 rfl).1 59 _ rfl rfl
                  obtain ⟨_, f1, rfl⟩ := (hF' 31 rfl).1 63 _ rfl rfl
                  refine if_wanted (by rfl) (yield_of (by rfl) fg) ?_
                  refine wp_pick_and _ _ _ rfl (ev f0) (ev f1) ?_
                  exact hK _ w' (fun h => by cases h) (keep_same hS) rfl
                · intro a w' hS hO hF' hP K hK
                  obtain ⟨_, f0, rfl⟩ := (hF' 23 rfl).1 55 _ rfl rfl
                  obtain ⟨_, f1, rfl⟩ := (hF' 32 rfl).1 64 _ rfl rfl
                  refine if_ok (by rfl) ?_
                  refine wp_pick_or _ _ _ rfl (ev f0) (ev f1) ?_
                  exact hK _ w' (fun h => by cases h) (keep_same hS) rfl
              · intro vs u hl hS hV
                match vs, hl, hV with
                | v0 :: v1 :: v2 :: v3 :: v4 :: v5 :: v6 :: v7 :: v8 :: v9 :: v10 :: v11 :: v12 :: v13 :: v14 :: v15 :: v16 :: v17 :: v18 :: v19 :: v20 :: v21 :: v22 :: v23 :: v24 :: v25 :: v26 :: v27 :: v28 :: v29 :: v30 :: v31 :: v32 :: v33 :: [], _, hV =>
                  obtain rfl := hV 0 _ rfl
                  obtain rfl := hV 1 _ rfl
                  obtain rfl := hV 2 _ rfl
                  obtain rfl := hV 3 _ rfl
                  obtain rfl := hV 4 _ rfl
                  obtain rfl := hV 5 _ rfl
                  obtain rfl := hV 6 _ rfl
                  obtain rfl := hV 7 _ rfl
                  obtain rfl := hV 9 _ rfl
                  obtain rfl := hV 10 _ rfl
                  obtain rfl := hV 11 _ rfl
                  obtain rfl := hV 12 _ rfl
                  obtain rfl := hV 13 _ rfl
                  obtain rfl := hV 14 _ rfl
                  obtain rfl := hV 15 _ rfl
                  obtain rfl := hV 16 _ rfl
                  obtain rfl := hV 17 _ rfl
                  obtain rfl := hV 18 _ rfl
                  obtain rfl := hV 19 _ rfl
                  obtain rfl := hV 20 _ rfl
                  obtain rfl := hV 21 _ rfl
                  obtain rfl := hV 22 _ rfl
                  obtain rfl := hV 23 _ rfl
                  obtain rfl := hV 24 _ rfl
                  obtain rfl := hV 25 _ rfl
                  obtain rfl := hV 26 _ rfl
                  obtain rfl := hV 27 _ rfl
                  obtain rfl := hV 28 _ rfl
                  obtain rfl := hV 29 _ rfl
                  obtain rfl := hV 30 _ rfl
                  obtain rfl := hV 31 _ rfl
                  obtain rfl := hV 32 _ rfl
                  obtain rfl := hV 33 _ rfl
                  simp only [puts, Act.put, List.setIfInBounds_toArray, List.set_cons_zero, List.set_cons_succ]
                  obtain ⟨O2, O3, O5, O6, O7, r0, r1, r5, r6, r7, TT, BB⟩ := hS
                  clear hV
                  replace O2 : Own u w.heap.size 24 #[.slice A0 n0 c0, .bool s0] := O2
                  replace O3 : Own u (w.heap.size + 1) 24 #[.slice A1 n1 c1, .bool s1] := O3
                  replace O5 : Own u w5.heap.size 24 #[.slice A5 n5 c5, .bool false] := O5
                  replace O6 : Own u g6 24 #[.slice A6 n6 c6, .bool (condV (⟨ofL ⟨#[49]⟩, false⟩ : V) (⟨l0, s0⟩ : V) (⟨l1, s1⟩ : V)).s] := O6
                  replace O7 : Own u g7 24 #[.slice A7 n7 c7, .bool (condV (⟨ofL ⟨#[48]⟩, false⟩ : V) (⟨l0, s0⟩ : V) (⟨l1, s1⟩ : V)).s] := O7
                  replace r0 : Rb u A0 n0 l0 := r0
                  replace r1 : Rb u A1 n1 l1 := r1
                  replace r5 : Rb u A5 n5 (ofL ⟨#[49]⟩) := r5
                  replace r6 : Rb u A6 n6 (condV (⟨ofL ⟨#[49]⟩, false⟩ : V) (⟨l0, s0⟩ : V) (⟨l1, s1⟩ : V)).l := r6
                  replace r7 : Rb u A7 n7 (condV (⟨ofL ⟨#[48]⟩, false⟩ : V) (⟨l0, s0⟩ : V) (⟨l1, s1⟩ : V)).l := r7
                  replace TT : Tabs u := TT
                  replace BB : Below w.heap.size w u := BB
                  replace BB := Lib.hid BB
                  have q20 := O2.cell 0
                  have q21 := O2.cell 1
                  have q30 := O3.cell 0
                  have q31 := O3.cell 1
                  cases hkA : kn (⟨l0, s0⟩ : V)
                  · have KA := Lib.hid (fun (u : World) (h : Rb u A0 n0 l0) => known_b (p := false) A0 n0 c0 s0 l0 u h hkA)
                    go_wp2_with (go_at_call 21; first | ((with_reducible refine (KA.out _ r0).mono ?_); rintro e wn ⟨rfl, hb⟩; have kb := hb; (try replace O2 := O2.step kb); (try replace O3 := O3.step kb); (try replace O5 := O5.step kb); (try replace O6 := O6.step kb); (try replace O7 := O7.step kb); (try replace r0 := r0.step kb); (try replace r1 := r1.step kb); (try replace r5 := r5.step kb); (try replace r6 := r6.step kb); (try replace r7 := r7.step kb); (try replace TT := TT.step kb); replace BB := Lib.hid (below_step BB.out kb); (try clear q20 q21); (try (have q20 := O2.cell 0; have q21 := O2.cell 1)); (try clear q30 q31); (try (have q30 := O3.cell 0; have q31 := O3.cell 1))) | ((with_reducible refine (KB.out _ r1).mono ?_); rintro e wn ⟨rfl, hb⟩; have kb := hb; (try replace O2 := O2.step kb); (try replace O3 := O3.step kb); (try replace O5 := O5.step kb); (try replace O6 := O6.step kb); (try replace O7 := O7.step kb); (try replace r0 := r0.step kb); (try replace r1 := r1.step kb); (try replace r5 := r5.step kb); (try replace r6 := r6.step kb); (try replace r7 := r7.step kb); (try replace TT := TT.step kb); replace BB := Lib.hid (below_step BB.out kb); (try clear q20 q21); (try (have q20 := O2.cell 0; have q21 := O2.cell 1)); (try clear q30 q31); (try (have q30 := O3.cell 0; have q31 := O3.cell 1))))
                    go_ret
                    exact ⟨rfl, BB.out⟩
                  · have KA := Lib.hid (fun (u : World) (h : Rb u A0 n0 l0) => known_b (p := true) A0 n0 c0 s0 l0 u h hkA)
                    cases hkB : kn (⟨l1, s1⟩ : V)
                    · have KB := Lib.hid (fun (u : World) (h : Rb u A1 n1 l1) => known_b (p := false) A1 n1 c1 s1 l1 u h hkB)
                      go_wp2_with (go_at_call 21; first | ((with_reducible refine (KA.out _ r0).mono ?_); rintro e wn ⟨rfl, hb⟩; have kb := hb; (try replace O2 := O2.step kb); (try replace O3 := O3.step kb); (try replace O5 := O5.step kb); (try replace O6 := O6.step kb); (try replace O7 := O7.step kb); (try replace r0 := r0.step kb); (try replace r1 := r1.step kb); (try replace r5 := r5.step kb); (try replace r6 := r6.step kb); (try replace r7 := r7.step kb); (try replace TT := TT.step kb); replace BB := Lib.hid (below_step BB.out kb); (try clear q20 q21); (try (have q20 := O2.cell 0; have q21 := O2.cell 1)); (try clear q30 q31); (try (have q30 := O3.cell 0; have q31 := O3.cell 1))) | ((with_reducible refine (KB.out _ r1).mono ?_); rintro e wn ⟨rfl, hb⟩; have kb := hb; (try replace O2 := O2.step kb); (try replace O3 := O3.step kb); (try replace O5 := O5.step kb); (try replace O6 := O6.step kb); (try replace O7 := O7.step kb); (try replace r0 := r0.step kb); (try replace r1 := r1.step kb); (try replace r5 := r5.step kb); (try replace r6 := r6.step kb); (try replace r7 := r7.step kb); (try replace TT := TT.step kb); replace BB := Lib.hid (below_step BB.out kb); (try clear q20 q21); (try (have q20 := O2.cell 0; have q21 := O2.cell 1)); (try clear q30 q31); (try (have q30 := O3.cell 0; have q31 := O3.cell 1))))
                      go_ret
                      exact ⟨rfl, BB.out⟩
                    · have KB := Lib.hid (fun (u : World) (h : Rb u A1 n1 l1) => known_b (p := true) A1 n1 c1 s1 l1 u h hkB)
                      replace hkA := Lib.hid hkA
                      replace hkB := Lib.hid hkB
                      go_wp2_with (go_at_call 21; first | ((with_reducible refine (KA.out _ r0).mono ?_); rintro e wn ⟨rfl, hb⟩; have kb := hb; (try replace O2 := O2.step kb); (try replace O3 := O3.step kb); (try replace O5 := O5.step kb); (try replace O6 := O6.step kb); (try replace O7 := O7.step kb); (try replace r0 := r0.step kb); (try replace r1 := r1.step kb); (try replace r5 := r5.step kb); (try replace r6 := r6.step kb); (try replace r7 := r7.step kb); (try replace TT := TT.step kb); replace BB := Lib.hid (below_step BB.out kb); (try clear q20 q21); (try (have q20 := O2.cell 0; have q21 := O2.cell 1)); (try clear q30 q31); (try (have q30 := O3.cell 0; have q31 := O3.cell 1))) | ((with_reducible refine (KB.out _ r1).mono ?_); rintro e wn ⟨rfl, hb⟩; have kb := hb; (try replace O2 := O2.step kb); (try replace O3 := O3.step kb); (try replace O5 := O5.step kb); (try replace O6 := O6.step kb); (try replace O7 := O7.step kb); (try replace r0 := r0.step kb); (try replace r1 := r1.step kb); (try replace r5 := r5.step kb); (try replace r6 := r6.step kb); (try replace r7 := r7.step kb); (try replace TT := TT.step kb); replace BB := Lib.hid (below_step BB.out kb); (try clear q20 q21); (try (have q20 := O2.cell 0; have q21 := O2.cell 1)); (try clear q30 q31); (try (have q30 := O3.cell 0; have q31 := O3.cell 1))))
                      refine region_z (by kernel_rfl) (fun u => owns w.heap.size #[.slice A0 n0 c0, .bool s0] u ∧ (owns (w.heap.size + 1) #[.slice A1 n1 c1, .bool s1] u ∧ (owns w5.heap.size #[.slice A5 n5 c5, .bool false] u ∧ (owns g6 #[.slice A6 n6 c6, .bool (condV (⟨ofL ⟨#[49]⟩, false⟩ : V) (⟨l0, s0⟩ : V) (⟨l1, s1⟩ : V)).s] u ∧ (owns g7 #[.slice A7 n7 c7, .bool (condV (⟨ofL ⟨#[48]⟩, false⟩ : V) (⟨l0, s0⟩ : V) (⟨l1, s1⟩ : V)).s] u ∧ (rds A0 n0 l0 u ∧ (rds A1 n1 l1 u ∧ (rds A5 n5 (ofL ⟨#[49]⟩) u ∧ (rds A6 n6 (condV (⟨ofL ⟨#[49]⟩, false⟩ : V) (⟨l0, s0⟩ : V) (⟨l1, s1⟩ : V)).l u ∧ (rds A7 n7 (condV (⟨ofL ⟨#[48]⟩, false⟩ : V) (⟨l0, s0⟩ : V) (⟨l1, s1⟩ : V)).l u ∧ (tbs u ∧ blw w u))))))))))) [] (cstVs A0 A1 A5 A6 A7 n0 c0 n1 c1 n5 c5 n6 c6 n7 c7 s0 s1 l0 l1) cstDs cstDp (by kernel_rfl) (by kernel_rfl) rfl (by kernel_rfl) (by kernel_rfl) (by kernel_rfl) ⟨O2.drew, O3.drew, O5.drew, O6.drew, O7.drew, r0.drew, r1.drew, r5.drew, r6.drew, r7.drew, TT.drew, below_drew BB.out⟩ (fun _ h => by cases h) ?_ ?_
                      · refine ⟨?_, ?_, ?_, ?_, ?_, ?_, ?_, ?_, ?_, ?_, ?_, ?_, ?_, ?_, ?_, ?_, ?_, ?_, ?_, ?_, ?_, trivial⟩
                        · intro a w' hS hO hF' hP K hK
                          have ha := hO 2 (by rfl)
                          refine if_ok (by rfl) ?_
                          refine wp_load_row 24 (.tmp 2) rfl w.heap.size (ev ha) _ _ (0, 0) _ hS.1 Tryd.underlying24 rfl (by kernel_rfl) ?_
                          exact hK _ w' (fun h => by cases h) (keep_same hS) rfl
                        · intro a w' hS hO hF' hP K hK
                          have ha := hO 3 (by rfl)
                          refine if_ok (by rfl) ?_
                          refine wp_load_row 24 (.tmp 3) rfl (w.heap.size + 1) (ev ha) _ _ (0, 0) _ hS.2.1 Tryd.underlying24 rfl (by kernel_rfl) ?_
                          exact hK _ w' (fun h => by cases h) (keep_same hS) rfl
                        · intro a w' hS hO hF' hP K hK
                          obtain ⟨_, f0, rfl⟩ := (hF' 0 rfl).1 74 _ rfl rfl
                          obtain ⟨_, f1, rfl⟩ := (hF' 1 rfl).1 75 _ rfl rfl
                          refine if_ok (by rfl) ?_
                          refine wp_calls rfl (enters_of Tryd.func20 (by kernel_rfl) rfl) (args := #[(.agg #[.slice A0 n0 c0, .bool s0]), (.agg #[.slice A1 n1 c1, .bool s1])]) (by simp [Act.eval, f0, f1]) ?_
                          obtain ⟨O2, O3, O5, O6, O7, r0, r1, r5, r6, r7, TT, BB⟩ := id hS
                          apply Calls.mono
                          (with_reducible apply matchX_b (p := true)); (repeat (first | assumption | (with_reducible (apply Nb.rd; assumption)) | (with_reducible (apply Rb.at_later; assumption)) | (with_reducible (apply Tabs.at_later; assumption)) | (with_reducible apply Rb.alloc) | (with_reducible apply Tabs.alloc) | (with_reducible apply Rb.drew) | (with_reducible apply Tabs.drew) | (show I64 _; unfold I64; omega) | omega)); (try exact hX)
                          rintro e w2 ⟨rfl, hb⟩
                          exact ⟨_, rfl, hK _ w2 (fun h => by cases h) (keep_below hb hS) rfl⟩
                        · intro a w' hS hO hF' hP K hK
                          have f0 := hO 8 (by rfl)
                          refine if_ok (by rfl) ?_
                          unfold Oper.wp execOp
                          simp only [Sem.run_pure, ev f0]
                          exact hK _ w' (fun h => by cases h) (keep_same hS) rfl
                        · intro a w' hS hO hF' hP K hK
                          obtain ⟨_, f0, rfl⟩ := (hF' 2 rfl).1 76 _ rfl rfl
                          obtain ⟨_, f1, rfl⟩ := (hF' 3 rfl).1 77 _ rfl rfl
                          refine if_ok (by rfl) ?_
                          refine wp_val (w' := w') (q := .bool true) (by unfold execOp; simp only [(ev f0), (ev f1)]; simp [go_sem]) ?_
                          exact hK _ w' (fun h => by cases h) (keep_same hS) rfl
                        · intro a w' hS hO hF' hP K hK
                          obtain ⟨_, f0, rfl⟩ := (hF' 4 rfl).1 78 _ rfl rfl
                          refine if_ok (by rfl) ?_
                          unfold Oper.wp execOp
                          simp only [Sem.run_pure, ev f0]
                          exact hK _ w' (fun h => by cases h) (keep_same hS) rfl
                        · intro a w' hS hO hF' hP K hK
                          obtain ⟨_, fg, rfl⟩ := (hF' 5 rfl).1 79 _ rfl rfl
                          have ha := hO 2 (by rfl)
                          refine if_wanted (by rfl) (yield_of (by rfl) fg) ?_
                          refine wp_load_row 24 (.tmp 2) rfl w.heap.size (ev ha) _ _ (0, 0) _ hS.1 Tryd.underlying24 rfl (by kernel_rfl) ?_
                          exact hK _ w' (fun h => by cases h) (keep_same hS) rfl
                        · intro a w' hS hO hF' hP K hK
                          obtain ⟨_, fg, rfl⟩ := (hF' 5 rfl).1 79 _ rfl rfl
                          have ha := hO 3 (by rfl)
                          refine if_wanted (by rfl) (yield_of (by rfl) fg) ?_
                          refine wp_load_row 24 (.tmp 3) rfl (w.heap.size + 1) (ev ha) _ _ (0, 0) _ hS.2.1 Tryd.underlying24 rfl (by kernel_rfl) ?_
                          exact hK _ w' (fun h => by cases h) (keep_same hS) rfl
                        · intro a w' hS hO hF' hP K hK
                          obtain ⟨_, fg, rfl⟩ := (hF' 5 rfl).1 79 _ rfl rfl
                          obtain ⟨_, f0, rfl⟩ := (hF' 6 rfl).1 80 _ rfl rfl
                          obtain ⟨_, f1, rfl⟩ := (hF' 7 rfl).1 81 _ rfl rfl
                          refine if_wanted (by rfl) (yield_of (by rfl) fg) ?_
                          refine wp_calls rfl (enters_of Tryd.func22 (by kernel_rfl) rfl) (args := #[(.agg #[.slice A0 n0 c0, .bool s0]), (.agg #[.slice A1 n1 c1, .bool s1])]) (by simp [Act.eval, f0, f1]) ?_
                          obtain ⟨O2, O3, O5, O6, O7, r0, r1, r5, r6, r7, TT, BB⟩ := id hS
                          apply Calls.mono
                          (with_reducible apply eq_v_w); (repeat (first | assumption | (with_reducible (apply Nb.rd; assumption)) | (with_reducible (apply Rb.at_later; assumption)) | (with_reducible (apply Tabs.at_later; assumption)) | (with_reducible apply Rb.alloc) | (with_reducible apply Tabs.alloc) | (with_reducible apply Rb.drew) | (with_reducible apply Tabs.drew) | (show I64 _; unfold I64; omega) | omega))
                          rintro e w2 ⟨A, n, c, rfl, hc, hn, hv, hb⟩
                          exact ⟨_, rfl, hK _ w2 (fun h => by cases h) (keep_below hb hS) ⟨A, n, c, rfl, hc, hn, hv.rd⟩⟩
                        · intro a w' hS hO hF' hP K hK
                          obtain ⟨_, fg, rfl⟩ := (hF' 5 rfl).1 79 _ rfl rfl
                          have ha := hO 5 (by rfl)
                          refine if_wanted (by rfl) (yield_of (by rfl) fg) ?_
                          refine wp_load_row 24 (.tmp 5) rfl w5.heap.size (ev ha) _ _ (0, 0) _ hS.2.2.1 Tryd.underlying24 rfl (by kernel_rfl) ?_
                          exact hK _ w' (fun h => by cases h) (keep_same hS) rfl
                        · intro a w' hS hO hF' hP K hK
                          obtain ⟨_, fg, rfl⟩ := (hF' 5 rfl).1 79 _ rfl rfl
                          obtain ⟨_, f0, Ay0, ny0, cy0, rfl, hc0, hn0, hr0⟩ := (hF' 8 rfl).1 82 _ rfl rfl
                          obtain ⟨_, f1, rfl⟩ := (hF' 9 rfl).1 83 _ rfl rfl
                          refine if_wanted (by rfl) (yield_of (by rfl) fg) ?_
                          refine wp_calls rfl (enters_of Tryd.func10 (by kernel_rfl) rfl) (args := #[(.agg #[.slice Ay0 ny0 cy0, .bool (one1 (eqV (⟨l0, s0⟩ : V) (⟨l1, s1⟩ : V))).s]), (.agg #[.slice A5 n5 c5, .bool false])]) (by simp [Act.eval, f0, f1]) ?_
                          obtain ⟨O2, O3, O5, O6, O7, r0, r1, r5, r6, r7, TT, BB⟩ := id hS
                          apply Calls.mono
                          (refine same_b (p := true) _ _ _ _ _ _ _ _ _ _ _ ?_ ?_ ?_ ?_ ((eq_same hkA.out hkB.out).trans hE)); (repeat (first | assumption | (with_reducible (apply Nb.rd; assumption)) | (with_reducible (apply Rb.at_later; assumption)) | (with_reducible (apply Tabs.at_later; assumption)) | (with_reducible apply Rb.alloc) | (with_reducible apply Tabs.alloc) | (with_reducible apply Rb.drew) | (with_reducible apply Tabs.drew) | (show I64 _; unfold I64; omega) | omega))
                          rintro e w2 ⟨rfl, hb⟩
                          exact ⟨_, rfl, hK _ w2 (fun h => by cases h) (keep_below hb hS) rfl⟩
                        · intro a w' hS hO hF' hP K hK
                          obtain ⟨_, fg, rfl⟩ := (hF' 5 rfl).1 79 _ rfl rfl
                          have f0 := hO 8 (by rfl)
                          refine if_wanted (by rfl) (yield_of (by rfl) fg) ?_
                          unfold Oper.wp execOp
                          simp only [Sem.run_pure, ev f0]
                          exact hK _ w' (fun h => by cases h) (keep_same hS) rfl
                        · intro a w' hS hO hF' hP K hK
                          obtain ⟨_, fg, rfl⟩ := (hF' 5 rfl).1 79 _ rfl rfl
                          obtain ⟨_, f0, rfl⟩ := (hF' 10 rfl).1 84 _ rfl rfl
                          obtain ⟨_, f1, rfl⟩ := (hF' 11 rfl).1 85 _ rfl rfl
                          refine if_wanted (by rfl) (yield_of (by rfl) fg) ?_
                          refine wp_val (w' := w') (q := .bool true) (by unfold execOp; simp only [(ev f0), (ev f1)]; simp [go_sem]) ?_
                          exact hK _ w' (fun h => by cases h) (keep_same hS) rfl
                        · intro a w' hS hO hF' hP K hK
                          obtain ⟨_, f0, rfl⟩ := (hF' 5 rfl).1 79 _ rfl rfl
                          obtain ⟨_, f1, rfl⟩ := (hF' 12 rfl).1 86 _ rfl rfl
                          refine if_ok (by rfl) ?_
                          refine wp_pick_and _ _ _ rfl (ev f0) (ev f1) ?_
                          exact hK _ w' (fun h => by cases h) (keep_same hS) rfl
                        · intro a w' hS hO hF' hP K hK
                          obtain ⟨_, f0, rfl⟩ := (hF' 13 rfl).1 87 _ rfl rfl
                          refine if_ok (by rfl) ?_
                          unfold Oper.wp execOp
                          simp only [Sem.run_pure, ev f0]
                          exact hK _ w' (fun h => by cases h) (keep_same hS) rfl
                        · intro a w' hS hO hF' hP K hK
                          obtain ⟨_, fg, rfl⟩ := (hF' 14 rfl).1 88 _ rfl rfl
                          have ha := hO 2 (by rfl)
                          refine if_wanted (by rfl) (yield_of (by rfl) fg) ?_
                          refine wp_load_row 24 (.tmp 2) rfl w.heap.size (ev ha) _ _ (0, 0) _ hS.1 Tryd.underlying24 rfl (by kernel_rfl) ?_
                          exact hK _ w' (fun h => by cases h) (keep_same hS) rfl
                        · intro a w' hS hO hF' hP K hK
                          obtain ⟨_, fg, rfl⟩ := (hF' 14 rfl).1 88 _ rfl rfl
                          have ha := hO 3 (by rfl)
                          refine if_wanted (by rfl) (yield_of (by rfl) fg) ?_
                          refine wp_load_row 24 (.tmp 3) rfl (w.heap.size + 1) (ev ha) _ _ (0, 0) _ hS.2.1 Tryd.underlying24 rfl (by kernel_rfl) ?_
                          exact hK _ w' (fun h => by cases h) (keep_same hS) rfl
                        · intro a w' hS hO hF' hP K hK
                          obtain ⟨_, fg, rfl⟩ := (hF' 14 rfl).1 88 _ rfl rfl
                          obtain ⟨_, f0, rfl⟩ := (hF' 15 rfl).1 89 _ rfl rfl
                          obtain ⟨_, f1, rfl⟩ := (hF' 16 rfl).1 90 _ rfl rfl
                          refine if_wanted (by rfl) (yield_of (by rfl) fg) ?_
                          refine wp_calls rfl (enters_of Tryd.func22 (by kernel_rfl) rfl) (args := #[(.agg #[.slice A0 n0 c0, .bool s0]), (.agg #[.slice A1 n1 c1, .bool s1])]) (by simp [Act.eval, f0, f1]) ?_
                          obtain ⟨O2, O3, O5, O6, O7, r0, r1, r5, r6, r7, TT, BB⟩ := id hS
                          apply Calls.mono
                          (with_reducible apply eq_v_w); (repeat (first | assumption | (with_reducible (apply Nb.rd; assumption)) | (with_reducible (apply Rb.at_later; assumption)) | (with_reducible (apply Tabs.at_later; assumption)) | (with_reducible apply Rb.alloc) | (with_reducible apply Tabs.alloc) | (with_reducible apply Rb.drew) | (with_reducible apply Tabs.drew) | (show I64 _; unfold I64; omega) | omega))
                          rintro e w2 ⟨A, n, c, rfl, hc, hn, hv, hb⟩
                          exact ⟨_, rfl, hK _ w2 (fun h => by cases h) (keep_below hb hS) ⟨A, n, c, rfl, hc, hn, hv.rd⟩⟩
                        · intro a w' hS hO hF' hP K hK
                          obtain ⟨_, fg, rfl⟩ := (hF' 14 rfl).1 88 _ rfl rfl
                          obtain ⟨_, f0, Ay0, ny0, cy0, rfl, hc0, hn0, hr0⟩ := (hF' 17 rfl).1 91 _ rfl rfl
                          refine if_wanted (by rfl) (yield_of (by rfl) fg) ?_
                          refine wp_calls rfl (enters_of Tryd.func21 (by kernel_rfl) rfl) (args := #[(.agg #[.slice Ay0 ny0 cy0, .bool (one1 (eqV (⟨l0, s0⟩ : V) (⟨l1, s1⟩ : V))).s])]) (by simp [Act.eval, f0]) ?_
                          obtain ⟨O2, O3, O5, O6, O7, r0, r1, r5, r6, r7, TT, BB⟩ := id hS
                          apply Calls.mono
                          (refine known_b (p := true) _ _ _ _ _ _ ?_ (eq_kn hkA.out hkB.out)); (repeat (first | assumption | (with_reducible (apply Nb.rd; assumption)) | (with_reducible (apply Rb.at_later; assumption)) | (with_reducible (apply Tabs.at_later; assumption)) | (with_reducible apply Rb.alloc) | (with_reducible apply Tabs.alloc) | (with_reducible apply Rb.drew) | (with_reducible apply Tabs.drew) | (show I64 _; unfold I64; omega) | omega))
                          rintro e w2 ⟨rfl, hb⟩
                          exact ⟨_, rfl, hK _ w2 (fun h => by cases h) (keep_below hb hS) rfl⟩
                        · intro a w' hS hO hF' hP K hK
                          obtain ⟨_, f0, rfl⟩ := (hF' 14 rfl).1 88 _ rfl rfl
                          obtain ⟨_, f1, rfl⟩ := (hF' 18 rfl).1 92 _ rfl rfl
                          refine if_ok (by rfl) ?_
                          refine wp_pick_and _ _ _ rfl (ev f0) (ev f1) ?_
                          exact hK _ w' (fun h => by cases h) (keep_same hS) rfl
                        · intro a w' hS hO hF' hP K hK
                          obtain ⟨_, f0, rfl⟩ := (hF' 19 rfl).1 93 _ rfl rfl
                          refine if_ok (by rfl) ?_
                          unfold Oper.wp execOp
                          simp only [Sem.run_pure, ev f0]
                          exact hK _ w' (fun h => by cases h) (keep_same hS) rfl
                      · intro a u hd hz hS hV
                        obtain ⟨O2, O3, O5, O6, O7, r0, r1, r5, r6, r7, TT, BB⟩ := hS
                        replace O2 : Own u w.heap.size 24 #[.slice A0 n0 c0, .bool s0] := O2
                        replace O3 : Own u (w.heap.size + 1) 24 #[.slice A1 n1 c1, .bool s1] := O3
                        replace O5 : Own u w5.heap.size 24 #[.slice A5 n5 c5, .bool false] := O5
                        replace O6 : Own u g6 24 #[.slice A6 n6 c6, .bool (condV (⟨ofL ⟨#[49]⟩, false⟩ : V) (⟨l0, s0⟩ : V) (⟨l1, s1⟩ : V)).s] := O6
                        replace O7 : Own u g7 24 #[.slice A7 n7 c7, .bool (condV (⟨ofL ⟨#[48]⟩, false⟩ : V) (⟨l0, s0⟩ : V) (⟨l1, s1⟩ : V)).s] := O7
                        replace r0 : Rb u A0 n0 l0 := r0
                        replace r1 : Rb u A1 n1 l1 := r1
                        replace r5 : Rb u A5 n5 (ofL ⟨#[49]⟩) := r5
                        replace r6 : Rb u A6 n6 (condV (⟨ofL ⟨#[49]⟩, false⟩ : V) (⟨l0, s0⟩ : V) (⟨l1, s1⟩ : V)).l := r6
                        replace r7 : Rb u A7 n7 (condV (⟨ofL ⟨#[48]⟩, false⟩ : V) (⟨l0, s0⟩ : V) (⟨l1, s1⟩ : V)).l := r7
                        replace TT : Tabs u := TT
                        replace BB : Below w.heap.size w u := BB
                        obtain ⟨v0, f0, hv0⟩ := hV 20 4 _ rfl rfl
                        obtain rfl : v0 = .bool true := hv0
                        clear hV
                        go_wp2
                        refine bodyPost_ret (results_tmp rfl _ _ _) (hd.trans rfl) ?_
                        exact ⟨by rw [Array.getD_eq_getD_getElem?, f0]; rfl, BB⟩
  · skip
    have HL := Lib.hid (long2_b _ A0 A1 n0 c0 n1 c1 s0 s1 hl)
    clear hl
    have q20 := O2.cell 0
    have q21 := O2.cell 1
    have q30 := O3.cell 0
    have q31 := O3.cell 1
    go_enter Tryd.func4, Tryd.ntmps4
    go_wp2_with (first | (go_at_call 5; refine (HL.out _ _ (by simp)).mono ?_; rintro e wn ⟨rfl, rfl⟩; replace O2 := O2.alloc (.cells #[.slice A0 n0 c0, .bool s0, .slice A1 n1 c1, .bool s1] 24); replace O3 := O3.alloc (.cells #[.slice A0 n0 c0, .bool s0, .slice A1 n1 c1, .bool s1] 24); replace r0 := r0.alloc (.cells #[.slice A0 n0 c0, .bool s0, .slice A1 n1 c1, .bool s1] 24); replace r1 := r1.alloc (.cells #[.slice A0 n0 c0, .bool s0, .slice A1 n1 c1, .bool s1] 24); replace TT := TT.alloc (.cells #[.slice A0 n0 c0, .bool s0, .slice A1 n1 c1, .bool s1] 24); replace BB := Lib.hid (below_new BB.out (.cells #[.slice A0 n0 c0, .bool s0, .slice A1 n1 c1, .bool s1] 24))) | (go_at_call 6; refine (awake_any _ TT).mono ?_; rintro e wn ⟨rfl, hb⟩; replace BB := Lib.hid (below_step BB.out hb)))
    go_ret
    exact ⟨rfl, BB.out⟩
end Go.Proofs.YtognpmggfplekaaDoor
