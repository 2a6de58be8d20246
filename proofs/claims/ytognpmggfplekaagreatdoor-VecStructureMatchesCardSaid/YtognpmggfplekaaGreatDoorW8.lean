/-
  Contracts of the statements' own functions below, refines, ones, twos. Conditions: at most a million bits, the tables of package bit read as the program lays them.
-/
import Derived.Test.YtognpmggfplekaaGreatDoorW7
namespace Go.Proofs.YtognpmggfplekaaGreatDoor
open Go Go.RowKit

set_option maxRecDepth 100000 in
theorem rds_cell {u : World} {b o n k : Nat} {l : List Int} (h : Rb u (some ⟨b, o, none⟩) n l) (hk : k < n) : u.cell? ⟨b, o + k, none⟩ = some (.int .u8 (nth l k)) := by
  obtain ⟨b', o', e, _, hc⟩ := h.2.2 (by omega)
  simp only [Option.some.injEq, Addr.mk.injEq, and_true] at e
  obtain ⟨rfl, rfl⟩ := e
  exact hc k hk
def belB (x y : List Int) (i : Nat) : Bool := leqB (bufI (nth x i)) (bufI (nth y i))
def belL (x y : List Int) (n : Nat) : Bool := (List.range n).all (belB x y)
def belV (a b : V) : Bool := a.s == b.s && (a.l.length == b.l.length && belL a.l b.l a.l.length)
set_option maxRecDepth 100000 in
theorem belL_all {x y : List Int} {n : Nat} (h : ∀ j, j < n → belB x y j = true) : belL x y n = true := by
  unfold belL; rw [List.all_eq_true]; intro j hj; exact h j (List.mem_range.1 hj)
set_option maxRecDepth 100000 in
theorem belL_no {x y : List Int} {n k : Nat} (hk : k < n) (h : belB x y k = false) : belL x y n = false := by
  unfold belL; rw [List.all_eq_false]; exact ⟨k, List.mem_range.2 hk, by rw [h]; decide⟩
set_option maxRecDepth 100000 in
theorem belV_iff (a b : V) : belV a b = true ↔ a.s = b.s ∧ a.l.length = b.l.length ∧ ∀ i, i < a.l.length → belB a.l b.l i = true := by
  unfold belV belL
  rw [Bool.and_eq_true, Bool.and_eq_true, beq_iff_eq, beq_iff_eq, List.all_eq_true]
  exact ⟨fun ⟨h1, h2, h3⟩ => ⟨h1, h2, fun i hi => h3 i (List.mem_range.2 hi)⟩, fun ⟨h1, h2, h3⟩ => ⟨h1, h2, fun i hi => h3 i (List.mem_range.1 hi)⟩⟩
set_option maxRecDepth 100000 in
theorem below_ss (A Y : Option Addr) (n c d : Nat) (s : Bool) (l k : List Int) (w : World) (h : Rb w A n l) (h' : Rb w Y n k) (hn : n ≤ 1000000) (TT : Tabs w) :
    Calls Tryz.prog 84 #[.agg #[.slice A n c, .bool s], .agg #[.slice Y n d, .bool s]] w fun e w' => e = .returned (.bool (belL l k n)) ∧ Below w.heap.size w w' := by
  have O0 := ((Own.at1 w 24 #[.slice A n c, .bool s] (g := w.heap.size) (by simp)).alloc (.cells #[.slice Y n d, .bool s] 24))
  have O1 := (Own.at1 (w.alloc (.cells #[.slice A n c, .bool s] 24)) 24 #[.slice Y n d, .bool s] (g := w.heap.size + 1) (by simp))
  have BB := (below_new (below_new (Below.refl w.heap.size w) (.cells #[.slice A n c, .bool s] 24)) (.cells #[.slice Y n d, .bool s] 24))
  have O2 := O0
  have O3 := O1
  clear O0 O1
  have p0 := O2.cell 0
  have p1 := O2.cell 1
  have p2 := O3.cell 0
  have p3 := O3.cell 1
  replace TT := TT.step BB
  have r1 := h.step BB
  have r2 := h'.step BB
  have hnl := h.nn
  have hnk := h'.nn
  clear h h'
  have e0 : (s != s) = false := by simp
  replace BB := Lib.hid BB
  go_enter Tryz.func84, Tryz.ntmps84
  go_wp2
  go_loopw [5] (fun i wr => ∃ j : Nat, j ≤ n ∧ i = .int .i64 j ∧ Hid (∀ i, i < j → belB l k i = true) ∧ Hid (Own wr w.heap.size 24 #[.slice A n c, .bool s]) ∧ Hid (Own wr (w.heap.size + 1) 24 #[.slice Y n d, .bool s]) ∧ Hid (Rb wr A n l) ∧ Hid (Rb wr Y n k) ∧ Hid (Tabs wr) ∧ Hid (Below w.heap.size w wr)) (fun i _ => n - (intOf i).toNat)
  case atStart => exact ⟨0, Nat.zero_le _, rfl, Lib.hid (fun i hi => absurd hi (by omega)), Lib.hid O2, Lib.hid O3, Lib.hid r1, Lib.hid r2, Lib.hid TT, BB⟩
  case round =>
    clear O2 O3 r1 r2 TT BB p0 p1 p2 p3
    obtain ⟨j, hj, rfl, HA, O2, O3, r1, r2, TT, BB⟩ := hrel
    replace O2 := O2.out
    replace O3 := O3.out
    replace r1 := r1.out
    replace r2 := r2.out
    replace TT := TT.out
    have p0 := O2.cell 0
    have p2 := O3.cell 0
    by_cases hlt : j < n
    · obtain ⟨b1, o1, rfl, _, _⟩ := r1.at_ hlt
      obtain ⟨b2, o2, rfl, _, _⟩ := r2.at_ hlt
      have d1 : decide ((j : Int) < n) = true := by simpa using hlt
      go_wp2
      refine region_y (by kernel_rfl) (fun u => owns w.heap.size #[.slice (some ⟨b1, o1, none⟩) n c, .bool s] u ∧ (owns (w.heap.size + 1) #[.slice (some ⟨b2, o2, none⟩) n d, .bool s] u ∧ (rds (some ⟨b1, o1, none⟩) n l u ∧ (rds (some ⟨b2, o2, none⟩) n k u ∧ (tbs u ∧ blw w u))))) [] [isV (.pointer (some ⟨w.heap.size, 0, none⟩)), isV (.slice (some ⟨b1, o1, none⟩) n c), isV (.int .i64 j), isV (.pointer (some ⟨b1, o1 + j, none⟩)), isV (.int .u8 (nth l j)), isV (.int .u8 (bufI (nth l j))), isV (.pointer (some ⟨w.heap.size + 1, 0, none⟩)), isV (.slice (some ⟨b2, o2, none⟩) n d), isV (.int .i64 j), isV (.pointer (some ⟨b2, o2 + j, none⟩)), isV (.int .u8 (nth k j)), isV (.int .u8 (bufI (nth k j))), isV (.bool (leqB (bufI (nth l j)) (bufI (nth k j)))), isV (.bool (!leqB (bufI (nth l j)) (bufI (nth k j))))] [some 27, some 28, some 29, some 30, some 31, some 32, some 33, some 34, some 35, some 36, some 37, some 38, some 39, some 40] [[], [0], [], [1, 2], [3], [4], [], [6], [], [7, 8], [9], [10, 5], [5, 11, 11], [12]] (by kernel_rfl) (by kernel_rfl) rfl (by kernel_rfl) (by kernel_rfl) (by kernel_rfl) ⟨O2.drew, O3.drew, r1.drew, r2.drew, TT.drew, below_drew BB.out⟩ (fun _ h => by cases h) ?_ ?_
      · refine ⟨?_, ?_, ?_, ?_, ?_, ?_, ?_, ?_, ?_, ?_, ?_, ?_, ?_, ?_, trivial⟩
        · intro a w' hS hO hF' hP K hK
          have ha := hO 2 (by rfl)
          refine if_ok (by rfl) ?_
          refine wp_fa0 _ rfl (ev ha) ?_
          exact hK _ w' (fun h => by cases h) (keep_same hS) rfl
        · intro a w' hS hO hF' hP K hK
          obtain ⟨_, f0, rfl⟩ := (hF' 0 rfl).1 27 _ rfl rfl
          refine if_ok (by rfl) ?_
          refine wp_ldS _ rfl (ev f0) (hS.1.cell 0) ?_
          exact hK _ w' (fun h => by cases h) (keep_same hS) rfl
        · intro a w' hS hO hF' hP K hK
          have ha := hO 5 (by rfl)
          refine if_ok (by rfl) ?_
          unfold Oper.wp execOp
          simp only [Sem.run_pure, ev ha]
          exact hK _ w' (fun h => by cases h) (keep_same hS) rfl
        · intro a w' hS hO hF' hP K hK
          obtain ⟨_, f0, rfl⟩ := (hF' 1 rfl).1 28 _ rfl rfl
          obtain ⟨_, f1, rfl⟩ := (hF' 2 rfl).1 29 _ rfl rfl
          refine if_ok (by rfl) ?_
          refine wp_ix _ _ rfl (ev f0) (ev f1) hlt ?_
          exact hK _ w' (fun h => by cases h) (keep_same hS) rfl
        · intro a w' hS hO hF' hP K hK
          obtain ⟨_, f0, rfl⟩ := (hF' 3 rfl).1 30 _ rfl rfl
          refine if_ok (by rfl) ?_
          refine wp_ldU _ rfl (ev f0) (rds_cell hS.2.2.1 hlt) ?_
          exact hK _ w' (fun h => by cases h) (keep_same hS) rfl
        · intro a w' hS hO hF' hP K hK
          obtain ⟨_, f0, rfl⟩ := (hF' 4 rfl).1 31 _ rfl rfl
          refine if_ok (by rfl) ?_
          refine wp_calls rfl (enters_of Tryz.func171 (by kernel_rfl) rfl) (args := #[.int .u8 (nth l j)]) (by simp [Act.eval, f0]) ?_
          refine (b_buf _ (hnl.nth _) hS.2.2.2.2.1).mono ?_
          rintro e w2 ⟨rfl, hb⟩
          exact ⟨_, rfl, hK _ w2 (fun h => by cases h) (keep_below hb hS) rfl⟩
        · intro a w' hS hO hF' hP K hK
          have ha := hO 3 (by rfl)
          refine if_ok (by rfl) ?_
          refine wp_fa0 _ rfl (ev ha) ?_
          exact hK _ w' (fun h => by cases h) (keep_same hS) rfl
        · intro a w' hS hO hF' hP K hK
          obtain ⟨_, f0, rfl⟩ := (hF' 6 rfl).1 33 _ rfl rfl
          refine if_ok (by rfl) ?_
          refine wp_ldS _ rfl (ev f0) (hS.2.1.cell 0) ?_
          exact hK _ w' (fun h => by cases h) (keep_same hS) rfl
        · intro a w' hS hO hF' hP K hK
          have ha := hO 5 (by rfl)
          refine if_ok (by rfl) ?_
          unfold Oper.wp execOp
          simp only [Sem.run_pure, ev ha]
          exact hK _ w' (fun h => by cases h) (keep_same hS) rfl
        · intro a w' hS hO hF' hP K hK
          obtain ⟨_, f0, rfl⟩ := (hF' 7 rfl).1 34 _ rfl rfl
          obtain ⟨_, f1, rfl⟩ := (hF' 8 rfl).1 35 _ rfl rfl
          refine if_ok (by rfl) ?_
          refine wp_ix _ _ rfl (ev f0) (ev f1) hlt ?_
          exact hK _ w' (fun h => by cases h) (keep_same hS) rfl
        · intro a w' hS hO hF' hP K hK
          obtain ⟨_, f0, rfl⟩ := (hF' 9 rfl).1 36 _ rfl rfl
          refine if_ok (by rfl) ?_
          refine wp_ldU _ rfl (ev f0) (rds_cell hS.2.2.2.1 hlt) ?_
          exact hK _ w' (fun h => by cases h) (keep_same hS) rfl
        · intro a w' hS hO hF' hP K hK
          obtain ⟨_, f0, rfl⟩ := (hF' 10 rfl).1 37 _ rfl rfl
          refine if_ok (by rfl) ?_
          refine wp_calls rfl (enters_of Tryz.func171 (by kernel_rfl) rfl) (args := #[.int .u8 (nth k j)]) (by simp [Act.eval, f0]) ?_
          refine (b_buf _ (hnk.nth _) hS.2.2.2.2.1).mono ?_
          rintro e w2 ⟨rfl, hb⟩
          exact ⟨_, rfl, hK _ w2 (fun h => by cases h) (keep_below hb hS) rfl⟩
        · intro a w' hS hO hF' hP K hK
          obtain ⟨_, f0, rfl⟩ := (hF' 5 rfl).1 32 _ rfl rfl
          obtain ⟨_, f1, rfl⟩ := (hF' 11 rfl).1 38 _ rfl rfl
          refine if_ok (by rfl) ?_
          refine wp_calls rfl (enters_of Tryz.func85 (by kernel_rfl) rfl) (args := #[.int .u8 (bufI (nth l j)), .int .u8 (bufI (nth k j))]) (by simp [Act.eval, f0, f1]) ?_
          refine (quietB (leq_any _ _ _)).mono ?_
          rintro e w2 ⟨rfl, hb⟩
          exact ⟨_, rfl, hK _ w2 (fun h => by cases h) (keep_below hb hS) rfl⟩
        · intro a w' hS hO hF' hP K hK
          obtain ⟨_, f0, rfl⟩ := (hF' 12 rfl).1 39 _ rfl rfl
          refine if_ok (by rfl) ?_
          refine wp_not _ rfl (ev f0) ?_
          exact hK _ w' (fun h => by cases h) (keep_same hS) rfl
      · intro vs u hl hS hV
        match vs, hl, hV with
        | [v0, v1, v2, v3, v4, v5, v6, v7, v8, v9, v10, v11, v12, v13], _, hV =>
          obtain rfl := hV 0 _ rfl
          obtain rfl := hV 1 _ rfl
          obtain rfl := hV 2 _ rfl
          obtain rfl := hV 3 _ rfl
          obtain rfl := hV 4 _ rfl
          obtain rfl := hV 5 _ rfl
          obtain rfl := hV 6 _ rfl
          obtain rfl := hV 7 _ rfl
          obtain rfl := hV 8 _ rfl
          obtain rfl := hV 9 _ rfl
          obtain rfl := hV 10 _ rfl
          obtain rfl := hV 11 _ rfl
          obtain rfl := hV 12 _ rfl
          obtain rfl := hV 13 _ rfl
          simp only [puts, Act.put, List.setIfInBounds_toArray, List.set_cons_zero, List.set_cons_succ]
          obtain ⟨O2, O3, r1, r2, TT, BB⟩ := hS
          clear hV
          replace BB := Lib.hid BB
          have hbe : belB l k j = leqB (bufI (nth l j)) (bufI (nth k j)) := rfl
          generalize hz : leqB (bufI (nth l j)) (bufI (nth k j)) = z at *
          replace hz := Lib.hid hz
          cases z
          · have hz := Lib.hid (belL_no hlt hbe)
            clear hbe
            go_wp2
            go_ret
            exact ⟨by rw [hz.out]; rfl, BB.out⟩
          · replace hbe := Lib.hid hbe
            go_wp2
            go_roundw
            case rel => exact ⟨j + 1, by omega, by go_num, Lib.hid (fun i hi => by
              rcases Nat.lt_or_ge i j with h1 | h1
              · exact HA.out i h1
              · obtain rfl : i = j := by omega
                exact hbe.out), Lib.hid O2, Lib.hid O3, Lib.hid r1, Lib.hid r2, Lib.hid TT, BB⟩
            case measure => simp [intOf]; omega
    · obtain rfl : j = n := by omega
      have e : belL l k j = true := belL_all HA.out
      replace e := Lib.hid e
      go_wp2
      go_ret
      exact ⟨by rw [e.out]; rfl, BB.out⟩
set_option maxRecDepth 100000 in
theorem below_any (A Y : Option Addr) (n m c d : Nat) (s t : Bool) (l k : List Int) (w : World) (h : Rb w A n l) (h' : Rb w Y m k) (hn : n ≤ 1000000) (TT : Tabs w) :
    Calls Tryz.prog 84 #[.agg #[.slice A n c, .bool s], .agg #[.slice Y m d, .bool t]] w fun e w' => e = .returned (.bool (belV ⟨l, s⟩ ⟨k, t⟩)) ∧ Below w.heap.size w w' := by
  have hl := h.len
  have hk := h'.len
  by_cases e1 : s = t
  · subst e1
    by_cases e2 : n = m
    · subst e2
      have e : belV ⟨l, s⟩ ⟨k, s⟩ = belL l k n := by unfold belV; simp [hl, hk]
      rw [e]
      exact below_ss A Y n c d s l k w h h' hn TT
    · have e : belV ⟨l, s⟩ ⟨k, s⟩ = false := by unfold belV; simp [hl, hk, e2]
      rw [e]
      have O0 := ((Own.at1 w 24 #[.slice A n c, .bool s] (g := w.heap.size) (by simp)).alloc (.cells #[.slice Y m d, .bool s] 24))
      have O1 := (Own.at1 (w.alloc (.cells #[.slice A n c, .bool s] 24)) 24 #[.slice Y m d, .bool s] (g := w.heap.size + 1) (by simp))
      have BB := (below_new (below_new (Below.refl w.heap.size w) (.cells #[.slice A n c, .bool s] 24)) (.cells #[.slice Y m d, .bool s] 24))
      have p0 := O0.cell 0
      have p1 := O0.cell 1
      have p2 := O1.cell 0
      have p3 := O1.cell 1
      have d0 : (s != s) = false := by simp
      have d1 : ((n : Int) != m) = true := by simp; omega
      clear h h' TT e2
      go_enter Tryz.func84, Tryz.ntmps84
      go_wp2
      go_ret
      exact ⟨rfl, BB⟩
  · have e : belV ⟨l, s⟩ ⟨k, t⟩ = false := by unfold belV; simp [e1]
    rw [e]
    have O0 := ((Own.at1 w 24 #[.slice A n c, .bool s] (g := w.heap.size) (by simp)).alloc (.cells #[.slice Y m d, .bool t] 24))
    have O1 := (Own.at1 (w.alloc (.cells #[.slice A n c, .bool s] 24)) 24 #[.slice Y m d, .bool t] (g := w.heap.size + 1) (by simp))
    have BB := (below_new (below_new (Below.refl w.heap.size w) (.cells #[.slice A n c, .bool s] 24)) (.cells #[.slice Y m d, .bool t] 24))
    have p0 := O0.cell 0
    have p1 := O0.cell 1
    have p2 := O1.cell 0
    have p3 := O1.cell 1
    have d0 : (s == t) = false := by simpa using e1
    have d1 : (s != t) = true := by simpa using e1
    clear h h' TT e1
    go_enter Tryz.func84, Tryz.ntmps84
    go_wp2
    go_ret
    exact ⟨rfl, BB⟩
/-- c is valid and refines the valid a. -/
def rfB (c a : V) : Bool := (chk a.l == 0) && ((chk c.l == 0) && leqV a c)
set_option maxRecDepth 100000 in
set_option maxHeartbeats 2000000 in
theorem refines_any (A Y : Option Addr) (n m c d : Nat) (s t : Bool) (l k : List Int) (w : World) (h : Rb w A n l) (h' : Rb w Y m k) (hn : n ≤ 1000000) (hm : m ≤ 1000000) :
    Calls Tryz.prog 83 #[.agg #[.slice A n c, .bool s], .agg #[.slice Y m d, .bool t]] w fun e w' => e = .returned (.bool (rfB ⟨l, s⟩ ⟨k, t⟩)) ∧ Below w.heap.size w w' := by
  have O0 := ((Own.at1 w 24 #[.slice A n c, .bool s] (g := w.heap.size) (by simp)).alloc (.cells #[.slice Y m d, .bool t] 24))
  have O1 := (Own.at1 (w.alloc (.cells #[.slice A n c, .bool s] 24)) 24 #[.slice Y m d, .bool t] (g := w.heap.size + 1) (by simp))
  have BB := (below_new (below_new (Below.refl w.heap.size w) (.cells #[.slice A n c, .bool s] 24)) (.cells #[.slice Y m d, .bool t] 24))
  have O2 := O0
  have O3 := O1
  clear O0 O1
  have r1 := h.step BB
  have r2 := h'.step BB
  clear h h'
  have q20 := O2.cell 0
  have q21 := O2.cell 1
  have q30 := O3.cell 0
  have q31 := O3.cell 1
  unfold rfB
  simp only
  replace BB := Lib.hid BB
  have HC := Lib.hid (fun (u : World) (h : Rb u Y m k) => rCheck_any Y m d t k u h hm)
  have HD := Lib.hid (fun (u : World) (h : Rb u A n l) => rCheck_any A n c s l u h hn)
  have HL := Lib.hid (fun (u : World) (h : Rb u A n l) (h' : Rb u Y m k) => leq_v Y A m n d c t s k l u h' h)
  generalize leqV ⟨k, t⟩ ⟨l, s⟩ = z at *
  generalize chk k = y at *
  generalize chk l = x at *
  by_cases hy : y = 0
  · subst hy
    by_cases hx : x = 0
    · subst hx
      have e0 : ((0 : Int) == 0) = true := rfl
      go_enter Tryz.func83, Tryz.ntmps83
      go_wp2_with (first | (go_at_call 29; first | ((with_reducible refine (HC.out _ r2).mono ?_); rintro e wn ⟨rfl, hb⟩; have kb := hb; replace O2 := O2.step kb; replace O3 := O3.step kb; replace r1 := r1.step kb; replace r2 := r2.step kb; replace BB := Lib.hid (below_step BB.out kb); clear q20 q21 q30 q31; have q20 := O2.cell 0; have q21 := O2.cell 1; have q30 := O3.cell 0; have q31 := O3.cell 1) | ((with_reducible refine (HD.out _ r1).mono ?_); rintro e wn ⟨rfl, hb⟩; have kb := hb; replace O2 := O2.step kb; replace O3 := O3.step kb; replace r1 := r1.step kb; replace r2 := r2.step kb; replace BB := Lib.hid (below_step BB.out kb); clear q20 q21 q30 q31; have q20 := O2.cell 0; have q21 := O2.cell 1; have q30 := O3.cell 0; have q31 := O3.cell 1)) | (go_at_call 33; refine (HL.out _ r1 r2).mono ?_; rintro e wn ⟨rfl, hb⟩; have kb := hb; replace O2 := O2.step kb; replace O3 := O3.step kb; replace r1 := r1.step kb; replace r2 := r2.step kb; replace BB := Lib.hid (below_step BB.out kb); clear q20 q21 q30 q31; have q20 := O2.cell 0; have q21 := O2.cell 1; have q30 := O3.cell 0; have q31 := O3.cell 1))
      go_ret
      exact ⟨rfl, BB.out⟩
    · have e0 : (x == 0) = false := by simpa using hx
      go_enter Tryz.func83, Tryz.ntmps83
      go_wp2_with (first | (go_at_call 29; first | ((with_reducible refine (HC.out _ r2).mono ?_); rintro e wn ⟨rfl, hb⟩; have kb := hb; replace O2 := O2.step kb; replace O3 := O3.step kb; replace r1 := r1.step kb; replace r2 := r2.step kb; replace BB := Lib.hid (below_step BB.out kb); clear q20 q21 q30 q31; have q20 := O2.cell 0; have q21 := O2.cell 1; have q30 := O3.cell 0; have q31 := O3.cell 1) | ((with_reducible refine (HD.out _ r1).mono ?_); rintro e wn ⟨rfl, hb⟩; have kb := hb; replace O2 := O2.step kb; replace O3 := O3.step kb; replace r1 := r1.step kb; replace r2 := r2.step kb; replace BB := Lib.hid (below_step BB.out kb); clear q20 q21 q30 q31; have q20 := O2.cell 0; have q21 := O2.cell 1; have q30 := O3.cell 0; have q31 := O3.cell 1)) | (go_at_call 33; refine (HL.out _ r1 r2).mono ?_; rintro e wn ⟨rfl, hb⟩; have kb := hb; replace O2 := O2.step kb; replace O3 := O3.step kb; replace r1 := r1.step kb; replace r2 := r2.step kb; replace BB := Lib.hid (below_step BB.out kb); clear q20 q21 q30 q31; have q20 := O2.cell 0; have q21 := O2.cell 1; have q30 := O3.cell 0; have q31 := O3.cell 1))
      go_ret
      exact ⟨by rw [e0]; rfl, BB.out⟩
  · have e0 : (y == 0) = false := by simpa using hy
    go_enter Tryz.func83, Tryz.ntmps83
    go_wp2_with (first | (go_at_call 29; first | ((with_reducible refine (HC.out _ r2).mono ?_); rintro e wn ⟨rfl, hb⟩; have kb := hb; replace O2 := O2.step kb; replace O3 := O3.step kb; replace r1 := r1.step kb; replace r2 := r2.step kb; replace BB := Lib.hid (below_step BB.out kb); clear q20 q21 q30 q31; have q20 := O2.cell 0; have q21 := O2.cell 1; have q30 := O3.cell 0; have q31 := O3.cell 1) | ((with_reducible refine (HD.out _ r1).mono ?_); rintro e wn ⟨rfl, hb⟩; have kb := hb; replace O2 := O2.step kb; replace O3 := O3.step kb; replace r1 := r1.step kb; replace r2 := r2.step kb; replace BB := Lib.hid (below_step BB.out kb); clear q20 q21 q30 q31; have q20 := O2.cell 0; have q21 := O2.cell 1; have q30 := O3.cell 0; have q31 := O3.cell 1)) | (go_at_call 33; refine (HL.out _ r1 r2).mono ?_; rintro e wn ⟨rfl, hb⟩; have kb := hb; replace O2 := O2.step kb; replace O3 := O3.step kb; replace r1 := r1.step kb; replace r2 := r2.step kb; replace BB := Lib.hid (below_step BB.out kb); clear q20 q21 q30 q31; have q20 := O2.cell 0; have q21 := O2.cell 1; have q30 := O3.cell 0; have q31 := O3.cell 1))
    go_ret
    exact ⟨by rw [e0]; rfl, BB.out⟩
end Go.Proofs.YtognpmggfplekaaGreatDoor
