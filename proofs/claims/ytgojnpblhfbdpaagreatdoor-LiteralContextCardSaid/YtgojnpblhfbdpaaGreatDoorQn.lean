/-
  Contracts of the library's Repeat at bits and of the program's Repeat. Conditions: the result has at most 128 bits.
  Contracts of the program's Repeat. No conditions.
  Contracts of the library's Backward over a slice of vectors. No conditions.
  Contracts of the program's Concat. No conditions.
-/
import Derived.Test.YtgojnpblhfbdpaaGreatDoorQm
import Derived.Laws.CopyRow
import Derived.Test.YtgojnpblhfbdpaaGreatDoorQk
import Derived.RangeFuncNested
import Derived.RangeFuncBound
import Derived.RangeFuncCalls
import Derived.RangeFuncLeaves
import Derived.Shelf.Abstract
import Derived.Shelf.RegionOpen
import Derived.WalkKit
import Derived.OwnWalkIn
import Derived.TacticsInMore
import Derived.LoopNIn
import Derived.LoopIn

namespace Go.Proofs.YtgojnpblhfbdpaaGreatDoor
open Go Go.RowKit

set_option maxRecDepth 100000 in
theorem il_take (l : List Int) (k : Nat) : il (l.take k) = (il l).take k := by simp [il, List.map_take]
set_option maxRecDepth 100000 in
theorem il_drop (l : List Int) (k : Nat) : il (l.drop k) = (il l).drop k := by simp [il, List.map_drop]
set_option maxRecDepth 100000 in
theorem run_cpy {w : World} (ty : TypeId) (g o n c : Nat) (x y : List Int) (X : Option Addr) (m d : Nat) (O : Own w g 58 (ia x)) (hr : Rb w X m y) (hm : 0 < m) (hfit : o + min m n ≤ x.length) :
    ∃ w', (Builtin.copy_ #[24, 24] ty #[.slice (some ⟨g, o, none⟩) n c, .slice X m d]).run Tryz.prog w = .ok (goInt (min m n : Nat)) w' ∧ Own w' g 58 (ia (x.take o ++ y.take (min m n) ++ x.drop (o + min m n))) ∧ w.grownBy w' (some g) := by
  have hsz : (Tryz.prog.info? 58).map (·.size) = some 1 := by kernel_rfl
  obtain ⟨b, p, rfl, hb, hc⟩ := hr.2.2 hm
  have hl : (il (y.take (min m n))).length = min m n := by rw [il_length, List.length_take, hr.1]; exact Nat.min_eq_left (Nat.min_le_left _ _)
  have hrun := run_copy_row (P := Tryz.prog) w 24 24 ty 58 g o n c ⟨b, p, none⟩ m d (ia x) _ (il (y.take (min m n))) Tryz.underlying24 hsz O (by rw [hl])
    (fun j v hv => by
      have hj : j < min m n := by have := (List.getElem?_eq_some_iff.1 hv).1; rwa [hl] at this
      rw [il_take, List.getElem?_take, if_pos hj, il_get (by rw [hr.1]; omega)] at hv
      have e : (⟨b, p, none⟩ : Addr).add j = ⟨b, p + j, none⟩ := by unfold Addr.add; split <;> simp_all
      rw [e, hc j (by omega)]
      exact hv) (by rw [hl, ia_size]; exact hfit) (il_one _)
  rw [hl] at hrun
  refine ⟨_, hrun, ?_, ⟨rfl, rfl, rfl, by simp [World.setRow], fun k hk hne => setRow_other w g k _ (by simpa using hne)⟩⟩
  have e : ((ia x).toList.take o ++ il (y.take (min m n)) ++ (ia x).toList.drop (o + min m n)).toArray = ia (x.take o ++ y.take (min m n) ++ x.drop (o + min m n)) := by
    simp only [ia, ← il_take, ← il_drop, il_cat]
  rw [← e]
  exact setRow_heap w g _ _ _ _ O
set_option maxRecDepth 100000 in
theorem wp_cpy {o : Oper} {a : Act} {w : World} {K : Act → World → Prop} {Q : Exit → Act → World → Prop} (s x : Operand)
    (ho : o.op = .call { callee := .builtin .copy, args := #[s, x], argTypes := #[24, 24] })
    {g p n c : Nat} {l y : List Int} {X : Option Addr} {m d : Nat} (hs : a.eval s = .slice (some ⟨g, p, none⟩) n c) (O : Own w g 58 (ia l)) (hx : a.eval x = .slice X m d) (hr : Rb w X m y) (hm : 0 < m) (hfit : p + min m n ≤ l.length)
    (h : ∀ w', Own w' g 58 (ia (l.take p ++ y.take (min m n) ++ l.drop (p + min m n))) → w.grownBy w' (some g) → K (a.put o.dst (goInt (min m n : Nat))) w') : o.wp Tryz.prog a w K Q := by
  obtain ⟨w', hrun, h2, h3⟩ := run_cpy o.type g p n c l y X m d O hr hm hfit
  unfold Oper.wp execOp
  simp only [ho, resolve, invoke, builtin, Sem.run_bind, Sem.run_pure, Result.andThen_ok, List.map_toArray, List.map_cons, List.map_nil, hs, hx, hrun]
  exact h w' h2 h3
set_option maxRecDepth 100000 in
theorem upon_cpy {w : World} {o : Oper} {a : Act} {K : Act → World → Prop} {Q : Exit → Act → World → Prop} (ty : TypeId) {g p n c : Nat} {l y : List Int} {X : Option Addr} {m d : Nat} (O : Own w g 58 (ia l)) (hr : Rb w X m y) (hm : 0 < m) (hfit : p + min m n ≤ l.length)
    (h : ∀ w', Own w' g 58 (ia (l.take p ++ y.take (min m n) ++ l.drop (p + min m n))) → w.grownBy w' (some g) → K (a.put o.dst (goInt (min m n : Nat))) w') :
    Oper.upon Tryz.prog o a K Q (((Builtin.copy_ #[24, 24] ty #[.slice (some ⟨g, p, none⟩) n c, .slice X m d]).run Tryz.prog w).andThen fun v w' => .ok (.value v) w') := by
  obtain ⟨w', hrun, h1, h2⟩ := run_cpy ty g p n c l y X m d O hr hm hfit
  rw [hrun]
  exact h w' h1 h2
/-- The first k of N places, filled with copies of l. -/
def rq (l : List Int) (n N k : Nat) : List Int := tab N fun i => if i < k then nth l (i % n) else 0
set_option maxRecDepth 100000 in
theorem rq_len (l : List Int) (n N k : Nat) : (rq l n N k).length = N := tab_len _ _
set_option maxRecDepth 100000 in
theorem rq_zero (l : List Int) (n N : Nat) : rq l n N 0 = tab N fun _ => 0 := by unfold rq; simp
set_option maxRecDepth 100000 in
theorem nth_drop (l : List Int) (a i : Nat) : nth (l.drop a) i = nth l (a + i) := by unfold nth; simp
set_option maxRecDepth 100000 in
theorem nth_take (l : List Int) {a i : Nat} (h : i < a) : nth (l.take a) i = nth l i := by unfold nth; simp [h]
set_option maxRecDepth 100000 in
theorem nth_app1 (l m : List Int) {i : Nat} (h : i < l.length) : nth (l ++ m) i = nth l i := by unfold nth; simp [List.getElem?_append_left h]
set_option maxRecDepth 100000 in
theorem nth_app2 (l m : List Int) {i : Nat} (h : l.length ≤ i) : nth (l ++ m) i = nth m (i - l.length) := by unfold nth; simp [List.getElem?_append_right h]
set_option maxRecDepth 100000 in
theorem rq_step (l y : List Int) {n N k q : Nat} (hk : k + q ≤ N) (hy : q ≤ y.length) (hf : ∀ i, i < q → nth y i = nth l ((k + i) % n)) : (rq l n N k).take k ++ y.take q ++ (rq l n N k).drop (k + q) = rq l n N (k + q) := by
  have h1 : ((rq l n N k).take k).length = k := by rw [List.length_take, rq_len]; omega
  have h2 : (y.take q).length = q := by rw [List.length_take]; omega
  have hL : ((rq l n N k).take k ++ y.take q ++ (rq l n N k).drop (k + q)).length = N := by rw [List.length_append, List.length_append, h1, h2, List.length_drop, rq_len]; omega
  apply list_ext (hL.trans (rq_len l n N (k + q)).symm)
  intro i hi
  rw [hL] at hi
  rcases Nat.lt_or_ge i k with a | a
  · rw [List.append_assoc, nth_app1 _ _ (by omega), nth_take _ a]
    unfold rq
    rw [nth_tab _ (by omega), nth_tab _ (by omega), if_pos a, if_pos (by omega)]
  · rcases Nat.lt_or_ge i (k + q) with b | b
    · rw [List.append_assoc, nth_app2 _ _ (by omega), h1, nth_app1 _ _ (by omega), nth_take _ (by omega), hf _ (by omega)]
      unfold rq
      rw [nth_tab _ (by omega), if_pos b, show k + (i - k) = i by omega]
    · rw [nth_app2 _ _ (by rw [List.length_append]; omega), List.length_append, h1, h2, nth_drop, show k + q + (i - (k + q)) = i by omega]
      unfold rq
      rw [nth_tab _ (by omega), nth_tab _ (by omega), if_neg (by omega), if_neg (by omega)]

set_option maxRecDepth 100000 in
theorem Rb.of_pre {w : World} {g n : Nat} {l : List Int} (h : Own w g 58 (ia l)) (hl : nnL l) (hn : n ≤ l.length) : Rb w (some ⟨g, 0, none⟩) n (l.take n) :=
  ⟨by rw [List.length_take]; omega, fun a ha => hl a (List.mem_of_mem_take ha), fun _ => ⟨g, 0, rfl, h.lt, fun i hi => by rw [Nat.zero_add, h.cell i, ia_get (by omega), nth_take _ hi]⟩⟩
set_option maxRecDepth 100000 in
theorem nn_rq {l : List Int} (h : nnL l) (n N k : Nat) : nnL (rq l n N k) := by
  intro a ha
  unfold rq tab at ha
  simp only [List.mem_map, List.mem_range] at ha
  obtain ⟨i, _, rfl⟩ := ha
  split
  · exact h.nth _
  · exact Int.le_refl _
set_option maxRecDepth 100000 in
theorem slice_from (b k N : Nat) (h : k < N) (W : World) : (Instr.sliceAt 24 (.slice (some ⟨b, 0, none⟩) N N) (some (.int .i64 k)) none none).run Tryz.prog W = .ok (.slice (some ⟨b, k, none⟩) (N - k) (N - k)) W := by
  have hz : (sizeOf 58).run Tryz.prog W = .ok 1 W := by kernel_rfl
  rw [run_sliceAt_slice (P := Tryz.prog) (w := W) _ _ _ _ _ (by kernel_rfl)]
  have h1 := run_slice_l (P := Tryz.prog) (w := W) 24 (some ⟨b, 0, none⟩) N N (by kernel_rfl) .i64 k (by omega) (by omega)
  rw [h1, show (Tryz.prog).elem 24 = 58 by kernel_rfl, hz]
  simp only [Result.andThen, Int.toNat_natCast, sliced, Nat.mul_one]
  have : (⟨b, 0, none⟩ : Addr).add k = ⟨b, k, none⟩ := by unfold Addr.add; split <;> simp_all
  rw [if_neg (by omega)]
  simp [this]
set_option maxRecDepth 100000 in
theorem slice_to (b k N : Nat) (h : k ≤ N) (hN : 0 < N) (W : World) : (Instr.sliceAt 24 (.slice (some ⟨b, 0, none⟩) N N) none (some (.int .i64 k)) none).run Tryz.prog W = .ok (.slice (some ⟨b, 0, none⟩) k N) W := by
  have hz : (sizeOf 58).run Tryz.prog W = .ok 1 W := by kernel_rfl
  rw [run_sliceAt_slice (P := Tryz.prog) (w := W) _ _ _ _ _ (by kernel_rfl)]
  have h1 := run_slice_h (P := Tryz.prog) (w := W) 24 (some ⟨b, 0, none⟩) N N (by kernel_rfl) .i64 k (by omega) (by omega)
  rw [h1, show (Tryz.prog).elem 24 = 58 by kernel_rfl, hz]
  simp only [Result.andThen, Int.toNat_natCast, sliced]
  have : (⟨b, 0, none⟩ : Addr).add 0 = ⟨b, 0, none⟩ := by unfold Addr.add; split <;> simp_all
  rw [if_neg (by omega)]
  simp [this]
set_option maxRecDepth 100000 in
theorem min_mul {n k N : Nat} (h1 : k % n = 0) (h2 : N % n = 0) (h : k ≤ N) : (k + min k (N - k)) % n = 0 := by
  have h3 : n ∣ k := Nat.dvd_of_mod_eq_zero h1
  have h4 : n ∣ N := Nat.dvd_of_mod_eq_zero h2
  refine Nat.mod_eq_zero_of_dvd ?_
  rcases Nat.le_total k (N - k) with a | a
  · rw [Nat.min_eq_left a]; exact Nat.dvd_add h3 h3
  · rw [Nat.min_eq_right a, show k + (N - k) = N by omega]; exact h4
/-- cnt copies of l, one behind the other. -/
def rp (l : List Int) (n cnt : Nat) : List Int := tab (n * cnt) fun i => nth l (i % n)
set_option maxRecDepth 100000 in
theorem rq_full (l : List Int) (n cnt : Nat) : rq l n (n * cnt) (n * cnt) = rp l n cnt := by
  unfold rq rp
  apply list_ext (by rw [tab_len, tab_len])
  intro i hi
  rw [tab_len] at hi
  rw [nth_tab _ hi, nth_tab _ hi, if_pos hi]
instance (W : World) : LeB W W.heap.size := ⟨Nat.le_refl _⟩
set_option maxHeartbeats 2000000 in
set_option maxRecDepth 100000 in
theorem srepeat_any (A : Option Addr) (n c cnt : Nat) (l : List Int) (w : World) (h : Rb w A n l) (hn : 0 < n) (hc : 0 < cnt) (hb : n * cnt ≤ 128) :
    Calls Tryz.prog 130 #[.slice A n c, .int .i64 cnt] w (RetB w (rp l n cnt)) := by
  have hn1 : n ≤ n * cnt := Nat.le_mul_of_pos_right _ hc
  have hc1 : cnt ≤ n * cnt := Nat.le_mul_of_pos_left _ hn
  have hM := mul_any n cnt (by omega) (by omega)
  have hdvN : (n * cnt) % n = 0 := Nat.mul_mod_right _ _
  rw [← rq_full]
  have hlN : (rq l n (n * cnt) (n * cnt)).length = n * cnt := rq_len _ _ _ _
  generalize n * cnt = N at *
  have hmk := fun W => run_makeV N (by omega) W
  have c1 : IntKind.u64.wrap (n : Int) = n := by simp [IntKind.wrap, IntKind.signed, IntKind.bits]; omega
  have c2 : IntKind.u64.wrap (cnt : Int) = cnt := by simp [IntKind.wrap, IntKind.signed, IntKind.bits]; omega
  have c3 : IntKind.i64.wrap (N : Int) = N := IntWalk.i64_in _ (by omega)
  have c4 : decide ((cnt : Int) < 0) = false := by simp
  have c5 : decide ((9223372036854775807 : Int) < (N : Int)) = false := by simp; omega
  have O0 := Own.new w 58 (ia (tab N fun _ => 0))
  have BB := below_new (Below.refl w.heap.size w) (.cells (ia (tab N fun _ => 0)) 58)
  rw [← rq_zero l n N] at O0 BB hmk
  have r0 := h.step BB
  have hnn := Lib.hid (nn_rq h.nn n N)
  replace h := Lib.hid h
  unfold RetB
  rw [hlN]
  go_enter Tryz.func130, Tryz.ntmps130
  go_wp2_with (go_at_call 161; refine (hM _).mono ?_; rintro e w1 ⟨rfl, hw⟩; obtain rfl := hw.symm)
  refine upon_cpy _ O0 r0 hn (by rw [rq_len]; omega) ?_
  intro w2 O2 hg2
  rw [rq_step (k := 0) (q := min n N) l l (by omega) (by rw [r0.1]; omega) (fun i hi => by rw [Nat.zero_add, Nat.mod_eq_of_lt (by omega)]), Nat.zero_add, Nat.min_eq_left hn1] at O2
  rw [Nat.min_eq_left hn1]
  have B2 := Lib.hid (BB.grown hg2 BB.size (fun k hk => by cases hk; exact Nat.le_refl _))
  replace O2 := Lib.hid O2
  clear O0 r0 BB hg2 hmk hM h
  go_wp2
  go_loopw [8] (fun i wr => ∃ k : Nat, 0 < k ∧ k ≤ N ∧ k % n = 0 ∧ i = .int .i64 k ∧ Hid (Own wr w.heap.size 58 (ia (rq l n N k))) ∧ Hid (Below w.heap.size w wr)) (fun i _ => N - (intOf i).toNat)
  case atStart => exact ⟨n, hn, hn1, Nat.mod_self _, rfl, O2, B2⟩
  case round =>
    obtain ⟨k, hk0, hk, hkn, rfl, HO, HB⟩ := hrel
    by_cases hlt : k < N
    · have hdv := Lib.hid (min_mul hkn hdvN hk)
      have hper := Lib.hid (fun (i : Nat) (hi : i < min k (N - k)) => show nth ((rq l n N k).take k) i = nth l ((k + i) % n) by
        rw [nth_take _ (by omega)]
        unfold rq
        rw [nth_tab _ (by omega), if_pos (by omega), Nat.add_mod, hkn, Nat.zero_add, Nat.mod_mod])
      have hnn := Lib.hid (hnn.out k)
      have s1 := fun W => slice_from w.heap.size k N hlt W
      have s2 := fun W => slice_to w.heap.size k N hk (by omega) W
      have s3 : IntKind.i64.wrap ((k : Int) + (min k (N - k) : Nat)) = (k + min k (N - k) : Nat) := by rw [IntWalk.i64_in _ (by omega)]; push_cast; rfl
      clear hkn hdvN O2 B2 c1 c2 c3 c4 c5 hlN hn1 hc1
      have t1 : decide ((k : Int) < N) = true := by simp; omega
      go_wp2
      have hS0 : blw w wr.drew := HB.out.drew
      have hP0 : Own wr.drew w.heap.size 58 (ia (rq l n N k)) := HO.out
      clear HO HB
      refine region_k (by kernel_rfl) (fun u => blw w u) [tru, tru, tru, tru, tru, tru, tru, ownT w.heap.size 58 (ia (rq l n N k)), tru, tru] [isV (.int .i64 k), isV (.slice (some ⟨w.heap.size, 0, none⟩) N N), isV (.int .i64 k), isV (.slice (some ⟨w.heap.size, k, none⟩) (N - k) (N - k)), isV (.slice (some ⟨w.heap.size, 0, none⟩) N N), isV (.int .i64 k), isV (.slice (some ⟨w.heap.size, 0, none⟩) k N), (fun v u => v = .int .i64 (min k (N - k) : Nat) ∧ Own u w.heap.size 58 (ia (rq l n N (k + min k (N - k))))), isV (.int .i64 (k + min k (N - k) : Nat)), isV (.int .i64 (k + min k (N - k) : Nat))] [some 38, some 39, some 40, some 41, some 42, some 43, some 44, some 45, some 46, some 8] [[], [], [], [1, 2], [], [], [4, 5], [3, 6], [0, 7], [8, 7, 0, 1, 2, 3, 4, 5, 6, 7, 8]] [[], [], [], [1, 2], [], [], [4, 5], [3, 6], [0, 7], [8, 7, 0, 1, 2, 3, 4, 5, 6, 7, 8]] [[], [], [], [], [], [], [], [], [], []] [[], [], [], [], [], [], [], [], [], []] (by kernel_rfl) (by kernel_rfl) (by kernel_rfl) (by kernel_rfl) (by kernel_rfl) rfl (by kernel_rfl) (by kernel_rfl) (by kernel_rfl) hS0 (by
        intro U hU
        simp only [List.mem_cons, List.not_mem_nil, or_false] at hU
        rcases hU with rfl | rfl | rfl | rfl | rfl | rfl | rfl | rfl | rfl | rfl
        all_goals first | trivial | exact hP0) ?_ ?_
      · refine ⟨?_, ?_, ?_, ?_, ?_, ?_, ?_, ?_, ?_, ?_, trivial⟩
        · intro a w' hS hO hF' hP K hK
          have ha := hO 8 (by rfl)
          refine if_ok (by rfl) ?_
          unfold Oper.wp execOp
          simp only [Sem.run_pure, ev ha]
          exact hK _ w' (fun h => by cases h) (keepK_same hS) rfl
        · intro a w' hS hO hF' hP K hK
          have ha := hO 7 (by rfl)
          refine if_ok (by rfl) ?_
          unfold Oper.wp execOp
          simp only [Sem.run_pure, ev ha]
          exact hK _ w' (fun h => by cases h) (keepK_same hS) rfl
        · intro a w' hS hO hF' hP K hK
          have ha := hO 8 (by rfl)
          refine if_ok (by rfl) ?_
          unfold Oper.wp execOp
          simp only [Sem.run_pure, ev ha]
          exact hK _ w' (fun h => by cases h) (keepK_same hS) rfl
        · intro a w' hS hO hF' hP K hK
          obtain ⟨_, f1, rfl⟩ := (hF' 1 rfl).1 39 _ rfl rfl
          obtain ⟨_, f2, rfl⟩ := (hF' 2 rfl).1 40 _ rfl rfl
          refine if_ok (by rfl) ?_
          unfold Oper.wp execOp
          simp only [Sem.run_pure, Sem.run_bind, Option.map_some, Option.map_none, ev f1, ev f2, s1, Result.andThen_ok]
          exact hK _ w' (fun h => by cases h) (keepK_same hS) rfl
        · intro a w' hS hO hF' hP K hK
          have ha := hO 7 (by rfl)
          refine if_ok (by rfl) ?_
          unfold Oper.wp execOp
          simp only [Sem.run_pure, ev ha]
          exact hK _ w' (fun h => by cases h) (keepK_same hS) rfl
        · intro a w' hS hO hF' hP K hK
          have ha := hO 8 (by rfl)
          refine if_ok (by rfl) ?_
          unfold Oper.wp execOp
          simp only [Sem.run_pure, ev ha]
          exact hK _ w' (fun h => by cases h) (keepK_same hS) rfl
        · intro a w' hS hO hF' hP K hK
          obtain ⟨_, f1, rfl⟩ := (hF' 4 rfl).1 42 _ rfl rfl
          obtain ⟨_, f2, rfl⟩ := (hF' 5 rfl).1 43 _ rfl rfl
          refine if_ok (by rfl) ?_
          unfold Oper.wp execOp
          simp only [Sem.run_pure, Sem.run_bind, Option.map_some, Option.map_none, ev f1, ev f2, s2, Result.andThen_ok]
          exact hK _ w' (fun h => by cases h) (keepK_same hS) rfl
        · intro a w' hS hO hF' hP K hK
          obtain ⟨_, f1, rfl⟩ := (hF' 3 rfl).1 41 _ rfl rfl
          obtain ⟨_, f2, rfl⟩ := (hF' 6 rfl).1 44 _ rfl rfl
          have O := hP 7 _ (by rfl) rfl
          refine if_ok (by rfl) ?_
          refine wp_cpy _ _ rfl (ev f1) O (ev f2) (Rb.of_pre O hnn.out (by rw [rq_len]; omega)) hk0 (by rw [rq_len]; omega) ?_
          intro w2 O2 hg2
          rw [rq_step (q := min k (N - k)) l _ (by omega) (by rw [List.length_take, rq_len]; omega) hper.out] at O2
          exact hK _ w2 (fun h => by cases h) (keepK_grown (B := w.heap.size) (fun j hj => by cases hj; exact ⟨Nat.le_refl _, _, O⟩) hg2 hS.size inferInstance ⟨inferInstance, inferInstance, inferInstance, inferInstance, inferInstance, inferInstance, inferInstance, inferInstance, inferInstance, trivial⟩ ⟨.inr inferInstance, .inr inferInstance, .inr inferInstance, .inr inferInstance, .inr inferInstance, .inr inferInstance, .inr inferInstance, .inl rfl, .inr inferInstance, .inr inferInstance, trivial⟩ hS) ⟨rfl, O2⟩
        · intro a w' hS hO hF' hP K hK
          obtain ⟨_, f1, rfl⟩ := (hF' 0 rfl).1 38 _ rfl rfl
          obtain ⟨_, f2, rfl, _⟩ := (hF' 7 rfl).1 45 _ rfl rfl
          refine if_ok (by rfl) ?_
          refine wp_add _ _ _ rfl (ev f1) (ev f2) ?_
          rw [s3]
          exact hK _ w' (fun h => by cases h) (keepK_same hS) rfl
        · intro a w' hS hO hF' hP K hK
          obtain ⟨_, f0, rfl⟩ := (hF' 8 rfl).1 46 _ rfl rfl
          refine if_ok (by rfl) ?_
          unfold Oper.wp execOp
          simp only [Sem.run_pure, ev f0]
          exact hK _ w' (fun h => by cases h) (keepK_same hS) rfl
      · intro vs u hl hS hV
        match vs, hl, hV with
        | [v0, v1, v2, v3, v4, v5, v6, v7, v8, v9], _, hV =>
          simp only [puts, Act.put, List.setIfInBounds_toArray, List.set_cons_zero, List.set_cons_succ]
          obtain rfl := hV 0 _ rfl rfl
          obtain rfl := hV 1 _ rfl rfl
          obtain rfl := hV 2 _ rfl rfl
          obtain rfl := hV 3 _ rfl rfl
          obtain rfl := hV 4 _ rfl rfl
          obtain rfl := hV 5 _ rfl rfl
          obtain rfl := hV 6 _ rfl rfl
          obtain ⟨rfl, OU⟩ := hV 7 _ rfl rfl
          obtain rfl := hV 8 _ rfl rfl
          obtain rfl := hV 9 _ rfl rfl
          clear hV
          go_wp2
          go_roundw
          case rel => exact ⟨k + min k (N - k), by omega, by omega, hdv.out, rfl, Lib.hid OU, Lib.hid hS⟩
          case measure => simp [intOf]; omega
    · obtain rfl : k = N := by omega
      have t1 : decide ((k : Int) < k) = false := by simp
      replace hnn := hnn.out k
      clear hkn hdvN O2 B2 c1 c2 c3 c4 c5 hn1 hc1
      go_wp2
      go_ret
      have hB := HB.out
      exact ⟨_, _, rfl, Nb.of_own HO.out hnn hlN (Nat.le_refl _) (by unfold maxLen; omega), hB⟩
end Go.Proofs.YtgojnpblhfbdpaaGreatDoor

namespace Go.Proofs.YtgojnpblhfbdpaaGreatDoor
open Go Go.RowKit

def reE (v : V) (m : Int) : Int := if m < 1 then 1 else if (128 / (nrm v).l.length : Nat) < m then 12 else 0
def reV (v : V) (m : Int) : V := if reE v m = 0 then ⟨rp (nrm v).l (nrm v).l.length m.toNat, false⟩ else nilV
set_option maxRecDepth 100000 in
theorem rp_len (l : List Int) (n k : Nat) : (rp l n k).length = n * k := tab_len _ _

end Go.Proofs.YtgojnpblhfbdpaaGreatDoor

namespace Go.Proofs.YtgojnpblhfbdpaaGreatDoor
open Go Go.RowKit Go.Shelf
attribute [local go_sem] Oper.semAt_some

/-- What has come when k rounds are over: n - 1, .., n - k. -/
def dn (n k : Nat) : List Nat := (List.range k).map fun j => n - 1 - j
theorem dn_succ (n k : Nat) : dn n (k + 1) = dn n k ++ [n - 1 - k] := by simp [dn, List.range_succ]
theorem dn_len (n k : Nat) : (dn n k).length = k := by simp [dn]
/-- A vector as the memory holds it. -/
structure Cv where
  A : Option Addr
  n : Nat
  c : Nat
  s : Bool
def Cv.val (x : Cv) : Value := .agg #[.slice x.A x.n x.c, .bool x.s]
/-- The slice at X of k vectors holds f 0, .., in a block below B. -/
def Vs (B : Nat) (w : World) (X : Option Addr) (k : Nat) (f : Nat → Cv) : Prop := 0 < k → ∃ b o, X = some ⟨b, o, none⟩ ∧ b < B ∧ ∀ j, j < k → w.cell? ⟨b, o + j * 2, none⟩ = some (.slice (f j).A (f j).n (f j).c) ∧ w.cell? ⟨b, o + j * 2 + 1, none⟩ = some (.bool (f j).s)
/-- What a round keeps: the blocks below n₀, and the iterator's box. -/
def KpB (n₀ Bs : Nat) (W W' : World) : Prop := Below n₀ W W' ∧ ∀ s, W.cell? ⟨Bs, 0, none⟩ = some s → W'.cell? ⟨Bs, 0, none⟩ = some s
theorem kpB_t {n₀ Bs : Nat} {A B C : World} (h : KpB n₀ Bs A B) (k : KpB n₀ Bs B C) : KpB n₀ Bs A C := ⟨h.1.trans k.1, fun s hs => k.2 s (h.2 s hs)⟩
theorem kpB_b {n₀ Bs : Nat} {w : World} (hn : n₀ ≤ w.heap.size) (W : World) (l : Nat) (o o' : Obj) (hl : w.heap.size ≤ l) (h : W.heap[l]? = some o) (hc : o.isCells = false) (hw : o.isWalk = false) : KpB n₀ Bs W (W.putObj l o') :=
  ⟨belowK_b hn W l o o' hl h hc hw, fun s hs => cell_kept hs (grownBy_putObj' W l o') (fun r e => by cases e; exact ⟨_, h, hc⟩)⟩
theorem Vs.below {B : Nat} {w u : World} {X : Option Addr} {k : Nat} {f : Nat → Cv} (hb : Below B w u) (h : Vs B w X k f) : Vs B u X k f := fun hk => by
  obtain ⟨b, o, e, hlt, hc⟩ := h hk
  exact ⟨b, o, e, hlt, fun j hj => ⟨(hb.cell (p := ⟨b, o + j * 2, none⟩) hlt).trans (hc j hj).1, (hb.cell (p := ⟨b, o + j * 2 + 1, none⟩) hlt).trans (hc j hj).2⟩⟩
end Go.Proofs.YtgojnpblhfbdpaaGreatDoor

namespace Go.Proofs.YtgojnpblhfbdpaaGreatDoor
open Go Go.RowKit Go.Shelf
attribute [local go_sem] Oper.semAt_some

/-- The bits of the vectors listed. -/
def catL (v : Nat → V) (l : List Nat) : List Int := l.flatMap fun j => (nrm (v j)).l
set_option maxRecDepth 100000 in
theorem catL_snoc (v : Nat → V) (l : List Nat) (j : Nat) : catL v (l ++ [j]) = catL v l ++ (nrm (v j)).l := by simp [catL]
def coE (n : Nat) (v : Nat → V) : Int := if n = 0 then 4 else if 128 < (catL v (dn n n)).length then 12 else 0
def coV (n : Nat) (v : Nat → V) : V := if coE n v = 0 then ⟨catL v (dn n n), false⟩ else nilV
/-- The vectors that the memory holds. -/
def Rv (w : World) (f : Nat → Cv) (v : Nat → V) : Prop := ∀ j, Rb w (f j).A (f j).n (v j).l ∧ (f j).s = (v j).s
set_option maxRecDepth 100000 in
theorem Rv.step {w u : World} {f : Nat → Cv} {v : Nat → V} (h : Rv w f v) (hb : Below w.heap.size w u) : Rv u f v := fun j => ⟨(h j).1.step hb, (h j).2⟩
set_option maxRecDepth 100000 in
theorem Nb.grownT {u u' : World} {B : Nat} {A : Option Addr} {n c : Nat} {l : List Int} {g : Nat} {T : TypeId} {cs : Array Value} (h : Nb u B A n c l) (O : Own u g T cs) (hT : T ≠ 58) (hg : u.grownBy u' (some g)) : Nb u' B A n c l := by
  refine ⟨h.1, h.2.1, h.2.2.1, h.2.2.2.imp id fun ⟨k, cap, cur, h1, h2, h3, h4⟩ => ⟨k, cap, cur, h1, h2, ?_, h4⟩⟩
  refine Own.grown h3 hg (fun e => ?_)
  simp only [Option.some.injEq] at e
  subst e
  have h5 : u.heap[k]? = _ := O
  rw [h5] at h3
  simp at h3
  exact hT h3.2
set_option maxRecDepth 100000 in
theorem Own.grownT {u u' : World} {g h : Nat} {S : TypeId} {cs' : Array Value} (H : Own u h S cs') (hne : h ≠ g) (hg : u.grownBy u' (some g)) : Own u' h S cs' := Own.grown H hg (by simpa using hne)
set_option maxRecDepth 100000 in
theorem keeps_below {w u : World} (h : Below w.heap.size w u) : KeepsOthers w u := ⟨h.size, fun k _o hk _ => (h.block k (Array.getElem?_eq_some_iff.1 hk).1).trans hk⟩
/-- What a round of Concat leaves as it was: w is the world of the call, W0 that of the loop, W that of the round. -/
structure SC (w W0 W : World) (X : Option Addr) (n c Bx : Nat) (x : Cv) (u : World) : Prop where
  r0 : Own u w.heap.size 26 #[.slice none 0 0, .bool false]
  r1 : Own u (w.heap.size + 1) 27 #[.int .i64 0]
  r4 : Own u (w.heap.size + 1 + 1 + 1 + 1) 73 #[.slice X n c]
  bx : Own u Bx 26 #[.slice x.A x.n x.c, .bool x.s]
  blw : Below w.heap.size w u
  kf : KeepsFrom W0.heap.size W u
section
variable {w W0 W u u' : World} {X : Option Addr} {n c Bx : Nat} {x : Cv}
instance : Stb (SC w W0 W X n c Bx x) := ⟨fun _u _u' hb h => ⟨h.r0.step hb, h.r1.step hb, h.r4.step hb, h.bx.step hb, below_step h.blw hb, h.kf.trans ((keeps_below hb).from _)⟩⟩
set_option maxRecDepth 100000 in
theorem keeps_cells {u u' : World} {row : Option Nat} (hg : u.grownBy u' row) (hr : ∀ r, row = some r → ∃ T cs, Own u r T cs) : KeepsOthers u u' := ⟨hg.size, fun k o hk ho => (hg.block k (Array.getElem?_eq_some_iff.1 hk).1 (fun e => by
  obtain ⟨T, cs, O⟩ := hr k e.symm
  have h1 : u.heap[k]? = _ := O
  rw [h1] at hk; cases hk; cases ho)).trans hk⟩
instance : Sgr w.heap.size (SC w W0 W X n c Bx x) := ⟨fun u u' row hr hg hB h =>
  ⟨Own.grown h.r0 hg (rowB_ne hr (by decide) h.r0), Own.grown h.r1 hg (rowB_ne hr (by decide) h.r1), Own.grown h.r4 hg (rowB_ne hr (by decide) h.r4), Own.grown h.bx hg (rowB_ne hr (by decide) h.bx), Below.grown h.blw hg hB (fun k hk => (hr k hk).1), h.kf.trans ((keeps_cells hg (fun r e => ⟨_, (hr r e).2⟩)).from _)⟩⟩
set_option maxRecDepth 100000 in
theorem SC.cell {T : TypeId} {cs : Array Value} {q : Value} (h : SC w W0 W X n c Bx x u) (O : Own u (w.heap.size + 1 + 1 + 1) T cs) (hT : T ≠ 26) : SC w W0 W X n c Bx x (u.setCell ⟨w.heap.size + 1 + 1 + 1, 0, none⟩ q) := by
  have hg := grownBy_setCell' u (w.heap.size + 1 + 1 + 1) q
  refine ⟨h.r0.grownT (by omega) hg, h.r1.grownT (by omega) hg, h.r4.grownT (by omega) hg, Own.grown h.bx hg (fun e => ?_), Below.grown h.blw hg h.blw.size (fun k hk => by cases hk; omega), h.kf.trans ((keeps_cells hg (fun r e => by cases e; exact ⟨_, _, O⟩)).from _)⟩
  simp only [Option.some.injEq] at e
  subst e
  have h5 : u.heap[w.heap.size + 1 + 1 + 1]? = _ := O
  have h6 := h.bx
  unfold Own at h6
  rw [h5] at h6
  simp at h6
  exact hT h6.2
end
instance (B g : Nat) (T : TypeId) [h : NotBit T] (cs : Array Value) : Sgr B (ownT g T cs) := inferInstance
instance : NotBit 24 := ⟨by decide⟩
set_option maxRecDepth 100000 in
theorem wp_load1 {o : Oper} {a : Act} {w : World} {K : Act → World → Prop} {Q : Exit → Act → World → Prop} (x : Operand) (ho : o.op = .load 24 x)
    {g : Nat} (hx : a.eval x = .pointer (some ⟨g, 0, none⟩)) {t : TypeId} {A : Option Addr} {n c : Nat} (O : Own w g t #[.slice A n c])
    (h : K (a.put o.dst (.slice A n c)) w) : o.wp Tryz.prog a w K Q := by
  have h1 := O.cell 0
  have h2 : (Instr.loadAt 24 (.pointer (some ⟨g, 0, none⟩))).run Tryz.prog w = .ok (.slice A n c) w := by
    simp [go_sem, h1]
  unfold Oper.wp execOp
  simp only [ho, hx, Sem.run_bind, h2, Result.andThen_ok, Sem.run_pure]
  exact h
set_option maxRecDepth 100000 in
theorem wp_store1 {o : Oper} {a : Act} {w : World} {K : Act → World → Prop} {Q : Exit → Act → World → Prop} (x y : Operand) (ho : o.op = .store 24 x y)
    {g : Nat} (hx : a.eval x = .pointer (some ⟨g, 0, none⟩)) {A : Option Addr} {n c : Nat} (hy : a.eval y = .slice A n c) {t : TypeId} {r : Value} (O : Own w g t #[r])
    (h : K (a.put o.dst undef) (w.setCell ⟨g, 0, none⟩ (.slice A n c))) : o.wp Tryz.prog a w K Q := by
  have h1 := O.cell 0
  have h2 := O.free 0
  have h3 : (Instr.storeAt 24 (.pointer (some ⟨g, 0, none⟩)) (.slice A n c)).run Tryz.prog w = .ok () (w.setCell ⟨g, 0, none⟩ (.slice A n c)) := by
    simp [go_sem, h1, h2]
  unfold Oper.wp execOp
  simp only [ho, hx, hy, Sem.run_bind, h3, Result.andThen_ok, Sem.run_pure]
  exact h
set_option maxRecDepth 100000 in
theorem wpIn_val {P : Program} {l N : Nat} {o : Oper} {a : Act} {w w' : World} {K : Act → World → Prop} {Q : Exit → Act → World → Prop} {q : Value} (hnd : ∀ c, o.op ≠ .defer c) (hrun : (execOp a.eval o).run P w = .ok (.value q) w') (h : K (a.put o.dst q) w') : o.wpIn (Fence.wide.inRound l) N P a w K Q :=
  wpIn_of_wp hnd (fun r args w'' e => by rw [hrun] at e; cases e) (by unfold Oper.wp; rw [hrun]; exact h)
set_option maxRecDepth 100000 in
theorem wpIn_cat {l₀ N B : Nat} {o : Oper} {a : Act} {w : World} {K : Act → World → Prop} {Q : Exit → Act → World → Prop} (s x : Operand)
    (ho : o.op = .call { callee := .builtin .append, args := #[s, x], argTypes := #[24, 24] }) (hty : o.type = 24) (hbase : B ≤ w.heap.size)
    {A : Option Addr} {n c : Nat} {l : List Int} (hs : a.eval s = .slice A n c) (hv : Nb w B A n c l) {X : Option Addr} {m d : Nat} {y : List Int} (hx : a.eval x = .slice X m d) (hr : Rb w X m y) (hn : n + m ≤ 1000000)
    (h : ∀ A' c' w', Nb w' B A' (n + m) c' (l ++ y) → w.grownBy w' (Value.slice A n c).ownBlock → K (a.put o.dst (.slice A' (n + m) c')) w') : o.wpIn (Fence.wide.inRound l₀) N Tryz.prog a w K Q := by
  obtain ⟨A', c', w', hrun, h2, h3⟩ := run_catV (d := d) hbase hv hr hn
  refine wpIn_val (w' := w') (q := .slice A' (n + m) c') (fun c e => by rw [ho] at e; cases e) ?_ (h _ _ _ h2 h3)
  unfold execOp
  simp only [ho, hty, resolve, invoke, builtin, Sem.run_bind, Sem.run_pure, Result.andThen_ok, List.map_toArray, List.map_cons, List.map_nil, hs, hx, hrun]
set_option maxRecDepth 100000 in
theorem Own.kept {W W' : World} {row : Option Nat} {g : Nat} {t : TypeId} {cs : Array Value} (O : Own W g t cs) (hg : W.grownBy W' row) (hr : ∀ r, row = some r → ∃ o : Obj, W.heap[r]? = some o ∧ o.isCells = false) : Own W' g t cs :=
  Own.grown O hg (fun e => by
    obtain ⟨o, ho, hc⟩ := hr g e.symm
    have h1 : W.heap[g]? = _ := O
    rw [h1] at ho; cases ho; cases hc)
set_option maxRecDepth 100000 in
theorem Nb.kept {W W' : World} {row : Option Nat} {B : Nat} {A : Option Addr} {n c : Nat} {l : List Int} (h : Nb W B A n c l) (hg : W.grownBy W' row) (hr : ∀ r, row = some r → ∃ o : Obj, W.heap[r]? = some o ∧ o.isCells = false) : Nb W' B A n c l := by
  refine ⟨h.1, h.2.1, h.2.2.1, h.2.2.2.imp id fun ⟨g, cap, cur, h1, h2, h3, h4⟩ => ⟨g, cap, cur, h1, h2, ?_, h4⟩⟩
  exact Own.kept h3 hg hr
def isSl (n : Nat) (l : List Int) : Value → World → Prop := fun q u => ∃ A c, q = .slice A n c ∧ Rb u A n l
instance (n : Nat) (l : List Int) : StV (isSl n l) := ⟨fun _ _ _ hb ⟨A, c, h1, h2⟩ => ⟨A, c, h1, h2.step hb⟩⟩
/-- The variable g holds a row of the call's own. -/
def didB (B g n : Nat) (l : List Int) : Value → World → Prop := fun _ u => ∃ A c, Own u g 24 #[.slice A n c] ∧ Nb u B A n c l
instance (B g n : Nat) (l : List Int) : StV (didB B g n l) := ⟨fun _ _ _ hb ⟨A, c, h1, h2⟩ => ⟨A, c, h1.step hb, h2.step hb⟩⟩
set_option maxRecDepth 100000 in
theorem results_vecF {fn : Func} {p q : Tmp} {g h : Nat} {U : World} {x y z : Value} (hres : fn.results = #[.cell p 26, .cell q 27]) {tmps : Array Value} (hp : tmps.getD p undef = .pointer (some ⟨g, 0, none⟩)) (hq : tmps.getD q undef = .pointer (some ⟨h, 0, none⟩))
    (O : Own U g 26 #[x, y]) (O' : Own U h 27 #[z]) : (results fn tmps).run Tryz.prog U = .ok (.tuple #[.agg #[x, y], z]) U := by
  have h0 := O.cell 0
  have h1 := O.cell 1
  have h2 := O'.cell 0
  have hp' : tmps[p]?.getD undef = .pointer (some ⟨g, 0, none⟩) := by simpa using hp
  have hq' : tmps[q]?.getD undef = .pointer (some ⟨h, 0, none⟩) := by simpa using hq
  simp [results, hres, go_sem, h0, h1, h2, hp', hq']
set_option maxRecDepth 100000 in
theorem catL_mono (v : Nat → V) (n : Nat) : ∀ k m, k ≤ m → (catL v (dn n k)).length ≤ (catL v (dn n m)).length
  | k, 0, h => by obtain rfl : k = 0 := by omega
                  exact Nat.le_refl _
  | k, m + 1, h => by
    rcases Nat.lt_or_ge k (m + 1) with h1 | h1
    · refine Nat.le_trans (catL_mono v n k m (by omega)) ?_
      rw [dn_succ, catL_snoc, List.length_append]; omega
    · obtain rfl : k = m + 1 := by omega
      exact Nat.le_refl _
end Go.Proofs.YtgojnpblhfbdpaaGreatDoor
