/-
  Contracts of the library's Repeat at bits and of the program's Repeat. Conditions: the result has at most 128 bits.
  Contracts of the program's Repeat. No conditions.
  Contracts of the library's Backward over a slice of vectors. No conditions.
  Contracts of the program's Concat. No conditions.
-/
import Derived.Test.YtognpmggfplekaaGreatDoorPcQm
import Derived.Laws.CopyRow
import Derived.Test.YtognpmggfplekaaGreatDoorPcQk
import Derived.RangeFuncNested
import Derived.RangeFuncBound
import Derived.RangeFuncCalls
import Derived.RangeFuncLeaves
import Derived.Shelf.Abstract
import Derived.Shelf.RegionOpen
import Derived.WalkKit
import Derived.OwnWalkIn
import Derived.TacticsInMore
import Derived.LoopNIn
import Derived.LoopIn

set_option maxRecDepth 100000
namespace Go.Proofs.YtognpmggfplekaaGreatDoor
open Go Go.RowKit

theorem il_take (l : List Int) (k : Nat) : il (l.take k) = (il l).take k := by simp [il, List.map_take]
theorem il_drop (l : List Int) (k : Nat) : il (l.drop k) = (il l).drop k := by simp [il, List.map_drop]
theorem run_cpy {w : World} (ty : TypeId) (g o n c : Nat) (x y : List Int) (X : Option Addr) (m d : Nat) (O : Own w g 48 (ia x)) (hr : Rb w X m y) (hm : 0 < m) (hfit : o + min m n ≤ x.length) :
    ∃ w', (Builtin.copy_ #[22, 22] ty #[.slice (some ⟨g, o, none⟩) n c, .slice X m d]).run Tryz.prog w = .ok (goInt (min m n : Nat)) w' ∧ Own w' g 48 (ia (x.take o ++ y.take (min m n) ++ x.drop (o + min m n))) ∧ w.grownBy w' (some g) := by
  have hsz : (Tryz.prog.info? 48).map (·.size) = some 1 := by kernel_rfl
  obtain ⟨b, p, rfl, hb, hc⟩ := hr.2.2 hm
  have hl : (il (y.take (min m n))).length = min m n := by rw [il_length, List.length_take, hr.1]; exact Nat.min_eq_left (Nat.min_le_left _ _)
  have hrun := run_copy_row (P := Tryz.prog) w 22 22 ty 48 g o n c ⟨b, p, none⟩ m d (ia x) _ (il (y.take (min m n))) Tryz.underlying22 hsz O (by rw [hl])
    (fun j v hv => by
      have hj : j < min m n := by have := (List.getElem?_eq_some_iff.1 hv).1; rwa [hl] at this
      rw [il_take, List.getElem?_take, if_pos hj, il_get (by rw [hr.1]; omega)] at hv
      have e : (⟨b, p, none⟩ : Addr).add j = ⟨b, p + j, none⟩ := by unfold Addr.add; split <;> simp_all
      rw [e, hc j (by omega)]
      exact hv) (by rw [hl, ia_size]; exact hfit) (il_one _)
  rw [hl] at hrun
  refine ⟨_, hrun, ?_, ⟨rfl, rfl, rfl, by simp [World.setRow], fun k hk hne => setRow_other w g k _ (by simpa using hne)⟩⟩
  have e : ((ia x).toList.take o ++ il (y.take (min m n)) ++ (ia x).toList.drop (o + min m n)).toArray = ia (x.take o ++ y.take (min m n) ++ x.drop (o + min m n)) := by
    simp only [ia, ← il_take, ← il_drop, il_cat]
  rw [← e]
  exact setRow_heap w g _ _ _ _ O
theorem wp_cpy {o : Oper} {a : Act} {w : World} {K : Act → World → Prop} {Q : Exit → Act → World → Prop} (s x : Operand)
    (ho : o.op = .call { callee := .builtin .copy, args := #[s, x], argTypes := #[22, 22] })
    {g p n c : Nat} {l y : List Int} {X : Option Addr} {m d : Nat} (hs : a.eval s = .slice (some ⟨g, p, none⟩) n c) (O : Own w g 48 (ia l)) (hx : a.eval x = .slice X m d) (hr : Rb w X m y) (hm : 0 < m) (hfit : p + min m n ≤ l.length)
    (h : ∀ w', Own w' g 48 (ia (l.take p ++ y.take (min m n) ++ l.drop (p + min m n))) → w.grownBy w' (some g) → K (a.put o.dst (goInt (min m n : Nat))) w') : o.wp Tryz.prog a w K Q := by
  obtain ⟨w', hrun, h2, h3⟩ := run_cpy o.type g p n c l y X m d O hr hm hfit
  unfold Oper.wp execOp
  simp only [ho, resolve, invoke, builtin, Sem.run_bind, Sem.run_pure, Result.andThen_ok, List.map_toArray, List.map_cons, List.map_nil, hs, hx, hrun]
  exact h w' h2 h3
theorem upon_cpy {w : World} {o : Oper} {a : Act} {K : Act → World → Prop} {Q : Exit → Act → World → Prop} (ty : TypeId) {g p n c : Nat} {l y : List Int} {X : Option Addr} {m d : Nat} (O : Own w g 48 (ia l)) (hr : Rb w X m y) (hm : 0 < m) (hfit : p + min m n ≤ l.length)
    (h : ∀ w', Own w' g 48 (ia (l.take p ++ y.take (min m n) ++ l.drop (p + min m n))) → w.grownBy w' (some g) → K (a.put o.dst (goInt (min m n : Nat))) w') :
    Oper.upon Tryz.prog o a K Q (((Builtin.copy_ #[22, 22] ty #[.slice (some ⟨g, p, none⟩) n c, .slice X m d]).run Tryz.prog w).andThen fun v w' => .ok (.value v) w') := by
  obtain ⟨w', hrun, h1, h2⟩ := run_cpy ty g p n c l y X m d O hr hm hfit
  rw [hrun]
  exact h w' h1 h2
def rq (l : List Int) (n N k : Nat) : List Int := tab N fun i => if i < k then nth l (i % n) else 0
theorem rq_len (l : List Int) (n N k : Nat) : (rq l n N k).length = N := tab_len _ _
theorem rq_zero (l : List Int) (n N : Nat) : rq l n N 0 = tab N fun _ => 0 := by unfold rq; simp
theorem nth_drop (l : List Int) (a i : Nat) : nth (l.drop a) i = nth l (a + i) := by unfold nth; simp
theorem nth_take (l : List Int) {a i : Nat} (h : i < a) : nth (l.take a) i = nth l i := by unfold nth; simp [h]
theorem nth_app1 (l m : List Int) {i : Nat} (h : i < l.length) : nth (l ++ m) i = nth l i := by unfold nth; simp [List.getElem?_append_left h]
theorem nth_app2 (l m : List Int) {i : Nat} (h : l.length ≤ i) : nth (l ++ m) i = nth m (i - l.length) := by unfold nth; simp [List.getElem?_append_right h]
theorem rq_step (l y : List Int) {n N k q : Nat} (hk : k + q ≤ N) (hy : q ≤ y.length) (hf : ∀ i, i < q → nth y i = nth l ((k + i) % n)) : (rq l n N k).take k ++ y.take q ++ (rq l n N k).drop (k + q) = rq l n N (k + q) := by
  have h1 : ((rq l n N k).take k).length = k := by rw [List.length_take, rq_len]; omega
  have h2 : (y.take q).length = q := by rw [List.length_take]; omega
  have hL : ((rq l n N k).take k ++ y.take q ++ (rq l n N k).drop (k + q)).length = N := by rw [List.length_append, List.length_append, h1, h2, List.length_drop, rq_len]; omega
  apply list_ext (hL.trans (rq_len l n N (k + q)).symm)
  intro i hi
  rw [hL] at hi
  rcases Nat.lt_or_ge i k with a | a
  · rw [List.append_assoc, nth_app1 _ _ (by omega), nth_take _ a]
    unfold rq
    rw [nth_tab _ (by omega), nth_tab _ (by omega), if_pos a, if_pos (by omega)]
  · rcases Nat.lt_or_ge i (k + q) with b | b
    · rw [List.append_assoc, nth_app2 _ _ (by omega), h1, nth_app1 _ _ (by omega), nth_take _ (by omega), hf _ (by omega)]
      unfold rq
      rw [nth_tab _ (by omega), if_pos b, show k + (i - k) = i by omega]
    · rw [nth_app2 _ _ (by rw [List.length_append]; omega), List.length_append, h1, h2, nth_drop, show k + q + (i - (k + q)) = i by omega]
      unfold rq
      rw [nth_tab _ (by omega), nth_tab _ (by omega), if_neg (by omega), if_neg (by omega)]

theorem Rb.of_pre {w : World} {g n : Nat} {l : List Int} (h : Own w g 48 (ia l)) (hl : nnL l) (hn : n ≤ l.length) : Rb w (some ⟨g, 0, none⟩) n (l.take n) :=
  ⟨by rw [List.length_take]; omega, fun a ha => hl a (List.mem_of_mem_take ha), fun _ => ⟨g, 0, rfl, h.lt, fun i hi => by rw [Nat.zero_add, h.cell i, ia_get (by omega), nth_take _ hi]⟩⟩
theorem nn_rq {l : List Int} (h : nnL l) (n N k : Nat) : nnL (rq l n N k) := by
  intro a ha
  unfold rq tab at ha
  simp only [List.mem_map, List.mem_range] at ha
  obtain ⟨i, _, rfl⟩ := ha
  split
  · exact h.nth _
  · exact Int.le_refl _
theorem slice_from (b k N : Nat) (h : k < N) (W : World) : (Instr.sliceAt 22 (.slice (some ⟨b, 0, none⟩) N N) (some (.int .i64 k)) none none).run Tryz.prog W = .ok (.slice (some ⟨b, k, none⟩) (N - k) (N - k)) W := by
  have hz : (sizeOf 48).run Tryz.prog W = .ok 1 W := by kernel_rfl
  rw [run_sliceAt_slice (P := Tryz.prog) (w := W) _ _ _ _ _ (by kernel_rfl)]
  have h1 := run_slice_l (P := Tryz.prog) (w := W) 22 (some ⟨b, 0, none⟩) N N (by kernel_rfl) .i64 k (by omega) (by omega)
  rw [h1, show (Tryz.prog).elem 22 = 48 by kernel_rfl, hz]
  simp only [Result.andThen, Int.toNat_natCast, sliced, Nat.mul_one]
  have : (⟨b, 0, none⟩ : Addr).add k = ⟨b, k, none⟩ := by unfold Addr.add; split <;> simp_all
  rw [if_neg (by omega)]
  simp [this]
theorem slice_to (b k N : Nat) (h : k ≤ N) (hN : 0 < N) (W : World) : (Instr.sliceAt 22 (.slice (some ⟨b, 0, none⟩) N N) none (some (.int .i64 k)) none).run Tryz.prog W = .ok (.slice (some ⟨b, 0, none⟩) k N) W := by
  have hz : (sizeOf 48).run Tryz.prog W = .ok 1 W := by kernel_rfl
  rw [run_sliceAt_slice (P := Tryz.prog) (w := W) _ _ _ _ _ (by kernel_rfl)]
  have h1 := run_slice_h (P := Tryz.prog) (w := W) 22 (some ⟨b, 0, none⟩) N N (by kernel_rfl) .i64 k (by omega) (by omega)
  rw [h1, show (Tryz.prog).elem 22 = 48 by kernel_rfl, hz]
  simp only [Result.andThen, Int.toNat_natCast, sliced]
  have : (⟨b, 0, none⟩ : Addr).add 0 = ⟨b, 0, none⟩ := by unfold Addr.add; split <;> simp_all
  rw [if_neg (by omega)]
  simp [this]
theorem min_mul {n k N : Nat} (h1 : k % n = 0) (h2 : N % n = 0) (h : k ≤ N) : (k + min k (N - k)) % n = 0 := by
  have h3 : n ∣ k := Nat.dvd_of_mod_eq_zero h1
  have h4 : n ∣ N := Nat.dvd_of_mod_eq_zero h2
  refine Nat.mod_eq_zero_of_dvd ?_
  rcases Nat.le_total k (N - k) with a | a
  · rw [Nat.min_eq_left a]; exact Nat.dvd_add h3 h3
  · rw [Nat.min_eq_right a, show k + (N - k) = N by omega]; exact h4
def rp (l : List Int) (n cnt : Nat) : List Int := tab (n * cnt) fun i => nth l (i % n)
theorem rq_full (l : List Int) (n cnt : Nat) : rq l n (n * cnt) (n * cnt) = rp l n cnt := by
  unfold rq rp
  apply list_ext (by rw [tab_len, tab_len])
  intro i hi
  rw [tab_len] at hi
  rw [nth_tab _ hi, nth_tab _ hi, if_pos hi]
instance (W : World) : LeB W W.heap.size := ⟨Nat.le_refl _⟩
set_option maxHeartbeats 2000000 in
theorem srepeat_any (A : Option Addr) (n c cnt : Nat) (l : List Int) (w : World) (h : Rb w A n l) (hn : 0 < n) (hc : 0 < cnt) (hb : n * cnt ≤ 128) :
    Calls Tryz.prog 136 #[.slice A n c, .int .i64 cnt] w (RetB w (rp l n cnt)) := by
  have hn1 : n ≤ n * cnt := Nat.le_mul_of_pos_right _ hc
  have hc1 : cnt ≤ n * cnt := Nat.le_mul_of_pos_left _ hn
  have hM := mul_any n cnt (by omega) (by omega)
  have hdvN : (n * cnt) % n = 0 := Nat.mul_mod_right _ _
  rw [← rq_full]
  have hlN : (rq l n (n * cnt) (n * cnt)).length = n * cnt := rq_len _ _ _ _
  generalize n * cnt = N at *
  have hmk := fun W => run_makeV N (by omega) W
  have c1 : IntKind.u64.wrap (n : Int) = n := by simp [IntKind.wrap, IntKind.signed, IntKind.bits]; omega
  have c2 : IntKind.u64.wrap (cnt : Int) = cnt := by simp [IntKind.wrap, IntKind.signed, IntKind.bits]; omega
  have c3 : IntKind.i64.wrap (N : Int) = N := IntWalk.i64_in _ (by omega)
  have c4 : decide ((cnt : Int) < 0) = false := by simp
  have c5 : decide ((9223372036854775807 : Int) < (N : Int)) = false := by simp; omega
  have O0 := Own.new w 48 (ia (tab N fun _ => 0))
  have BB := below_new (Below.refl w.heap.size w) (.cells (ia (tab N fun _ => 0)) 48)
  rw [← rq_zero l n N] at O0 BB hmk
  have r0 := h.step BB
  have hnn := Lib.hid (nn_rq h.nn n N)
  replace h := Lib.hid h
  unfold RetB
  rw [hlN]
  go_enter Tryz.func136, Tryz.ntmps136
  go_wp2_with (go_at_call 199; refine (hM _).mono ?_; rintro e w1 ⟨rfl, hw⟩; obtain rfl := hw.symm)
  refine upon_cpy _ O0 r0 hn (by rw [rq_len]; omega) ?_
  intro w2 O2 hg2
  rw [rq_step (k := 0) (q := min n N) l l (by omega) (by rw [r0.1]; omega) (fun i hi => by rw [Nat.zero_add, Nat.mod_eq_of_lt (by omega)]), Nat.zero_add, Nat.min_eq_left hn1] at O2
  rw [Nat.min_eq_left hn1]
  have B2 := Lib.hid (BB.grown hg2 BB.size (fun k hk => by cases hk; exact Nat.le_refl _))
  replace O2 := Lib.hid O2
  clear O0 r0 BB hg2 hmk hM h
  go_wp2
  go_loopw [8] (fun i wr => ∃ k : Nat, 0 < k ∧ k ≤ N ∧ k % n = 0 ∧ i = .int .i64 k ∧ Hid (Own wr w.heap.size 48 (ia (rq l n N k))) ∧ Hid (Below w.heap.size w wr)) (fun i _ => N - (intOf i).toNat)
  case atStart => exact ⟨n, hn, hn1, Nat.mod_self _, rfl, O2, B2⟩
  case round =>
    obtain ⟨k, hk0, hk, hkn, rfl, HO, HB⟩ := hrel
    by_cases hlt : k < N
    · have hdv := Lib.hid (min_mul hkn hdvN hk)
      have hper := Lib.hid (fun (i : Nat) (hi : i < min k (N - k)) => show nth ((rq l n N k).take k) i = nth l ((k + i) % n) by
        rw [nth_take _ (by omega)]
        unfold rq
        rw [nth_tab _ (by omega), if_pos (by omega), Nat.add_mod, hkn, Nat.zero_add, Nat.mod_mod])
      have hnn := Lib.hid (hnn.out k)
      have s1 := fun W => slice_from w.heap.size k N hlt W
      have s2 := fun W => slice_to w.heap.size k N hk (by omega) W
      have s3 : IntKind.i64.wrap ((k : Int) + (min k (N - k) : Nat)) = (k + min k (N - k) : Nat) := by rw [IntWalk.i64_in _ (by omega)]; push_cast; rfl
      clear hkn hdvN O2 B2 c1 c2 c3 c4 c5 hlN hn1 hc1
      have t1 : decide ((k : Int) < N) = true := by simp; omega
      go_wp2
      have hS0 : blw w wr.drew := HB.out.drew
      have hP0 : Own wr.drew w.heap.size 48 (ia (rq l n N k)) := HO.out
      clear HO HB
      refine region_k (by kernel_rfl) (fun u => blw w u) [tru, tru, tru, tru, tru, tru, tru, ownT w.heap.size 48 (ia (rq l n N k)), tru, tru] [isV (.int .i64 k), isV (.slice (some ⟨w.heap.size, 0, none⟩) N N), isV (.int .i64 k), isV (.slice (some ⟨w.heap.size, k, none⟩) (N - k) (N - k)), isV (.slice (some ⟨w.heap.size, 0, none⟩) N N), isV (.int .i64 k), isV (.slice (some ⟨w.heap.size, 0, none⟩) k N), (fun v u => v = .int .i64 (min k (N - k) : Nat) ∧ Own u w.heap.size 48 (ia (rq l n N (k + min k (N - k))))), isV (.int .i64 (k + min k (N - k) : Nat)), isV (.int .i64 (k + min k (N - k) : Nat))] [some 38, some 39, some 40, some 41, some 42, some 43, some 44, some 45, some 46, some 8] [[], [], [], [1, 2], [], [], [4, 5], [3, 6], [0, 7], [8, 7, 0, 1, 2, 3, 4, 5, 6, 7, 8]] [[], [], [], [1, 2], [], [], [4, 5], [3, 6], [0, 7], [8, 7, 0, 1, 2, 3, 4, 5, 6, 7, 8]] [[], [], [], [], [], [], [], [], [], []] [[], [], [], [], [], [], [], [], [], []] (by kernel_rfl) (by kernel_rfl) (by kernel_rfl) (by kernel_rfl) (by kernel_rfl) rfl (by kernel_rfl) (by kernel_rfl) (by kernel_rfl) hS0 (by
        intro U hU
        simp only [List.mem_cons, List.not_mem_nil, or_false] at hU
        rcases hU with rfl | rfl | rfl | rfl | rfl | rfl | rfl | rfl | rfl | rfl
        all_goals first | trivial | exact hP0) ?_ ?_
      · refine ⟨?_, ?_, ?_, ?_, ?_, ?_, ?_, ?_, ?_, ?_, trivial⟩
        · intro a w' hS hO hF' hP K hK; have ha := hO 8 (by rfl); refine if_ok (by rfl) ?_; unfold Oper.wp execOp; simp only [Sem.run_pure, ev ha]; exact hK _ w' nofun (keepK_same hS) rfl
        · intro a w' hS hO hF' hP K hK; have ha := hO 7 (by rfl); refine if_ok (by rfl) ?_; unfold Oper.wp execOp; simp only [Sem.run_pure, ev ha]; exact hK _ w' nofun (keepK_same hS) rfl
        · intro a w' hS hO hF' hP K hK; have ha := hO 8 (by rfl); refine if_ok (by rfl) ?_; unfold Oper.wp execOp; simp only [Sem.run_pure, ev ha]; exact hK _ w' nofun (keepK_same hS) rfl
        · intro a w' hS hO hF' hP K hK; obtain ⟨_, f1, rfl⟩ := (hF' 1 rfl).1 39 _ rfl rfl; obtain ⟨_, f2, rfl⟩ := (hF' 2 rfl).1 40 _ rfl rfl; refine if_ok (by rfl) ?_; unfold Oper.wp execOp; simp only [Sem.run_pure, Sem.run_bind, Option.map_some, Option.map_none, ev f1, ev f2, s1, Result.andThen_ok]; exact hK _ w' nofun (keepK_same hS) rfl
        · intro a w' hS hO hF' hP K hK; have ha := hO 7 (by rfl); refine if_ok (by rfl) ?_; unfold Oper.wp execOp; simp only [Sem.run_pure, ev ha]; exact hK _ w' nofun (keepK_same hS) rfl
        · intro a w' hS hO hF' hP K hK; have ha := hO 8 (by rfl); refine if_ok (by rfl) ?_; unfold Oper.wp execOp; simp only [Sem.run_pure, ev ha]; exact hK _ w' nofun (keepK_same hS) rfl
        · intro a w' hS hO hF' hP K hK; obtain ⟨_, f1, rfl⟩ := (hF' 4 rfl).1 42 _ rfl rfl; obtain ⟨_, f2, rfl⟩ := (hF' 5 rfl).1 43 _ rfl rfl; refine if_ok (by rfl) ?_; unfold Oper.wp execOp; simp only [Sem.run_pure, Sem.run_bind, Option.map_some, Option.map_none, ev f1, ev f2, s2, Result.andThen_ok]; exact hK _ w' nofun (keepK_same hS) rfl
        · intro a w' hS hO hF' hP K hK; obtain ⟨_, f1, rfl⟩ := (hF' 3 rfl).1 41 _ rfl rfl; obtain ⟨_, f2, rfl⟩ := (hF' 6 rfl).1 44 _ rfl rfl; have O := hP 7 _ (by rfl) rfl; refine if_ok (by rfl) ?_; refine wp_cpy _ _ rfl (ev f1) O (ev f2) (Rb.of_pre O hnn.out (by rw [rq_len]; omega)) hk0 (by rw [rq_len]; omega) ?_; intro w2 O2 hg2; rw [rq_step (q := min k (N - k)) l _ (by omega) (by rw [List.length_take, rq_len]; omega) hper.out] at O2; exact hK _ w2 nofun (keepK_grown (B := w.heap.size) (fun j hj => by cases hj; exact ⟨Nat.le_refl _, _, O⟩) hg2 hS.size inferInstance ⟨inferInstance, inferInstance, inferInstance, inferInstance, inferInstance, inferInstance, inferInstance, inferInstance, inferInstance, trivial⟩ ⟨.inr inferInstance, .inr inferInstance, .inr inferInstance, .inr inferInstance, .inr inferInstance, .inr inferInstance, .inr inferInstance, .inl rfl, .inr inferInstance, .inr inferInstance, trivial⟩ hS) ⟨rfl, O2⟩
        · intro a w' hS hO hF' hP K hK; obtain ⟨_, f1, rfl⟩ := (hF' 0 rfl).1 38 _ rfl rfl; obtain ⟨_, f2, rfl, _⟩ := (hF' 7 rfl).1 45 _ rfl rfl; refine if_ok (by rfl) ?_; refine wp_add _ _ _ rfl (ev f1) (ev f2) ?_; rw [s3]; exact hK _ w' nofun (keepK_same hS) rfl
        · intro a w' hS hO hF' hP K hK; obtain ⟨_, f0, rfl⟩ := (hF' 8 rfl).1 46 _ rfl rfl; refine if_ok (by rfl) ?_; unfold Oper.wp execOp; simp only [Sem.run_pure, ev f0]; exact hK _ w' nofun (keepK_same hS) rfl
      · intro vs u hl hS hV
        match vs, hl, hV with
        | [v0, v1, v2, v3, v4, v5, v6, v7, v8, v9], _, hV =>
          simp only [puts, Act.put, List.setIfInBounds_toArray, List.set_cons_zero, List.set_cons_succ]
          obtain rfl := hV 0 _ rfl rfl
          obtain rfl := hV 1 _ rfl rfl
          obtain rfl := hV 2 _ rfl rfl
          obtain rfl := hV 3 _ rfl rfl
          obtain rfl := hV 4 _ rfl rfl
          obtain rfl := hV 5 _ rfl rfl
          obtain rfl := hV 6 _ rfl rfl
          obtain ⟨rfl, OU⟩ := hV 7 _ rfl rfl
          obtain rfl := hV 8 _ rfl rfl
          obtain rfl := hV 9 _ rfl rfl
          clear hV
          go_wp2
          go_roundw
          case rel => exact ⟨k + min k (N - k), by omega, by omega, hdv.out, rfl, Lib.hid OU, Lib.hid hS⟩
          case measure => simp [intOf]; omega
    · obtain rfl : k = N := by omega
      have t1 : decide ((k : Int) < k) = false := by simp
      replace hnn := hnn.out k
      clear hkn hdvN O2 B2 c1 c2 c3 c4 c5 hn1 hc1
      go_wp2
      go_ret
      have hB := HB.out
      exact ⟨_, _, rfl, Nb.of_own HO.out hnn hlN (Nat.le_refl _) (by unfold maxLen; omega), hB⟩
end Go.Proofs.YtognpmggfplekaaGreatDoor

namespace Go.Proofs.YtognpmggfplekaaGreatDoor
open Go Go.RowKit

def reE (v : V) (m : Int) : Int := if m < 1 then 1 else if (128 / (nrm v).l.length : Nat) < m then 12 else 0
def reV (v : V) (m : Int) : V := if reE v m = 0 then ⟨rp (nrm v).l (nrm v).l.length m.toNat, false⟩ else nilV
theorem rp_len (l : List Int) (n k : Nat) : (rp l n k).length = n * k := tab_len _ _

set_option maxHeartbeats 2000000 in
theorem repeat_v (A : Option Addr) (n c : Nat) (s : Bool) (l : List Int) (m : Int) (w : World) (h : Rb w A n l) : Calls Tryz.prog 45 #[.agg #[.slice A n c, .bool s], .int .i64 m] w (RetE w (reV ⟨l, s⟩ m) (reE ⟨l, s⟩ m)) := by
  have O0 := ((Own.at1 w 24 #[.slice A n c, .bool s] (g := w.heap.size) (by simp)).alloc (.cells #[.slice none 0 0, .bool false] 24))
  have O1 := (Own.at1 (w.alloc (.cells #[.slice A n c, .bool s] 24)) 24 #[.slice none 0 0, .bool false] (g := w.heap.size + 1) (by simp))
  have BB := (below_new (below_new (Below.refl w.heap.size w) (.cells #[.slice A n c, .bool s] 24)) (.cells #[.slice none 0 0, .bool false] 24))
  have HA := Lib.hid (operand_any A n c s l _ (h.step BB))
  have hlen := nrm_len ⟨l, s⟩
  unfold reV reE
  generalize nrm ⟨l, s⟩ = x at *
  obtain ⟨lx, sx⟩ := x
  simp only at *
  obtain ⟨N, hN⟩ : ∃ N, lx.length = N := ⟨_, rfl⟩
  rw [hN] at hlen ⊢
  replace hN := Lib.hid hN
  by_cases h1 : m < 1
  · rw [if_pos h1]
    have t1 : decide (m < 1) = true := by simpa using h1
    clear h hlen h1
    go_enter Tryz.func45, Tryz.ntmps45
    go_wp2_with (go_at_call 117; refine HA.out.mono ?_; rintro e w1 ⟨A1, c1, rfl, r1, hb1⟩; simp only [hN.out] at r1 ⊢; replace BB := below_step BB hb1; replace O0 := O0.step hb1; replace O1 := O1.step hb1; have qO00 := O0.cell 0; have qO01 := O0.cell 1; have fO00 := O0.free 0; have fO01 := O0.free 1; have qO10 := O1.cell 0; have qO11 := O1.cell 1; have fO10 := O1.free 0; have fO11 := O1.free 1; have B1 := below_set2 BB (Nat.le_refl _) (.slice A1 N c1) (.bool sx); have U0 := O0.put2 (.slice A1 N c1) (.bool sx); have U1 := O1.far2 (Nat.succ_ne_self _) (.slice A1 N c1) (.bool sx); have r2 := r1.set2 O0 (.slice A1 N c1) (.bool sx))
    exact ret_vecE Tryz.results45 rfl rfl rfl (U1.put2 _ _) (RetE.mk' (v := nilV) (Nb.nil _ _) (below_set2 B1 (Nat.le_succ _) _ _))
  · rw [if_neg h1]
    have t1 : decide (m < 1) = false := by simpa using h1
    have q1 : wrap64 (Int.tdiv 128 N) = (128 / N : Nat) := by
      rw [Int.tdiv_eq_ediv_of_nonneg (by decide)]
      have h3 : (128 : Int) / N = (128 / N : Nat) := by push_cast; rfl
      rw [h3]
      have h4 : 128 / N ≤ 128 := Nat.div_le_self _ _
      generalize 128 / N = q at *
      exact IntWalk.wrap64_in _ (by omega)
    have q3 : (128 : Int) / N = (128 / N : Nat) := by push_cast; rfl
    have q2 : 0 < N := by omega
    have hQ : ∀ k, k ≤ 128 / N → N * k ≤ 128 := fun k h5 => Nat.le_trans (Nat.mul_le_mul_left N h5) (Nat.mul_div_le 128 N)
    generalize 128 / N = Q at *
    by_cases h2 : (Q : Int) < m
    · rw [if_pos h2]
      have t2 : decide ((Q : Int) < m) = true := by simpa using h2
      clear h hlen h1 h2 hQ
      go_enter Tryz.func45, Tryz.ntmps45
      go_wp2_with (go_at_call 117; refine HA.out.mono ?_; rintro e w1 ⟨A1, c1, rfl, r1, hb1⟩; simp only [hN.out] at r1 ⊢; replace BB := below_step BB hb1; replace O0 := O0.step hb1; replace O1 := O1.step hb1; have qO00 := O0.cell 0; have qO01 := O0.cell 1; have fO00 := O0.free 0; have fO01 := O0.free 1; have qO10 := O1.cell 0; have qO11 := O1.cell 1; have fO10 := O1.free 0; have fO11 := O1.free 1; have B1 := below_set2 BB (Nat.le_refl _) (.slice A1 N c1) (.bool sx); have U0 := O0.put2 (.slice A1 N c1) (.bool sx); have U1 := O1.far2 (Nat.succ_ne_self _) (.slice A1 N c1) (.bool sx); have r2 := r1.set2 O0 (.slice A1 N c1) (.bool sx); have qU00 := U0.cell 0; have qU10 := U1.cell 0; have qU11 := U1.cell 1; have fU10 := U1.free 0; have fU11 := U1.free 1)
      exact ret_vecE Tryz.results45 rfl rfl rfl (U1.put2 _ _) (RetE.mk' (v := nilV) (Nb.nil _ _) (below_set2 B1 (Nat.le_succ _) _ _))
    · rw [if_neg h2]
      obtain ⟨k, rfl⟩ : ∃ k : Nat, m = k := ⟨m.toNat, by omega⟩
      rw [Int.toNat_natCast, if_pos rfl]
      have hb := hQ k (by omega)
      have t2 : decide (Q < k) = false := by simp; omega
      replace t1 : decide ((k : Int) < 1) = false := t1
      have HR := Lib.hid (fun (u : World) (A1 : Option Addr) (c1 : Nat) (r : Rb u A1 N lx) => srepeat_any A1 N c1 k lx u r q2 (by omega) hb)
      generalize rp lx N k = y at *
      clear h hlen h1 h2 hQ hb
      go_enter Tryz.func45, Tryz.ntmps45
      go_wp2_with (first
        | (go_at_call 117; refine HA.out.mono ?_; rintro e w1 ⟨A1, c1, rfl, r1, hb1⟩; simp only [hN.out] at r1 ⊢; replace BB := below_step BB hb1; replace O0 := O0.step hb1; replace O1 := O1.step hb1; have qO00 := O0.cell 0; have qO01 := O0.cell 1; have fO00 := O0.free 0; have fO01 := O0.free 1; have qO10 := O1.cell 0; have qO11 := O1.cell 1; have fO10 := O1.free 0; have fO11 := O1.free 1; have B1 := below_set2 BB (Nat.le_refl _) (.slice A1 N c1) (.bool sx); have U0 := O0.put2 (.slice A1 N c1) (.bool sx); have U1 := O1.far2 (Nat.succ_ne_self _) (.slice A1 N c1) (.bool sx); have r2 := r1.set2 O0 (.slice A1 N c1) (.bool sx); have qU00 := U0.cell 0; have qU10 := U1.cell 0; have qU11 := U1.cell 1; have fU10 := U1.free 0; have fU11 := U1.free 1)
        | (go_at_call 136; refine (HR.out _ A1 c1 r2).mono ?_; rintro e w9 ⟨A9, c9, rfl, n9, hb9⟩; have L1 := U1.lt; have W2 := U1.step hb9; have qW20 := W2.cell 0; have qW21 := W2.cell 1; have fW20 := W2.free 0; have fW21 := W2.free 1))
      exact ret_vecE Tryz.results45 rfl rfl rfl (W2.put2 _ _) (RetE.mk' (v := ⟨y, false⟩) ((n9.far2 L1 _ _).mono B1.size) (below_set2 (below_step B1 hb9) (by omega) _ _))
end Go.Proofs.YtognpmggfplekaaGreatDoor

namespace Go.Proofs.YtognpmggfplekaaGreatDoor
open Go Go.RowKit Go.Shelf
attribute [local go_sem] Oper.semAt_some

def dn (n k : Nat) : List Nat := (List.range k).map fun j => n - 1 - j
theorem dn_succ (n k : Nat) : dn n (k + 1) = dn n k ++ [n - 1 - k] := by simp [dn, List.range_succ]
theorem dn_len (n k : Nat) : (dn n k).length = k := by simp [dn]
structure Cv where
  A : Option Addr
  n : Nat
  c : Nat
  s : Bool
def Cv.val (x : Cv) : Value := .agg #[.slice x.A x.n x.c, .bool x.s]
def Vs (B : Nat) (w : World) (X : Option Addr) (k : Nat) (f : Nat → Cv) : Prop := 0 < k → ∃ b o, X = some ⟨b, o, none⟩ ∧ b < B ∧ ∀ j, j < k → w.cell? ⟨b, o + j * 2, none⟩ = some (.slice (f j).A (f j).n (f j).c) ∧ w.cell? ⟨b, o + j * 2 + 1, none⟩ = some (.bool (f j).s)
def KpB (n₀ Bs : Nat) (W W' : World) : Prop := Below n₀ W W' ∧ ∀ s, W.cell? ⟨Bs, 0, none⟩ = some s → W'.cell? ⟨Bs, 0, none⟩ = some s
theorem kpB_t {n₀ Bs : Nat} {A B C : World} (h : KpB n₀ Bs A B) (k : KpB n₀ Bs B C) : KpB n₀ Bs A C := ⟨h.1.trans k.1, fun s hs => k.2 s (h.2 s hs)⟩
theorem kpB_b {n₀ Bs : Nat} {w : World} (hn : n₀ ≤ w.heap.size) (W : World) (l : Nat) (o o' : Obj) (hl : w.heap.size ≤ l) (h : W.heap[l]? = some o) (hc : o.isCells = false) (hw : o.isWalk = false) : KpB n₀ Bs W (W.putObj l o') :=
  ⟨belowK_b hn W l o o' hl h hc hw, fun s hs => cell_kept hs (grownBy_putObj' W l o') (fun r e => by cases e; exact ⟨_, h, hc⟩)⟩
set_option maxHeartbeats 2000000 in
theorem bw1_in (F : Fence) (n : Nat) (hF : F.fn 198) (hro : F.round = none) (hn : 1 ≤ n) (l Bs n₀ len cap : Nat) (X : Option Addr) (f : Nat → Cv) (hl : len ≤ 1000) (J Jx : List Nat → World → Prop)
    (hY : ∀ (pre : List Nat) (x : Nat) (W : World), J pre W → pre.length < len → YieldAt F (n - 1) Tryz.prog l #[.int .i64 (x : Int), (f x).val] W fun e W' =>
      (e = .returned (.bool true) ∧ J (pre ++ [x]) W' ∧ KpB n₀ Bs W W') ∨ (e = .returned (.bool false) ∧ Jx (pre ++ [x]) W'))
    (W : World) (hBs1 : W.cell? ⟨Bs, 0, none⟩ = some (.slice X len cap)) (hV : Vs n₀ W X len f) (h0 : J [] W) :
    CallsIn F n Tryz.prog 198 #[.func (.yield l) #[] #[], .pointer (some ⟨Bs, 0, none⟩)] W fun e W' => (∃ v, e = .returned v) ∧
      ((∃ ys, ys = dn len len ∧ J ys W') ∨ (∃ pre, (∃ k, k ≤ len ∧ pre = dn len k) ∧ Jx pre W')) := by
  refine callsIn_of_wp Tryz.func198 rfl hF ?_ hro
  simp only [Tryz.ntmps198, List.size_toArray, List.length_cons, List.length_nil, Nat.reduceAdd, Nat.reduceSub, Array.replicate_succ, Array.replicate_zero, List.push_toArray, List.append_toArray, List.nil_append, List.cons_append]
  gi_wp2
  gi_loopw [3] (fun i wr => ∃ k : Nat, k ≤ len ∧ i = .int .i64 ((len : Int) - 1 - k) ∧ J (dn len k) wr ∧ KpB n₀ Bs W wr)
    (fun i _ => (intOf i + 1).toNat)
  case atStart => exact ⟨0, Nat.zero_le _, by go_num, h0, Below.refl _ _, fun _ h => h⟩
  case round =>
    obtain ⟨k, hk, rfl, hJs, hnx⟩ := hrel
    by_cases hlt : k < len
    · obtain ⟨fn, tmps, assign, body, hy, hR⟩ := hY _ (len - 1 - k) wr hJs (by rw [dn_len]; exact hlt)
      obtain ⟨j, hj⟩ : ∃ j : Nat, len - 1 - k = j := ⟨_, rfl⟩
      have hi : (len : Int) - 1 - k = j := by omega
      rw [hi]
      rw [hj] at hy hR
      obtain ⟨b, o, rfl, hb, hc⟩ := hV (by omega)
      have hcs := hnx.2 _ hBs1
      have hc0 := (hnx.1.cell (p := ⟨b, o + j * 2, none⟩) hb).trans (hc j (by omega)).1
      have hc1 := (hnx.1.cell (p := ⟨b, o + j * 2 + 1, none⟩) hb).trans (hc j (by omega)).2
      have hjl : (j : Int) < len := by omega
      unfold Cv.val at hy
      generalize f j = x at *
      obtain ⟨A1, n1, c1, s1⟩ := x
      dsimp only at hy hc0 hc1
      clear hc hV
      gi_wp2
      refine hR.mono ?_
      rintro e W3 (⟨rfl, hJ3, hk3⟩ | ⟨rfl, hJx3⟩)
      · gi_wp2
        go_roundw
        case rel => exact ⟨k + 1, by omega, by go_num, by rw [dn_succ, hj]; exact hJ3, kpB_t hnx hk3⟩
        case measure => simp [intOf] <;> omega
      · gi_wp2
        refine bodyPost_ret (results_none rfl _ _ _) rfl ?_
        exact ⟨⟨_, rfl⟩, .inr ⟨_, ⟨k + 1, by omega, by rw [dn_succ, hj]⟩, hJx3⟩⟩
    · obtain rfl : k = len := by omega
      rw [show (k : Int) - 1 - k = -1 by omega]
      gi_wp2
      go_end0
      exact ⟨⟨_, rfl⟩, .inl ⟨_, rfl, hJs⟩⟩
theorem Vs.below {B : Nat} {w u : World} {X : Option Addr} {k : Nat} {f : Nat → Cv} (hb : Below B w u) (h : Vs B w X k f) : Vs B u X k f := fun hk => by
  obtain ⟨b, o, e, hlt, hc⟩ := h hk
  exact ⟨b, o, e, hlt, fun j hj => ⟨(hb.cell (p := ⟨b, o + j * 2, none⟩) hlt).trans (hc j hj).1, (hb.cell (p := ⟨b, o + j * 2 + 1, none⟩) hlt).trans (hc j hj).2⟩⟩
theorem bw_in (F : Fence) (n : Nat) (hF : F.fn 135) (hro : F.round = none) (X : Option Addr) (len cap : Nat) (w : World) :
    CallsIn F n Tryz.prog 135 #[.slice X len cap] w fun e w' => e = .returned (.func (.func 198) #[] #[.pointer (some ⟨w.heap.size, 0, none⟩)]) ∧ w' = w.alloc (.cells #[.slice X len cap] 58) := by
  refine callsIn_of_wp Tryz.func135 rfl hF ?_ hro
  simp only [Tryz.ntmps135, List.size_toArray, List.length_cons, List.length_nil, Nat.reduceAdd, Nat.reduceSub, Array.replicate_succ, Array.replicate_zero, List.push_toArray, List.append_toArray, List.nil_append, List.cons_append]
  gi_wp2
  go_ret
  exact ⟨rfl, rfl⟩
theorem bw_stops (F : Fence) (n : Nat) (hF : F.fn 198) (hro : F.round = none) (hn : 1 ≤ n) (Bs n₀ len cap : Nat) (X : Option Addr) (f : Nat → Cv) (hl : len ≤ 1000) (w : World) (hBs : Bs < w.heap.size) (hn₀ : n₀ ≤ w.heap.size)
    (hc : w.cell? ⟨Bs, 0, none⟩ = some (.slice X len cap)) (hV : Vs n₀ w X len f) :
    SeqStopsK F n Tryz.prog 198 #[.pointer (some ⟨Bs, 0, none⟩)] (fun x : Nat => #[Value.int .i64 (x : Int), (f x).val]) (KpB n₀ Bs) (fun ys => ys = dn len len) (fun pre => ∃ k, k ≤ len ∧ pre = dn len k) len w := fun l J Jx W hW _ _ hY h0 => by
  have hW' : Below n₀ w W := hW.mono hn₀
  exact bw1_in F n hF hro hn l Bs n₀ len cap X f hl J Jx hY W ((hW.cell (p := ⟨Bs, 0, none⟩) hBs).trans hc) (hV.below hW') h0
end Go.Proofs.YtognpmggfplekaaGreatDoor

namespace Go.Proofs.YtognpmggfplekaaGreatDoor
open Go Go.RowKit Go.Shelf
attribute [local go_sem] Oper.semAt_some

def catL (v : Nat → V) (l : List Nat) : List Int := l.flatMap fun j => (nrm (v j)).l
theorem catL_snoc (v : Nat → V) (l : List Nat) (j : Nat) : catL v (l ++ [j]) = catL v l ++ (nrm (v j)).l := by simp [catL]
def coE (n : Nat) (v : Nat → V) : Int := if n = 0 then 4 else if 128 < (catL v (dn n n)).length then 12 else 0
def coV (n : Nat) (v : Nat → V) : V := if coE n v = 0 then ⟨catL v (dn n n), false⟩ else nilV
def Rv (w : World) (f : Nat → Cv) (v : Nat → V) : Prop := ∀ j, Rb w (f j).A (f j).n (v j).l ∧ (f j).s = (v j).s
theorem Nb.grownT {u u' : World} {B : Nat} {A : Option Addr} {n c : Nat} {l : List Int} {g : Nat} {T : TypeId} {cs : Array Value} (h : Nb u B A n c l) (O : Own u g T cs) (hT : T ≠ 48) (hg : u.grownBy u' (some g)) : Nb u' B A n c l := by
  refine ⟨h.1, h.2.1, h.2.2.1, h.2.2.2.imp id fun ⟨k, cap, cur, h1, h2, h3, h4⟩ => ⟨k, cap, cur, h1, h2, ?_, h4⟩⟩
  refine Own.grown h3 hg (fun e => ?_)
  simp only [Option.some.injEq] at e
  subst e
  have h5 : u.heap[k]? = _ := O
  rw [h5] at h3
  simp at h3
  exact hT h3.2
theorem Own.grownT {u u' : World} {g h : Nat} {S : TypeId} {cs' : Array Value} (H : Own u h S cs') (hne : h ≠ g) (hg : u.grownBy u' (some g)) : Own u' h S cs' := Own.grown H hg (by simpa using hne)
theorem keeps_below {w u : World} (h : Below w.heap.size w u) : KeepsOthers w u := ⟨h.size, fun k _o hk _ => (h.block k (Array.getElem?_eq_some_iff.1 hk).1).trans hk⟩
structure SC (w W0 W : World) (X : Option Addr) (n c Bx : Nat) (x : Cv) (u : World) : Prop where
  r0 : Own u w.heap.size 24 #[.slice none 0 0, .bool false]
  r1 : Own u (w.heap.size + 1) 45 #[.int .i64 0]
  r4 : Own u (w.heap.size + 1 + 1 + 1 + 1) 58 #[.slice X n c]
  bx : Own u Bx 24 #[.slice x.A x.n x.c, .bool x.s]
  blw : Below w.heap.size w u
  kf : KeepsFrom W0.heap.size W u
section
variable {w W0 W u u' : World} {X : Option Addr} {n c Bx : Nat} {x : Cv}
instance : Stb (SC w W0 W X n c Bx x) := ⟨fun _u _u' hb h => ⟨h.r0.step hb, h.r1.step hb, h.r4.step hb, h.bx.step hb, below_step h.blw hb, h.kf.trans ((keeps_below hb).from _)⟩⟩
theorem keeps_cells {u u' : World} {row : Option Nat} (hg : u.grownBy u' row) (hr : ∀ r, row = some r → ∃ T cs, Own u r T cs) : KeepsOthers u u' := ⟨hg.size, fun k o hk ho => (hg.block k (Array.getElem?_eq_some_iff.1 hk).1 (fun e => by
  obtain ⟨T, cs, O⟩ := hr k e.symm
  have h1 : u.heap[k]? = _ := O
  rw [h1] at hk; cases hk; cases ho)).trans hk⟩
instance : Sgr w.heap.size (SC w W0 W X n c Bx x) := ⟨fun u u' row hr hg hB h =>
  ⟨Own.grown h.r0 hg (rowB_ne hr (by decide) h.r0), Own.grown h.r1 hg (rowB_ne hr (by decide) h.r1), Own.grown h.r4 hg (rowB_ne hr (by decide) h.r4), Own.grown h.bx hg (rowB_ne hr (by decide) h.bx), Below.grown h.blw hg hB (fun k hk => (hr k hk).1), h.kf.trans ((keeps_cells hg (fun r e => ⟨_, (hr r e).2⟩)).from _)⟩⟩
theorem SC.cell {T : TypeId} {cs : Array Value} {q : Value} (h : SC w W0 W X n c Bx x u) (O : Own u (w.heap.size + 1 + 1 + 1) T cs) (hT : T ≠ 24) : SC w W0 W X n c Bx x (u.setCell ⟨w.heap.size + 1 + 1 + 1, 0, none⟩ q) := by
  have hg := grownBy_setCell' u (w.heap.size + 1 + 1 + 1) q
  refine ⟨h.r0.grownT (by omega) hg, h.r1.grownT (by omega) hg, h.r4.grownT (by omega) hg, Own.grown h.bx hg (fun e => ?_), Below.grown h.blw hg h.blw.size (fun k hk => by cases hk; omega), h.kf.trans ((keeps_cells hg (fun r e => by cases e; exact ⟨_, _, O⟩)).from _)⟩
  simp only [Option.some.injEq] at e
  subst e
  have h5 : u.heap[w.heap.size + 1 + 1 + 1]? = _ := O
  have h6 := h.bx
  unfold Own at h6
  rw [h5] at h6
  simp at h6
  exact hT h6.2
end
instance (B g : Nat) (T : TypeId) [h : NotBit T] (cs : Array Value) : Sgr B (ownT g T cs) := inferInstance
instance : NotBit 22 := ⟨by decide⟩
theorem wp_load1 {o : Oper} {a : Act} {w : World} {K : Act → World → Prop} {Q : Exit → Act → World → Prop} (x : Operand) (ho : o.op = .load 22 x)
    {g : Nat} (hx : a.eval x = .pointer (some ⟨g, 0, none⟩)) {t : TypeId} {A : Option Addr} {n c : Nat} (O : Own w g t #[.slice A n c])
    (h : K (a.put o.dst (.slice A n c)) w) : o.wp Tryz.prog a w K Q := by
  have h1 := O.cell 0
  have h2 : (Instr.loadAt 22 (.pointer (some ⟨g, 0, none⟩))).run Tryz.prog w = .ok (.slice A n c) w := by
    simp [go_sem, h1]
  unfold Oper.wp execOp
  simp only [ho, hx, Sem.run_bind, h2, Result.andThen_ok, Sem.run_pure]
  exact h
theorem wp_store1 {o : Oper} {a : Act} {w : World} {K : Act → World → Prop} {Q : Exit → Act → World → Prop} (x y : Operand) (ho : o.op = .store 22 x y)
    {g : Nat} (hx : a.eval x = .pointer (some ⟨g, 0, none⟩)) {A : Option Addr} {n c : Nat} (hy : a.eval y = .slice A n c) {t : TypeId} {r : Value} (O : Own w g t #[r])
    (h : K (a.put o.dst undef) (w.setCell ⟨g, 0, none⟩ (.slice A n c))) : o.wp Tryz.prog a w K Q := by
  have h1 := O.cell 0
  have h2 := O.free 0
  have h3 : (Instr.storeAt 22 (.pointer (some ⟨g, 0, none⟩)) (.slice A n c)).run Tryz.prog w = .ok () (w.setCell ⟨g, 0, none⟩ (.slice A n c)) := by
    simp [go_sem, h1, h2]
  unfold Oper.wp execOp
  simp only [ho, hx, hy, Sem.run_bind, h3, Result.andThen_ok, Sem.run_pure]
  exact h
theorem wpIn_val {P : Program} {l N : Nat} {o : Oper} {a : Act} {w w' : World} {K : Act → World → Prop} {Q : Exit → Act → World → Prop} {q : Value} (hnd : ∀ c, o.op ≠ .defer c) (hrun : (execOp a.eval o).run P w = .ok (.value q) w') (h : K (a.put o.dst q) w') : o.wpIn (Fence.wide.inRound l) N P a w K Q :=
  wpIn_of_wp hnd (fun r args w'' e => by rw [hrun] at e; cases e) (by unfold Oper.wp; rw [hrun]; exact h)
theorem wpIn_cat {l₀ N B : Nat} {o : Oper} {a : Act} {w : World} {K : Act → World → Prop} {Q : Exit → Act → World → Prop} (s x : Operand)
    (ho : o.op = .call { callee := .builtin .append, args := #[s, x], argTypes := #[22, 22] }) (hty : o.type = 22) (hbase : B ≤ w.heap.size)
    {A : Option Addr} {n c : Nat} {l : List Int} (hs : a.eval s = .slice A n c) (hv : Nb w B A n c l) {X : Option Addr} {m d : Nat} {y : List Int} (hx : a.eval x = .slice X m d) (hr : Rb w X m y) (hn : n + m ≤ 1000000)
    (h : ∀ A' c' w', Nb w' B A' (n + m) c' (l ++ y) → w.grownBy w' (Value.slice A n c).ownBlock → K (a.put o.dst (.slice A' (n + m) c')) w') : o.wpIn (Fence.wide.inRound l₀) N Tryz.prog a w K Q := by
  obtain ⟨A', c', w', hrun, h2, h3⟩ := run_catV (d := d) hbase hv hr hn
  refine wpIn_val (w' := w') (q := .slice A' (n + m) c') (fun c e => by rw [ho] at e; cases e) ?_ (h _ _ _ h2 h3)
  unfold execOp
  simp only [ho, hty, resolve, invoke, builtin, Sem.run_bind, Sem.run_pure, Result.andThen_ok, List.map_toArray, List.map_cons, List.map_nil, hs, hx, hrun]
theorem Own.kept {W W' : World} {row : Option Nat} {g : Nat} {t : TypeId} {cs : Array Value} (O : Own W g t cs) (hg : W.grownBy W' row) (hr : ∀ r, row = some r → ∃ o : Obj, W.heap[r]? = some o ∧ o.isCells = false) : Own W' g t cs :=
  Own.grown O hg (fun e => by
    obtain ⟨o, ho, hc⟩ := hr g e.symm
    have h1 : W.heap[g]? = _ := O
    rw [h1] at ho; cases ho; cases hc)
theorem Nb.kept {W W' : World} {row : Option Nat} {B : Nat} {A : Option Addr} {n c : Nat} {l : List Int} (h : Nb W B A n c l) (hg : W.grownBy W' row) (hr : ∀ r, row = some r → ∃ o : Obj, W.heap[r]? = some o ∧ o.isCells = false) : Nb W' B A n c l := by
  refine ⟨h.1, h.2.1, h.2.2.1, h.2.2.2.imp id fun ⟨g, cap, cur, h1, h2, h3, h4⟩ => ⟨g, cap, cur, h1, h2, ?_, h4⟩⟩
  exact Own.kept h3 hg hr
def isSl (n : Nat) (l : List Int) : Value → World → Prop := fun q u => ∃ A c, q = .slice A n c ∧ Rb u A n l
instance (n : Nat) (l : List Int) : StV (isSl n l) := ⟨fun _ _ _ hb ⟨A, c, h1, h2⟩ => ⟨A, c, h1, h2.step hb⟩⟩
def didB (B g n : Nat) (l : List Int) : Value → World → Prop := fun _ u => ∃ A c, Own u g 22 #[.slice A n c] ∧ Nb u B A n c l
instance (B g n : Nat) (l : List Int) : StV (didB B g n l) := ⟨fun _ _ _ hb ⟨A, c, h1, h2⟩ => ⟨A, c, h1.step hb, h2.step hb⟩⟩
theorem results_vecF {fn : Func} {p q : Tmp} {g h : Nat} {U : World} {x y z : Value} (hres : fn.results = #[.cell p 24, .cell q 45]) {tmps : Array Value} (hp : tmps.getD p undef = .pointer (some ⟨g, 0, none⟩)) (hq : tmps.getD q undef = .pointer (some ⟨h, 0, none⟩))
    (O : Own U g 24 #[x, y]) (O' : Own U h 45 #[z]) : (results fn tmps).run Tryz.prog U = .ok (.tuple #[.agg #[x, y], z]) U := by
  have h0 := O.cell 0
  have h1 := O.cell 1
  have h2 := O'.cell 0
  have hp' : tmps[p]?.getD undef = .pointer (some ⟨g, 0, none⟩) := by simpa using hp
  have hq' : tmps[q]?.getD undef = .pointer (some ⟨h, 0, none⟩) := by simpa using hq
  simp [results, hres, go_sem, h0, h1, h2, hp', hq']
theorem catL_mono (v : Nat → V) (n : Nat) : ∀ k m, k ≤ m → (catL v (dn n k)).length ≤ (catL v (dn n m)).length
  | k, 0, h => by obtain rfl : k = 0 := by omega
                  exact Nat.le_refl _
  | k, m + 1, h => by
    rcases Nat.lt_or_ge k (m + 1) with h1 | h1
    · refine Nat.le_trans (catL_mono v n k m (by omega)) ?_
      rw [dn_succ, catL_snoc, List.length_append]; omega
    · obtain rfl : k = m + 1 := by omega
      exact Nat.le_refl _
set_option maxHeartbeats 4000000 in
theorem concat_v (X : Option Addr) (n c : Nat) (f : Nat → Cv) (v : Nat → V) (w : World) (hV : Vs w.heap.size w X n f) (hR : Rv w f v) (hn : n ≤ 1000) :
    Calls Tryz.prog 43 #[.slice X n c] w (RetE w (coV n v) (coE n v)) := by
  have O0 := (Own.at1 w 24 #[.slice none 0 0, .bool false] (g := w.heap.size) (by simp)).alloc (.cells #[.int .i64 0] 45)
  have O1 := Own.at1 (w.alloc (.cells #[.slice none 0 0, .bool false] 24)) 45 #[.int .i64 0] (g := w.heap.size + 1) (by simp)
  have BB := (below_new (below_new (Below.refl w.heap.size w) (.cells #[.slice none 0 0, .bool false] 24)) (.cells #[.int .i64 0] 45))
  by_cases h0 : n = 0
  · subst h0
    have e1 : coE 0 v = 4 := rfl
    have e2 : coV 0 v = nilV := rfl
    rw [e1, e2]
    have qO00 := O0.cell 0; have qO01 := O0.cell 1; have fO00 := O0.free 0; have fO01 := O0.free 1
    have qO10 := O1.cell 0; have fO10 := O1.free 0
    clear hV hR
    go_enter Tryz.func43, Tryz.ntmps43
    go_wp2
    have P0 := (Own.at1 w 24 #[.slice none 0 0, .bool false] (g := w.heap.size) (by simp)).alloc (.cells #[.int .i64 4] 45)
    have P1 := Own.at1 (w.alloc (.cells #[.slice none 0 0, .bool false] 24)) 45 #[.int .i64 4] (g := w.heap.size + 1) (by simp)
    exact bodyPost_ret (results_vecF Tryz.results43 rfl rfl P0 P1) rfl (RetE.mk' (v := nilV) (Nb.nil _ _) (below_new (below_new (Below.refl w.heap.size w) _) _))
  · refine (callsIn_wide (n := 6)).1 ?_
    refine callsIn_of_wp_marks Tryz.func43 rfl trivial ?_ rfl
    simp only [Tryz.ntmps43, List.size_toArray, List.length_cons, List.length_nil, Nat.reduceAdd, Nat.reduceSub, Array.replicate_succ, Array.replicate_zero, List.push_toArray, List.append_toArray, List.nil_append, List.cons_append]
    gi_wp2_with (refine ⟨trivial, ?_⟩; gi_at_call 135; refine (bw_in _ _ trivial rfl _ _ _ _).mono ?_; rintro e w' ⟨rfl, rfl⟩)
    have N2 : Nb (((w.alloc (.cells #[.slice none 0 0, .bool false] 24)).alloc (.cells #[.int .i64 0] 45)).alloc (.cells #[] 48)) w.heap.size (some ⟨w.heap.size + 1 + 1, 0, none⟩) 0 0 [] :=
      Nb.of_own (Own.at1 _ 48 (ia []) (g := w.heap.size + 1 + 1) (by simp)) (fun _ h => by simp at h) rfl (by omega) (Nat.zero_le _)
    have P0 := O0.alloc (.cells #[] 48)
    have P1 := O1.alloc (.cells #[] 48)
    have B2 := below_new BB (.cells #[] 48)
    obtain ⟨W1, hW1⟩ : ∃ W1, ((w.alloc (.cells #[.slice none 0 0, .bool false] 24)).alloc (.cells #[.int .i64 0] 45)).alloc (.cells #[] 48) = W1 := ⟨_, rfl⟩
    have hs1 : W1.heap.size = w.heap.size + 1 + 1 + 1 := by rw [← hW1]; simp
    rw [hW1] at N2 P0 P1 B2 ⊢
    clear hW1
    have P3 := (Own.at1 W1 22 #[.slice (some ⟨w.heap.size + 1 + 1, 0, none⟩) 0 0] hs1).alloc (.cells #[.slice X n c] 58)
    have P4 := Own.at1 (W1.alloc (.cells #[.slice (some ⟨w.heap.size + 1 + 1, 0, none⟩) 0 0] 22)) 58 #[.slice X n c] (g := w.heap.size + 1 + 1 + 1 + 1) (by simp [hs1])
    replace P0 := (P0.alloc (.cells #[.slice (some ⟨w.heap.size + 1 + 1, 0, none⟩) 0 0] 22)).alloc (.cells #[.slice X n c] 58)
    replace P1 := (P1.alloc (.cells #[.slice (some ⟨w.heap.size + 1 + 1, 0, none⟩) 0 0] 22)).alloc (.cells #[.slice X n c] 58)
    replace N2 := (N2.alloc (.cells #[.slice (some ⟨w.heap.size + 1 + 1, 0, none⟩) 0 0] 22)).alloc (.cells #[.slice X n c] 58)
    replace B2 := below_new (below_new B2 (.cells #[.slice (some ⟨w.heap.size + 1 + 1, 0, none⟩) 0 0] 22)) (.cells #[.slice X n c] 58)
    obtain ⟨W0, hW0⟩ : ∃ W0, (W1.alloc (.cells #[.slice (some ⟨w.heap.size + 1 + 1, 0, none⟩) 0 0] 22)).alloc (.cells #[.slice X n c] 58) = W0 := ⟨_, rfl⟩
    have hs0 : W0.heap.size = w.heap.size + 1 + 1 + 1 + 1 + 1 := by rw [← hW0]; simp [hs1]
    rw [hW0] at N2 P0 P1 P3 P4 B2 ⊢
    clear hW0 hs1 O0 O1 BB
    refine wpIn_rangeFunc_ownH rfl (by decide) (gf := 198) (lb := #[.pointer (some ⟨w.heap.size + 1 + 1 + 1 + 1, 0, none⟩)]) rfl trivial (enters_of Tryz.func198 (by kernel_rfl) rfl)
      (bw_stops Fence.wide (6 - 1) trivial rfl (by decide) (w.heap.size + 1 + 1 + 1 + 1) w.heap.size n c X f hn W0 (by omega) (by omega) (P4.cell 0) (hV.below B2)) kpB_t (kpB_b (by omega)) (Below.refl _ _) (fun _ => rfl)
      (fun pre W => (∃ A m d, Own W (w.heap.size + 1 + 1 + 1) 22 #[.slice A m d] ∧ Nb W w.heap.size A m d (catL v pre) ∧ m ≤ 128) ∧ (Own W w.heap.size 24 #[.slice none 0 0, .bool false] ∧ Own W (w.heap.size + 1) 45 #[.int .i64 0] ∧ Own W (w.heap.size + 1 + 1 + 1 + 1) 58 #[.slice X n c]) ∧ Below w.heap.size w W)
      (fun cd pre W => (cd = .ret ∧ 128 < (catL v pre).length ∧ Own W w.heap.size 24 #[.slice none 0 0, .bool false] ∧ Own W (w.heap.size + 1) 45 #[.int .i64 12]) ∧ Below w.heap.size w W)
      ?hI ?hIx ⟨⟨_, _, _, P3, N2, by decide⟩, ⟨P0, P1, P4⟩, B2⟩
      (fun x a' W => ∃ Bx, W0.heap.size ≤ Bx ∧ Own W Bx 24 #[.slice (f x).A (f x).n (f x).c, .bool (f x).s] ∧ a' = { tmps := #[.slice X n c, undef, .pointer (some ⟨w.heap.size, 0, none⟩), .pointer (some ⟨w.heap.size + 1, 0, none⟩), .pointer (some ⟨w.heap.size + 1 + 1 + 1, 0, none⟩), undef, .pointer (some ⟨Bx, 0, none⟩), .slice X n c, .int .i64 n, .bool false, undef, .slice (some ⟨w.heap.size + 1 + 1, 0, none⟩) 0 0, .slice X n c, .func (.func 198) #[] #[.pointer (some ⟨w.heap.size + 1 + 1 + 1 + 1, 0, none⟩)], .int .i64 (x : Nat), .agg #[.slice (f x).A (f x).n (f x).c, .bool (f x).s], undef, undef, undef, undef, undef, undef, undef, undef, undef, undef, undef], defers := [] })
      ?hAx ?assign ?body ?done ?stop
    case hI =>
      rintro pre A B row ⟨⟨A1, m1, d1, q1, q2, q3⟩, ⟨q4, q5, q6⟩, q7⟩ hg hr
      have hr' := fun r e => (hr r e).2
      exact ⟨⟨A1, m1, d1, q1.kept hg hr', q2.kept hg hr', q3⟩, ⟨q4.kept hg hr', q5.kept hg hr', q6.kept hg hr'⟩, q7.grown hg q7.size (fun k e => by have := (hr k e).1; omega)⟩
    case hIx =>
      rintro cd pre A B row ⟨⟨q1, q2, q4, q5⟩, q7⟩ hg hr
      have hr' := fun r e => (hr r e).2
      exact ⟨⟨q1, q2, q4.kept hg hr', q5.kept hg hr'⟩, q7.grown hg q7.size (fun k e => by have := (hr k e).1; omega)⟩
    case hAx =>
      rintro x a' _ A B row ⟨Bx, q1, q2, q3⟩ hg hr
      exact ⟨Bx, q1, q2.kept hg (fun r e => (hr r e).2), q3⟩
    case assign =>
      rintro l pre x W K ⟨⟨A1, m1, d1, q1, q2, q3⟩, ⟨q4, q5, q6⟩, q7⟩ hK
      unfold Cv.val
      gi_wp2
      refine hK _ _ ((KeepsOthers.alloc _ _).from _) ⟨(Below.refl _ W).alloc q7.size _, fun s hs => (cell_step (below_new (Below.refl _ _) _) hs)⟩ ⟨⟨A1, m1, d1, q1.alloc _, q2.alloc _, q3⟩, ⟨q4.alloc _, q5.alloc _, q6.alloc _⟩, below_new q7 _⟩ ⟨W.heap.size, ?_, Own.new _ _ _, rfl⟩
      have := q6.lt
      omega
    case body =>
      rintro l pre x a' W hl hr ⟨⟨A1, m1, d1, q1, q2, q3⟩, ⟨q4, q5, q6⟩, q7⟩ ⟨Bx, hBx, bX, rfl⟩ hlt
      have k1 := q1.cell 0
      have k2 := q1.free 0
      have k3 := bX.cell 0
      have k4 := bX.cell 1
      have hrd := Lib.hid (fun (u : World) (hu : Below w.heap.size w u) => (hR x).1.step hu)
      have hlx := nrm_len (v x)
      have hS0 : SC w W0 W X n c Bx (f x) W.drew := ⟨q4, q5, q6, bX, q7.drew, (KeepsOthers.drew W).from _⟩
      have hP4 : nbs w.heap.size A1 m1 d1 (catL v pre) W.drew := q2
      have hP5 : ownT (w.heap.size + 1 + 1 + 1) 22 #[.slice A1 m1 d1] W.drew := q1
      gi_wp2
      refine region_i (by kernel_rfl) (fun u => SC w W0 W X n c Bx (f x) u) [tru, tru, tru, tru, nbs w.heap.size A1 m1 d1 (catL v pre), ownT (w.heap.size + 1 + 1 + 1) 22 #[.slice A1 m1 d1]] [isV (.slice A1 m1 d1), isV (.agg #[.slice (f x).A (f x).n (f x).c, .bool (f x).s]), isR (nrm (v x)), isSl (nrm (v x)).l.length (nrm (v x)).l, isNbL w.heap.size (m1 + (nrm (v x)).l.length) (catL v pre ++ (nrm (v x)).l), didB w.heap.size (w.heap.size + 1 + 1 + 1) (m1 + (nrm (v x)).l.length) (catL v pre ++ (nrm (v x)).l)] [some 16, some 17, some 18, some 19, some 20, none] [[], [], [1], [2], [0, 3, 2], [4, 4, 0, 1, 2, 3, 4]] [[], [], [1], [2], [0, 3, 2], [4]] [[], [], [], [], [2, 3], [2, 3]] [[], [], [], [], [2, 3, 5], [2, 3]] (by kernel_rfl) (by kernel_rfl) (by kernel_rfl) (by kernel_rfl) (by kernel_rfl) rfl (by kernel_rfl) (by kernel_rfl) (by kernel_rfl) hS0 (by
        intro U hU
        simp only [List.mem_cons, List.not_mem_nil, or_false] at hU
        rcases hU with rfl | rfl | rfl | rfl | rfl | rfl
        all_goals first | trivial | exact hP4 | exact hP5) ?_ ?_
      · refine ⟨?_, ?_, ?_, ?_, ?_, ?_, trivial⟩
        · intro a w' hS hO hF' hP K hK; have ha := hO 4 (by rfl); have O := hP 5 _ (by rfl) rfl; refine if_ok (by rfl) ?_; refine wpIn_of_wp (by intro c h; cases h) (fun _ _ _ => norow_v) ?_; refine wp_load1 _ rfl (ev ha) O ?_; exact hK _ w' nofun (keepK_same hS) rfl
        · intro a w' hS hO hF' hP K hK; have ha := hO 6 (by rfl); refine if_ok (by rfl) ?_; refine wpIn_of_wp (by intro c h; cases h) (fun _ _ _ => norow_v) ?_; refine wp_load_row 24 (.tmp 6) rfl Bx (ev ha) _ _ (0, 0) _ hS.bx Tryz.underlying24 rfl (by kernel_rfl) ?_; exact hK _ w' nofun (keepK_same hS) rfl
        · intro a w' hS hO hF' hP K hK; obtain ⟨_, f0, rfl⟩ := (hF' 1 rfl).1 17 _ rfl rfl; refine if_ok (by rfl) ?_; refine wpIn_of_wp (by intro c h; cases h) (fun _ _ _ h => by cases h) ?_; refine wp_calls rfl (enters_of Tryz.func117 (by kernel_rfl) rfl) (args := #[.agg #[.slice (f x).A (f x).n (f x).c, .bool (f x).s]]) (by simp [Act.eval, f0]) ?_; rw [(hR x).2]; refine (operand_any _ _ _ (v x).s (v x).l _ (hrd.out _ hS.blw)).mono ?_; rintro e w2 ⟨A2, c2, rfl, r2, hb2⟩; exact ⟨_, rfl, hK _ w2 nofun (keepK_below hb2 hS) ⟨A2, c2, rfl, r2⟩⟩
        · intro a w' hS hO hF' hP K hK; obtain ⟨_, f0, A2, c2, rfl, r2⟩ := (hF' 2 rfl).1 18 _ rfl rfl; refine if_ok (by rfl) ?_; refine wpIn_of_wp (by intro c h; cases h) (fun _ _ _ => norow_v) ?_; unfold Oper.wp execOp; simp only [ev f0, Sem.run_bind, field0, Result.andThen_ok, Sem.run_pure]; exact hK _ w' nofun (keepK_same hS) ⟨A2, c2, rfl, r2⟩
        · intro a w' hS hO hF' hP K hK; obtain ⟨_, f0, rfl⟩ := (hF' 0 rfl).1 16 _ rfl rfl; obtain ⟨_, f1, A2, c2, rfl, r2⟩ := (hF' 3 rfl).1 19 _ rfl rfl; have hN := hP 4 _ (by rfl) rfl; refine if_ok (by rfl) ?_; refine wpIn_cat _ _ rfl rfl hS.blw.size (ev f0) hN (ev f1) r2 (by omega) ?_; intro A9 c9 w9 hN9 hg9; exact hK _ w9 nofun (keepK_grown hN.rowB hg9 hS.blw.size inferInstance ⟨inferInstance, inferInstance, inferInstance, inferInstance, inferInstance, trivial⟩ ⟨.inr inferInstance, .inr inferInstance, .inl rfl, .inl rfl, .inl rfl, .inl rfl, trivial⟩ hS) ⟨A9, c9, rfl, hN9⟩
        · intro a w' hS hO hF' hP K hK; have ha := hO 4 (by rfl); obtain ⟨_, f1, A2, c2, rfl, n2⟩ := (hF' 4 rfl).1 20 _ rfl rfl; have O := hP 5 _ (by rfl) rfl; refine if_ok (by rfl) ?_; refine wpIn_of_wp (by intro c h; cases h) (fun _ _ _ => norow_u) ?_; refine wp_store1 _ _ rfl (ev ha) (ev f1) O ?_; refine hK _ _ (fun _ => rfl) ⟨hS.cell O (by decide), fun j hj U hU h => ?_, fun j hj hk V hV q h => ?_⟩ ⟨A2, c2, O.put 0 _, n2.grownT O (by decide) (grownBy_setCell' _ _ _)⟩
          · rcases j with _ | _ | _ | _ | _ | _ | j
            all_goals simp at hU hj
            all_goals subst hU
            all_goals first | exact h | exact Nb.grownT h O (by decide) (grownBy_setCell' _ _ _)
          · rcases j with _ | _ | _ | _ | _ | _ | j
            all_goals simp at hV hj hk
            all_goals subst hV
            all_goals first | exact h | exact (let ⟨A3, c3, e, n3⟩ := h; ⟨A3, c3, e, n3.grownT O (by decide) (grownBy_setCell' _ _ _)⟩)
      · intro vs u hl hS hV
        match vs, hl, hV with
        | [v0, v1, v2, v3, v4, v5], _, hV =>
          simp only [puts, Act.put, List.setIfInBounds_toArray, List.set_cons_zero, List.set_cons_succ]
          obtain ⟨A2, c2, P9, N9⟩ := hV 5 _ rfl rfl
          clear hV
          have e9 : (catL v (pre ++ [x])) = catL v pre ++ (nrm (v x)).l := catL_snoc _ _ _
          have k0 := P9.cell 0
          obtain ⟨M, hM⟩ : ∃ M, m1 + (nrm (v x)).l.length = M := ⟨_, rfl⟩
          have hlM : (catL v (pre ++ [x])).length = M := by rw [e9, ← hM]; exact N9.len
          rw [hM] at N9 k0 P9
          have r0 := hS.r0
          have r1 := hS.r1
          have j0 := r0.cell 0
          have j1 := r0.cell 1
          have j2 := r0.free 0
          have j3 := r0.free 1
          have j4 := r1.cell 0
          have j5 := r1.free 0
          rw [← e9] at N9
          by_cases hB : 128 < M
          · have t1 : decide ((128 : Int) < M) = true := by simp; omega
            replace hB := Lib.hid hB
            replace hlM := Lib.hid hlM
            gi_wp2
            exact ⟨((hS.kf.trans ((KeepsOthers.setCell _ _ _).from _)).trans ((KeepsOthers.setCell _ _ _).from _)).trans ((KeepsOthers.setCell _ _ _).from _), ⟨rfl, by rw [hlM.out]; exact hB.out, (r0.put2 _ _).far (p := ⟨w.heap.size + 1, 0, none⟩) (by simp) _, (r1.far2 (g := w.heap.size) (by omega) _ _).put 0 _⟩, below_set (below_set2 hS.blw (Nat.le_refl _) _ _) (p := ⟨w.heap.size + 1, 0, none⟩) (by simp) _⟩
          · have t1 : decide ((128 : Int) < M) = false := by simp; omega
            replace hB := Lib.hid hB
            replace hlM := Lib.hid hlM
            gi_wp2
            have hWu : Below w.heap.size W u := ⟨hS.blw.os.trans q7.os.symm, hS.blw.tape.trans q7.tape.symm, hS.blw.output.trans q7.output.symm, hS.kf.size, fun k hk => (hS.blw.block k hk).trans (q7.block k hk).symm⟩
            have c4 := q6.cell 0
            have c5 := hS.r4.cell 0
            exact ⟨hS.kf, ⟨hWu, fun s hs => by rw [c4] at hs; rw [c5]; exact hs⟩, ⟨_, _, _, P9, N9, by have := hB.out; omega⟩, ⟨r0, r1, hS.r4⟩, hS.blw⟩
    case done =>
      rintro D xs W hD rfl ⟨⟨A1, m1, d1, q1, q2, q3⟩, ⟨q4, q5, q6⟩, q7⟩ hK
      have e1 : coE n v = 0 := by unfold coE; rw [if_neg h0, if_neg (by rw [q2.len]; omega)]
      have e2 : coV n v = ⟨catL v (dn n n), false⟩ := by unfold coV; rw [if_pos e1]
      have k1 := q1.cell 0
      have k2 := q4.cell 0
      have k3 := q4.cell 1
      have k4 := q4.free 0
      have k5 := q4.free 1
      have k6 := q5.cell 0
      have k7 := q5.free 0
      gi_wp2
      have R0 := q4.put2 (.slice A1 m1 d1) (.bool false)
      have R1 := (q5.far2 (g := w.heap.size) (by omega) (.slice A1 m1 d1) (.bool false)).put 0 (.int .i64 0)
      have R2 := R0.far (p := ⟨w.heap.size + 1, 0, none⟩) (by simp) (.int .i64 0)
      have hB9 := below_set (below_set2 q7 (Nat.le_refl _) (.slice A1 m1 d1) (.bool false)) (p := ⟨w.heap.size + 1, 0, none⟩) (by simp) (.int .i64 0)
      have hN9 := ((q2.setT q4 (by decide) 0 (.slice A1 m1 d1)).setT (q4.put 0 _) (by decide) 1 (.bool false)).setT (q5.far2 (g := w.heap.size) (by omega) (.slice A1 m1 d1) (.bool false)) (by decide) 0 (.int .i64 0)
      have hK' := (((KeepsOthers.setCell W ⟨w.heap.size, 0, none⟩ (.slice A1 m1 d1)).trans (KeepsOthers.setCell _ ⟨w.heap.size, 1, none⟩ (.bool false))).trans (KeepsOthers.setCell _ ⟨w.heap.size + 1, 0, none⟩ (.int .i64 0))).same D _ hK rfl
      rw [e1, e2]
      have hr : ∀ r, some D = some r → ∃ o : Obj, (((W.setCell ⟨w.heap.size, 0, none⟩ (.slice A1 m1 d1)).setCell ⟨w.heap.size, 1, none⟩ (.bool false)).setCell ⟨w.heap.size + 1, 0, none⟩ (.int .i64 0)).heap[r]? = some o ∧ o.isCells = false := fun r e => by cases e; exact ⟨_, hK', rfl⟩
      refine ⟨by simp, .inl ⟨_, _, rfl, run_takeDeferred hK', ?_⟩⟩
      refine ⟨_, results_vecF Tryz.results43 rfl rfl (R2.kept (grownBy_putObj' _ D (.deferred none)) hr) (R1.kept (grownBy_putObj' _ D (.deferred none)) hr), ?_⟩
      exact RetE.mk' (v := ⟨catL v (dn n n), false⟩) (hN9.kept (grownBy_putObj' _ D (.deferred none)) hr) (hB9.grown (grownBy_putObj' _ D (.deferred none)) hB9.size (fun k e => by cases e; have := q7.size; omega))
    case stop =>
      rintro D cd pre W hD ⟨k, hk, rfl⟩ ⟨⟨rfl, q2, q4, q5⟩, q7⟩ hK
      have e1 : coE n v = 12 := by unfold coE; rw [if_neg h0, if_pos (Nat.lt_of_lt_of_le q2 (catL_mono v n k n hk))]
      have e2 : coV n v = nilV := by unfold coV; rw [if_neg (by rw [e1]; decide)]
      rw [e1, e2]
      gi_wp2
      have hr : ∀ r, some D = some r → ∃ o : Obj, W.heap[r]? = some o ∧ o.isCells = false := fun r e => by cases e; exact ⟨_, hK, rfl⟩
      refine ⟨by simp, .inl ⟨_, _, rfl, run_takeDeferred hK, ?_⟩⟩
      refine ⟨_, results_vecF Tryz.results43 rfl rfl (q4.kept (grownBy_putObj' _ D (.deferred none)) hr) (q5.kept (grownBy_putObj' _ D (.deferred none)) hr), ?_⟩
      exact RetE.mk' (v := nilV) (Nb.nil _ _) (q7.grown (grownBy_putObj' _ D (.deferred none)) q7.size (fun k e => by cases e; omega))
end Go.Proofs.YtognpmggfplekaaGreatDoor
