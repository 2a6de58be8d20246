/-
  The walk of VecIntegers: it returns true. Conditions: the tables of package bit read as the program lays them.
-/
import Derived.Test.YtognpmggfplekaaGreatDoorPbJb
import Derived.Test.YtognpmggfplekaaGreatDoorPbJt
import Derived.Test.YtognpmggfplekaaGreatDoorPbJr
import Derived.Deep.Cut
set_option maxRecDepth 100000
namespace Go.Proofs.YtognpmggfplekaaGreatDoor
open Go Go.RowKit

theorem tmod_nat' {a : Int} (h : 0 ≤ a) : ∃ i : Nat, i < 31 ∧ Int.tmod a 31 = (i : Int) := by
  obtain ⟨b, rfl⟩ := Int.eq_ofNat_of_zero_le h
  exact ⟨b % 31, Nat.mod_lt _ (by decide), by rw [Int.tmod_eq_emod_of_nonneg (by omega)]; exact (Int.natCast_emod b 31).symm⟩
theorem two_of (na nb : Nat) (a0 a1 : Int) (sa sb : Bool) (ha : 1 ≤ na) (ha2 : na ≤ 31) (hb : 1 ≤ nb) (hb2 : nb ≤ 31) (h0 : -9223372036854775808 ≤ a0 ∧ a0 ≤ 9223372036854775807) (h1 : -9223372036854775808 ≤ a1 ∧ a1 ≤ 9223372036854775807) :
    ∃ (la lb : List Int) (S : Bool) (W : Nat) (i k own : Int) (am : Nat), Two sa sb S la lb na nb W i k own am ∧
      (∀ u : World, Calls Tryz.prog 37 #[.int .i64 a0, .int .i64 na, .bool sa] u (RetX u ⟨la, sa⟩ 0)) ∧
      (∀ u : World, Calls Tryz.prog 37 #[.int .i64 a1, .int .i64 nb, .bool sb] u (RetX u ⟨lb, sb⟩ 0)) := by
  refine ⟨(wI na sa a0).l, (wI nb sb a1).l, sa && sb, max na nb, _, _, _, num (wI nb sb a1).l, ⟨wI_ok sa a0 ha (by omega), wI_ok sb a1 hb (by omega), wI_kn _ _ _, wI_kn _ _ _, wI_len _ _ _, wI_len _ _ _, ha, ha2, hb, hb2, rfl, rfl, rfl, rfl, rfl, rfl⟩, fun u => fromI_any na sa ha ha2 a0 h0 u, fun u => fromI_any nb sb hb hb2 a1 h1 u⟩
theorem mul_bd {i k : Int} (hi : -2147483648 ≤ i ∧ i < 2147483648) (hk : -2147483648 ≤ k ∧ k < 2147483648) : -9223372036854775808 ≤ i * k ∧ i * k ≤ 9223372036854775807 := by
  have h : (i * k).natAbs ≤ 2147483648 * 2147483648 := by rw [Int.natAbs_mul]; exact Nat.mul_le_mul (by omega) (by omega)
  omega
theorem i64_wrap_bd (z : Int) : -9223372036854775808 ≤ IntKind.i64.wrap z ∧ IntKind.i64.wrap z ≤ 9223372036854775807 := by
  simp only [IntKind.wrap_i64]
  omega
def zs7 (i k : Int) : Nat → Int
  | 0 => i + k
  | 1 => i - k
  | 2 => i * k
  | 3 => bits .and .i64 i k
  | 4 => bits .or .i64 i k
  | 5 => bits .xor .i64 i k
  | _ => bits .xor .i64 (-1) (bits .xor .i64 i k)
def bs10 (i k : Int) : Nat → Bool
  | 0 => decide (i < k)
  | 1 => decide (i ≤ k)
  | 2 => decide (k < i)
  | 3 => decide (k ≤ i)
  | 4 => decide (i = k)
  | 5 => !decide (i = k)
  | 6 => decide (i = k)
  | 7 => !decide (i = 0) && !decide (k = 0)
  | 8 => !decide (i = 0) || !decide (k = 0)
  | _ => decide (i = 0)
theorem zs7_bd {i k : Int} (hi : -2147483648 ≤ i ∧ i < 2147483648) (hk : -2147483648 ≤ k ∧ k < 2147483648) : ∀ j, -9223372036854775808 ≤ zs7 i k j ∧ zs7 i k j ≤ 9223372036854775807
  | 0 => by show _ ≤ i + k ∧ i + k ≤ _; omega
  | 1 => by show _ ≤ i - k ∧ i - k ≤ _; omega
  | 2 => mul_bd hi hk
  | 3 => i64_wrap_bd _
  | 4 => i64_wrap_bd _
  | 5 => i64_wrap_bd _
  | _ + 6 => i64_wrap_bd _
theorem wrap64_bd (z : Int) : -9223372036854775808 ≤ wrap64 z ∧ wrap64 z ≤ 9223372036854775807 := by
  unfold wrap64
  omega
theorem fi_pow {n e : Nat} (h : n ≤ e) (z : Int) : B.fi (z * (2 : Int) ^ e) n = 0 := by
  have : z * (2 : Int) ^ e = (2 : Int) ^ n * (z * (2 : Int) ^ (e - n)) := by
    rw [show e = n + (e - n) by omega, Int.pow_add, Nat.add_sub_cancel_left, ← Int.mul_assoc, ← Int.mul_assoc, Int.mul_comm z]
  unfold B.fi
  rw [this, Int.mul_emod_right]
  rfl
theorem shl_same {na am : Nat} (h : na ≤ 31) (ham : am < 2147483648) (own : Int) {s : Bool} : wI na s (wrap64 (own * 2 ^ min (IntKind.u64.wrap (am : Int)).toNat 64)) = wI na s (IntKind.i64.wrap (own * ((2 ^ am : Nat) : Int))) := by
  have e0 : (IntKind.u64.wrap (am : Int)).toNat = am := by rw [IntWalk.u64_in _ (by omega)]; rfl
  have e1 : ∀ z, wrap64 z = IntKind.i64.wrap z := fun z => by unfold wrap64; simp only [IntKind.wrap_i64]
  unfold wI
  rw [e0, e1, fi_wrap (by omega), fi_wrap (by omega), p2i]
  by_cases c : am ≤ 64
  · rw [Nat.min_eq_left c]
  · rw [Nat.min_eq_right (by omega), fi_pow (by omega), fi_pow (by omega)]
theorem div_big {z P : Int} (hP : 2147483648 ≤ P) (hz : -2147483648 ≤ z ∧ z < 2147483648) : z / P = if z < 0 then -1 else 0 := by
  split
  · exact ((Int.ediv_emod_unique (a := z) (b := P) (r := z + P) (q := -1) (by omega)).2 ⟨by omega, by omega, by omega⟩).1
  · exact Int.ediv_eq_zero_of_lt (by omega) (by omega)
theorem div_bd {z P : Int} (hP : 0 < P) (hz : -2147483648 ≤ z ∧ z < 2147483648) : -9223372036854775808 ≤ z / P ∧ z / P ≤ 9223372036854775807 := by
  have h1 : -2147483648 ≤ z / P := Int.le_ediv_of_mul_le hP (by omega)
  have h2 : z / P < 2147483648 := Int.ediv_lt_of_lt_mul hP (by omega)
  omega
theorem pow_big {e : Nat} (h : 64 ≤ e) : (2147483648 : Int) ≤ (2 : Int) ^ e := by
  have : 2 ^ 31 ≤ 2 ^ e := Nat.pow_le_pow_right (by decide) (by omega)
  rw [← p2i]
  omega
theorem shr_same {am : Nat} (ham : am < 2147483648) {own : Int} (ho : -2147483648 ≤ own ∧ own < 2147483648) : own / 2 ^ min (IntKind.u64.wrap (am : Int)).toNat 64 = own / (2 : Int) ^ am := by
  have e0 : (IntKind.u64.wrap (am : Int)).toNat = am := by rw [IntWalk.u64_in _ (by omega)]; rfl
  rw [e0]
  by_cases c : am ≤ 64
  · rw [Nat.min_eq_left c]
  · rw [Nat.min_eq_right (by omega), div_big (pow_big (Nat.le_refl _)) ho, div_big (pow_big (by omega)) ho]
def tbl (g T n : Nat) (f : Nat → Cv) (v : Nat → V) (x : Nat → Value) : World → Prop := fun u => Tbl u g T n f v x
instance (g T n : Nat) (f : Nat → Cv) (v : Nat → V) (x : Nat → Value) : Stb (tbl g T n f v x) := ⟨fun _ _ hb h => Tbl.step h hb⟩
theorem Tbl.drew {u : World} {g T n : Nat} {f : Nat → Cv} {v : Nat → V} {x : Nat → Value} (h : Tbl u g T n f v x) : Tbl u.drew g T n f v x := h
theorem tdiv_bd {i k : Int} (hi : -2147483648 ≤ i ∧ i < 2147483648) : -9223372036854775808 ≤ i.tdiv k ∧ i.tdiv k ≤ 9223372036854775807 := by
  have h : (i.tdiv k).natAbs ≤ i.natAbs := by rw [Int.natAbs_tdiv]; exact Nat.div_le_self _ _
  omega
theorem tmod_bd {i k : Int} (hi : -2147483648 ≤ i ∧ i < 2147483648) : -9223372036854775808 ≤ i.tmod k ∧ i.tmod k ≤ 9223372036854775807 := by
  have h : (i.tmod k).natAbs ≤ i.natAbs := by rw [Int.natAbs_tmod]; exact Nat.mod_le _ _
  omega
def iv26 (A13 A15 : Option Addr) (na c13 nb c15 : Nat) (a4 a5 : Bool) (i k : Int) : List (Value → World → Prop) := (isV (.agg #[.slice A13 na c13, .bool a4])) :: (isV (.agg #[.slice A15 nb c15, .bool a5])) :: (isW (one1 (fromI (decide (i < k))))) :: (isV (.int .i64 i)) :: (isV (.int .i64 k)) :: (isV (.bool (decide (i < k)))) :: (isRw (one1 (fromI (decide (i < k)))) (.bool (decide (i < k)))) :: (isV (.agg #[.slice A13 na c13, .bool a4])) :: (isV (.agg #[.slice A15 nb c15, .bool a5])) :: (isW (one1 (fromI (decide (i ≤ k))))) :: (isV (.int .i64 i)) :: (isV (.int .i64 k)) :: (isV (.bool (decide (i ≤ k)))) :: (isRw (one1 (fromI (decide (i ≤ k)))) (.bool (decide (i ≤ k)))) :: (isV (.agg #[.slice A13 na c13, .bool a4])) :: (isV (.agg #[.slice A15 nb c15, .bool a5])) :: (isW (one1 (fromI (decide (k < i))))) :: (isV (.int .i64 i)) :: (isV (.int .i64 k)) :: (isV (.bool (decide (k < i)))) :: (isRw (one1 (fromI (decide (k < i)))) (.bool (decide (k < i)))) :: (isV (.agg #[.slice A13 na c13, .bool a4])) :: (isV (.agg #[.slice A15 nb c15, .bool a5])) :: (isW (one1 (fromI (decide (k ≤ i))))) :: (isV (.int .i64 i)) :: (isV (.int .i64 k)) :: (isV (.bool (decide (k ≤ i)))) :: (isRw (one1 (fromI (decide (k ≤ i)))) (.bool (decide (k ≤ i)))) :: (isV (.agg #[.slice A13 na c13, .bool a4])) :: (isV (.agg #[.slice A15 nb c15, .bool a5])) :: (isW (one1 (fromI (decide (i = k))))) :: (isV (.int .i64 i)) :: (isV (.int .i64 k)) :: (isV (.bool (decide (i = k)))) :: (isRw (one1 (fromI (decide (i = k)))) (.bool (decide (i = k)))) :: (isV (.agg #[.slice A13 na c13, .bool a4])) :: (isV (.agg #[.slice A15 nb c15, .bool a5])) :: (isW (one1 (fromI (!decide (i = k))))) :: (isV (.int .i64 i)) :: (isV (.int .i64 k)) :: (isV (.bool (!decide (i = k)))) :: (isRw (one1 (fromI (!decide (i = k)))) (.bool (!decide (i = k)))) :: (isV (.agg #[.slice A13 na c13, .bool a4])) :: (isV (.agg #[.slice A15 nb c15, .bool a5])) :: (isW (one1 (fromI (decide (i = k))))) :: (isV (.int .i64 i)) :: (isV (.int .i64 k)) :: (isV (.bool (decide (i = k)))) :: (isRw (one1 (fromI (decide (i = k)))) (.bool (decide (i = k)))) :: (isV (.agg #[.slice A13 na c13, .bool a4])) :: (isV (.agg #[.slice A15 nb c15, .bool a5])) :: (isW (one1 (fromI (!decide (i = 0) && !decide (k = 0))))) :: (isV (.int .i64 i)) :: (isV (.bool (!decide (i = 0)))) :: (isV (.bool (!decide (i = 0)))) :: (isOr (!decide (i = 0)) (.int .i64 k)) :: (isOr (!decide (i = 0)) (.bool (!decide (k = 0)))) :: (isV (.bool (!decide (i = 0) && !decide (k = 0)))) :: (isRw (one1 (fromI (!decide (i = 0) && !decide (k = 0)))) (.bool (!decide (i = 0) && !decide (k = 0)))) :: (isV (.agg #[.slice A13 na c13, .bool a4])) :: (isV (.agg #[.slice A15 nb c15, .bool a5])) :: (isW (one1 (fromI (!decide (i = 0) || !decide (k = 0))))) :: (isV (.int .i64 i)) :: (isV (.bool (!decide (i = 0)))) :: (isV (.bool (!decide (i = 0)))) :: (isOrF (!decide (i = 0)) (.int .i64 k)) :: (isOrF (!decide (i = 0)) (.bool (!decide (k = 0)))) :: (isV (.bool (!decide (i = 0) || !decide (k = 0)))) :: (isRw (one1 (fromI (!decide (i = 0) || !decide (k = 0)))) (.bool (!decide (i = 0) || !decide (k = 0)))) :: (isV (.agg #[.slice A13 na c13, .bool a4])) :: (isW (one1 (fromI (decide (i = 0))))) :: (isV (.int .i64 i)) :: (isV (.bool (decide (i = 0)))) :: (isRw (one1 (fromI (decide (i = 0)))) (.bool (decide (i = 0)))) :: (isTb 10 75 (fun j => one1 (fromI (bs10 i k j))) (fun j => .bool (bs10 i k j))) :: (isV (.int .i64 10)) :: (isV (.int .i64 (0))) :: []
instance (A13 A15 : Option Addr) (na c13 nb c15 : Nat) (a4 a5 : Bool) (i k : Int) : StVs (iv26 A13 A15 na c13 nb c15 a4 a5 i k) := by unfold iv26; exact by repeat (first | exact stvs_nil | refine stvs_cons inferInstance ?_)
set_option maxHeartbeats 16000000 in
theorem walk_VecIntegers (a0 : Int) (a1 : Int) (a2 : Int) (a3 : Int) (a4 : Bool) (a5 : Bool) (w : World) (b0 : -2147483648 ≤ a0 ∧ a0 ≤ 2147483647) (b1 : -2147483648 ≤ a1 ∧ a1 ≤ 2147483647) (b2 : 0 ≤ a2 ∧ a2 ≤ 255) (b3 : 0 ≤ a3 ∧ a3 ≤ 255)  (TT : Tabs w) : Calls Tryz.prog 10 #[.int .i32 a0, .int .i32 a1, .int .u8 a2, .int .u8 a3, .bool a4, .bool a5] w fun e w' => e = .returned (.bool true) ∧ Below w.heap.size w w' := by
  obtain ⟨ra, hra, y1⟩ : ∃ r : Nat, r < 31 ∧ Int.tmod a2 31 = (r : Int) := tmod_nat' b2.1
  obtain ⟨rb, hrb, y2⟩ : ∃ r : Nat, r < 31 ∧ Int.tmod a3 31 = (r : Int) := tmod_nat' b3.1
  have y3 : IntKind.u8.wrap (ra : Int) = (ra : Int) := IntWalk.u8_in _ (by omega)
  have y4 : IntKind.u8.wrap (rb : Int) = (rb : Int) := IntWalk.u8_in _ (by omega)
  have y5 : IntKind.i64.wrap (ra : Int) = (ra : Int) := IntWalk.i64_in _ (by omega)
  have y6 : IntKind.i64.wrap (rb : Int) = (rb : Int) := IntWalk.i64_in _ (by omega)
  obtain ⟨na, hna⟩ : ∃ n : Nat, n = 1 + ra := ⟨_, rfl⟩
  obtain ⟨nb, hnb⟩ : ∃ n : Nat, n = 1 + rb := ⟨_, rfl⟩
  have y7 : IntKind.i64.wrap (1 + (ra : Int)) = (na : Int) := by rw [IntWalk.i64_in _ (by omega)]; omega
  have y8 : IntKind.i64.wrap (1 + (rb : Int)) = (nb : Int) := by rw [IntWalk.i64_in _ (by omega)]; omega
  have y9 : IntKind.i64.wrap a0 = a0 := IntWalk.i64_in _ (by omega)
  have y10 : IntKind.i64.wrap a1 = a1 := IntWalk.i64_in _ (by omega)
  obtain ⟨la, lb, S, W, i, k, own, am, T2, FA, FB⟩ := two_of na nb a0 a1 a4 a5 (by omega) (by omega) (by omega) (by omega) (by omega) (by omega)
  replace T2 := Lib.hid T2
  have HFA := Lib.hid FA
  have HFB := Lib.hid FB
  clear FA FB hna hnb hra hrb
  have BB := Below.refl w.heap.size w
  go_enter Tryz.func10, Tryz.ntmps10
  go_wp2_with fail
  go_at_call 13
  refine (awake_any _ TT).mono ?_
  rintro e wk ⟨rfl, hb⟩
  replace TT := TT.step hb
  replace BB := below_step BB hb
  clear hb
  obtain ⟨u0, rfl⟩ : ∃ u : World, u = wk := ⟨_, rfl⟩
  go_wp2_with fail
  go_at_call 37
  refine (HFA.out _).mono ?_
  rintro e wk ⟨A13, n13, c13, rfl, hc13, hn13, hv, hb⟩
  replace TT := (TT.step hb).alloc (.cells #[.slice A13 n13 c13, .bool a4] 24)
  replace BB := below_new (below_step BB hb) (.cells #[.slice A13 n13 c13, .bool a4] 24)
  have O13 := Own.new wk 24 #[.slice A13 n13 c13, .bool a4]
  have r13 := hv.rd.alloc (.cells #[.slice A13 n13 c13, .bool a4] 24)
  clear hb hv
  obtain rfl : na = n13 := T2.out.ea.symm.trans r13.len
  have qO130 := O13.cell 0
  have qO131 := O13.cell 1
  go_wp2_with fail
  go_at_call 37
  clear qO130 qO131
  generalize wk.heap.size = g13 at *
  generalize wk.alloc (.cells #[.slice A13 na c13, .bool a4] 24) = u1 at *
  refine (HFB.out _).mono ?_
  rintro e wk ⟨A15, n15, c15, rfl, hc15, hn15, hv, hb⟩
  replace O13 := (O13.step hb).alloc (.cells #[.slice A15 n15 c15, .bool a5] 24)
  replace r13 := (r13.step hb).alloc (.cells #[.slice A15 n15 c15, .bool a5] 24)
  replace TT := (TT.step hb).alloc (.cells #[.slice A15 n15 c15, .bool a5] 24)
  replace BB := below_new (below_step BB hb) (.cells #[.slice A15 n15 c15, .bool a5] 24)
  have O15 := Own.new wk 24 #[.slice A15 n15 c15, .bool a5]
  have r15 := hv.rd.alloc (.cells #[.slice A15 n15 c15, .bool a5] 24)
  clear hb hv
  obtain rfl : nb = n15 := T2.out.eb.symm.trans r15.len
  have qO130 := O13.cell 0
  have qO131 := O13.cell 1
  have qO150 := O15.cell 0
  have qO151 := O15.cell 1
  go_upto_region 5 with fail
  clear qO130 qO131 qO150 qO151
  generalize wk.heap.size = g15 at *
  generalize wk.alloc (.cells #[.slice A15 nb c15, .bool a5] 24) = u2 at *
  replace O13 : Own u2 g13 24 #[.slice A13 na c13, .bool a4] := O13
  replace O15 : Own u2 g15 24 #[.slice A15 nb c15, .bool a5] := O15
  replace BB := Lib.hid BB
  have eS := T2.out.eS
  clear HFA HFB y1 y2 y3 y4 y5 y6 y7 y8 y9 y10 b0 b1 b2 b3
  refine region_s (fun u => owns g13 #[.slice A13 na c13, .bool a4] u ∧ (owns g15 #[.slice A15 nb c15, .bool a5] u ∧ (rds A13 na la u ∧ (rds A15 nb lb u ∧ (tbs u ∧ blw w u))))) [] [isV (.bool a4), isV (.bool a4), isOr a4 (.bool a5), isV (.bool S), isV (.bool S)] [some 69, some 70, some 71, some 72, some 17] [[], [0], [1], [1, 2], [3, 1, 0, 1, 2, 3]] (by kernel_rfl) (by kernel_rfl) (by kernel_rfl) rfl (by kernel_rfl) (by kernel_rfl) (by kernel_rfl) ⟨O13, O15, r13, r15, TT, BB.out⟩ (fun _ h => by cases h) ?_ ?_
  · refine ⟨?_, ?_, ?_, ?_, ?_, trivial⟩
    · intro a w' hS hO hF' hP K hK; have f0 := hO 4 (by rfl); refine if_ok (by rfl) ?_; unfold Oper.wp execOp; simp only [Sem.run_pure, ev f0]; exact hK _ w' nofun (keep_same hS) rfl
    · intro a w' hS hO hF' hP K hK; obtain ⟨_, f0, rfl⟩ := (hF' 0 rfl).1 69 _ rfl rfl; refine if_ok (by rfl) ?_; unfold Oper.wp execOp; simp only [Sem.run_pure, ev f0]; exact hK _ w' nofun (keep_same hS) rfl
    · intro a w' hS hO hF' hP K hK; obtain ⟨_, fg, rfl⟩ := (hF' 1 rfl).1 70 _ rfl rfl; have f0 := hO 5 (by rfl)
      cases a4
      · refine if_unwanted (by rfl) (yield_of (by rfl) fg) ?_
        exact hK _ w' nofun (keep_same hS) nofun
      · refine if_wanted (by rfl) (yield_of (by rfl) fg) ?_
        unfold Oper.wp execOp
        simp only [Sem.run_pure, ev f0]
        exact hK _ w' nofun (keep_same hS) (fun _ => rfl)
    · intro a w' hS hO hF' hP K hK; obtain ⟨_, f0, rfl⟩ := (hF' 1 rfl).1 70 _ rfl rfl; obtain ⟨v1, f1, h1⟩ := (hF' 2 rfl).1 71 _ rfl rfl; refine if_ok (by rfl) ?_
      cases a4
      · refine wp_pick_or _ _ _ rfl (ev f0) rfl ?_
        refine hK _ w' nofun (keep_same hS) ?_
        show Value.bool false = Value.bool S
        rw [← eS]
        rfl
      · obtain rfl := h1 rfl
        refine wp_pick_and _ _ _ rfl (ev f0) (ev f1) ?_
        refine hK _ w' nofun (keep_same hS) ?_
        show Value.bool a5 = Value.bool S
        rw [← eS]
        rfl
    · intro a w' hS hO hF' hP K hK; obtain ⟨_, f0, rfl⟩ := (hF' 3 rfl).1 72 _ rfl rfl; refine if_ok (by rfl) ?_; unfold Oper.wp execOp; simp only [Sem.run_pure, ev f0]; exact hK _ w' nofun (keep_same hS) rfl
  · intro vs0 u hl0 hS hV0
    match vs0, hl0, hV0 with
    | [v0, v1, v2, v3, v4], _, hV =>
      obtain rfl := hV 0 _ rfl
      obtain rfl := hV 1 _ rfl
      obtain rfl := hV 3 _ rfl
      obtain rfl := hV 4 _ rfl
      simp only [puts, Act.put, List.setIfInBounds_toArray, List.set_cons_zero, List.set_cons_succ]
      clear O13 O15 r13 r15 TT BB
      obtain ⟨O13, O15, r13, r15, TT, BB⟩ := hS
      clear hV hV0 hl0
      replace O13 : Own u g13 24 #[.slice A13 na c13, .bool a4] := O13
      replace O15 : Own u g15 24 #[.slice A15 nb c15, .bool a5] := O15
      replace r13 : Rb u A13 na la := r13
      replace r15 : Rb u A15 nb lb := r15
      replace TT : Tabs u := TT
      replace BB : Below w.heap.size w u := BB
      obtain ⟨u5, rfl⟩ : ∃ x : World, x = u := ⟨_, rfl⟩
      clear eS
      have hBase : w.heap.size ≤ u5.heap.size := BB.size
      have hq13 := O13.lt
      have hq15 := O15.lt
      have BZ0 : szW u5.heap.size u5.drew := Nat.le_refl _
      replace BB := Lib.hid BB
      go_wp2_with fail
      refine region_l (by kernel_rfl) (fun u => owns g13 #[.slice A13 na c13, .bool a4] u ∧ (owns g15 #[.slice A15 nb c15, .bool a5] u ∧ (rds A13 na la u ∧ (rds A15 nb lb u ∧ (szW (u5.heap.size) u ∧ (tbs u ∧ blw w u)))))) [un (isV (.agg #[.slice A13 na c13, .bool a4])), un (isV (.bool S)), un (isW (⟨la, S⟩ : V)), un (isV (.agg #[.slice A15 nb c15, .bool a5])), un (isV (.bool S)), un (isW (⟨lb, S⟩ : V)), un (isFr (u5.heap.size)), un (isFr (u5.heap.size)), filled (u5.heap.size) (⟨la, S⟩ : V), filled (u5.heap.size) (⟨lb, S⟩ : V)] [some 73, some 74, some 75, some 76, some 77, some 78, some 18, some 19, none, none] [0, 1, 2, 3, 4, 5, 6, 7, 6, 7] [6, 7] [[], [], [0, 1], [], [], [3, 4, 2], [], [], [6, 2, 5, 0, 1, 2, 6, 7], [7, 5, 8, 0, 1, 2, 3, 4, 5, 6, 7, 8]] (by kernel_rfl) (by kernel_rfl) rfl (by kernel_rfl) (by kernel_rfl) (by kernel_rfl) (by kernel_rfl) ⟨O13.drew, O15.drew, r13.drew, r15.drew, BZ0, TT.drew, below_drew BB.out⟩ ?_ ?_
      · refine ⟨?_, ?_, ?_, ?_, ?_, ?_, ?_, ?_, ?_, ?_, trivial⟩
        · intro a w' hS hO hF hD K hK; have ha := hO 13 (by rfl); refine if_ok (by rfl) ?_; refine wp_load_row 24 (.tmp 13) rfl g13 (ev ha) _ _ (0, 0) _ hS.1 Tryz.underlying24 rfl (by kernel_rfl) ?_; exact hK _ w' nofun (Nat.le_refl _) (fun h => absurd h (by decide)) hS (fun _ _ _ _ h => h) (fun V hV => by obtain rfl := Option.some.inj hV; exact rfl)
        · intro a w' hS hO hF hD K hK; have f0 := hO 17 (by rfl); refine if_ok (by rfl) ?_; unfold Oper.wp execOp; simp only [Sem.run_pure, ev f0]; exact hK _ w' nofun (Nat.le_refl _) (fun h => absurd h (by decide)) hS (fun _ _ _ _ h => h) (fun V hV => by obtain rfl := Option.some.inj hV; exact rfl)
        · intro a w' hS hO hF hD K hK; have j0 := hF 0 rfl; have f0 := j0.2 73 rfl; rw [show valD _ _ 0 = _ from j0.1 _ rfl] at f0; have j1 := hF 1 rfl; have f1 := j1.2 74 rfl; rw [show valD _ _ 1 = _ from j1.1 _ rfl] at f1; refine if_ok (by rfl) ?_; refine wp_calls rfl (enters_of Tryz.func26 (by kernel_rfl) rfl) (args := #[(.agg #[.slice A13 na c13, .bool a4]), (.bool S)]) (by simp [Act.eval, f0, f1]) ?_; obtain ⟨O13, O15, r13, r15, BZ, TT, BB⟩ := id hS; apply Calls.mono; exact T2.out.wa _ _ _ r13; rintro e w2 ⟨A, n, c, rfl, hc, hn, hv, hb⟩; exact ⟨_, rfl, hK _ w2 nofun hb.size (fun h => absurd h (by decide)) ((show Stb (fun u => owns g13 #[.slice A13 na c13, .bool a4] u ∧ (owns g15 #[.slice A15 nb c15, .bool a5] u ∧ (rds A13 na la u ∧ (rds A15 nb lb u ∧ (szW (u5.heap.size) u ∧ (tbs u ∧ blw w u)))))) from inferInstance).st _ _ hb hS) (keepL_below hb) (fun V hV => by obtain rfl := Option.some.inj hV; exact ⟨A, n, c, rfl, hc, hn, hv.rd⟩)⟩
        · intro a w' hS hO hF hD K hK; have ha := hO 15 (by rfl); refine if_ok (by rfl) ?_; refine wp_load_row 24 (.tmp 15) rfl g15 (ev ha) _ _ (0, 0) _ hS.2.1 Tryz.underlying24 rfl (by kernel_rfl) ?_; exact hK _ w' nofun (Nat.le_refl _) (fun h => absurd h (by decide)) hS (fun _ _ _ _ h => h) (fun V hV => by obtain rfl := Option.some.inj hV; exact rfl)
        · intro a w' hS hO hF hD K hK; have f0 := hO 17 (by rfl); refine if_ok (by rfl) ?_; unfold Oper.wp execOp; simp only [Sem.run_pure, ev f0]; exact hK _ w' nofun (Nat.le_refl _) (fun h => absurd h (by decide)) hS (fun _ _ _ _ h => h) (fun V hV => by obtain rfl := Option.some.inj hV; exact rfl)
        · intro a w' hS hO hF hD K hK; have j0 := hF 3 rfl; have f0 := j0.2 76 rfl; rw [show valD _ _ 3 = _ from j0.1 _ rfl] at f0; have j1 := hF 4 rfl; have f1 := j1.2 77 rfl; rw [show valD _ _ 4 = _ from j1.1 _ rfl] at f1; refine if_ok (by rfl) ?_; refine wp_calls rfl (enters_of Tryz.func26 (by kernel_rfl) rfl) (args := #[(.agg #[.slice A15 nb c15, .bool a5]), (.bool S)]) (by simp [Act.eval, f0, f1]) ?_; obtain ⟨O13, O15, r13, r15, BZ, TT, BB⟩ := id hS; apply Calls.mono; exact T2.out.wb _ _ _ r15; rintro e w2 ⟨A, n, c, rfl, hc, hn, hv, hb⟩; exact ⟨_, rfl, hK _ w2 nofun hb.size (fun h => absurd h (by decide)) ((show Stb (fun u => owns g13 #[.slice A13 na c13, .bool a4] u ∧ (owns g15 #[.slice A15 nb c15, .bool a5] u ∧ (rds A13 na la u ∧ (rds A15 nb lb u ∧ (szW (u5.heap.size) u ∧ (tbs u ∧ blw w u)))))) from inferInstance).st _ _ hb hS) (keepL_below hb) (fun V hV => by obtain rfl := Option.some.inj hV; exact ⟨A, n, c, rfl, hc, hn, hv.rd⟩)⟩
        · intro a w' hS hO hF hD K hK; refine if_ok (by rfl) ?_; refine wp_alloc rfl ?_; have hb := below_new (Below.refl w'.heap.size w') (.cells #[.slice none 0 0, .bool false] 24); have hBz := hS.2.2.2.2.1; exact hK _ _ nofun hb.size (fun _ => ⟨rfl, by simp⟩) ((show Stb (fun u => owns g13 #[.slice A13 na c13, .bool a4] u ∧ (owns g15 #[.slice A15 nb c15, .bool a5] u ∧ (rds A13 na la u ∧ (rds A15 nb lb u ∧ (szW (u5.heap.size) u ∧ (tbs u ∧ blw w u)))))) from inferInstance).st _ _ hb hS) (keepL_below hb) (fun V hV => by obtain rfl := Option.some.inj hV; exact ⟨_, rfl, hBz, _, _, _, _, Own.new w' 24 _⟩)
        · intro a w' hS hO hF hD K hK; refine if_ok (by rfl) ?_; refine wp_alloc rfl ?_; have hb := below_new (Below.refl w'.heap.size w') (.cells #[.slice none 0 0, .bool false] 24); have hBz := hS.2.2.2.2.1; exact hK _ _ nofun hb.size (fun _ => ⟨rfl, by simp⟩) ((show Stb (fun u => owns g13 #[.slice A13 na c13, .bool a4] u ∧ (owns g15 #[.slice A15 nb c15, .bool a5] u ∧ (rds A13 na la u ∧ (rds A15 nb lb u ∧ (szW (u5.heap.size) u ∧ (tbs u ∧ blw w u)))))) from inferInstance).st _ _ hb hS) (keepL_below hb) (fun V hV => by obtain rfl := Option.some.inj hV; exact ⟨_, rfl, hBz, _, _, _, _, Own.new w' 24 _⟩)
        · intro a w' hS hO hF hD K hK; have j0 := hF 2 rfl; have f0 := j0.2 75 rfl; obtain ⟨Ay0, ny0, cy0, e0, hc0, hn0, hr0⟩ := j0.1 _ rfl; rw [e0] at f0; have jp := hF 6 rfl; have fp := jp.2 18 rfl; obtain ⟨g, eg, hg, X, q1, q2, q3, O⟩ := jp.1 _ rfl; have hgx := eg; rw [eg] at fp; have hB0 := hBase
          haveI : Over w g := ⟨Nat.le_trans (show w.heap.size ≤ _ from hB0) hg⟩
          haveI : Apart g g13 := ⟨fun e => by subst e; have := hB0; omega⟩
          haveI : Apart g g15 := ⟨fun e => by subst e; have := hB0; omega⟩
          refine if_ok (by rfl) ?_; refine wp_store_row _ _ _ rfl g _ (ev fp) (ev f0) _ _ O vec_size rfl (by simp [Value.oneCell']) ?_
          exact hK _ _ (fun _ => rfl) (by simp [World.setRow]) (fun h => absurd h (by decide)) ((show Sst g (fun u => owns g13 #[.slice A13 na c13, .bool a4] u ∧ (owns g15 #[.slice A15 nb c15, .bool a5] u ∧ (rds A13 na la u ∧ (rds A15 nb lb u ∧ (szW (u5.heap.size) u ∧ (tbs u ∧ blw w u)))))) from inferInstance).st _ _ _ _ _ _ O hS) (keepL_store O (fun j V hj hV => by
            match j, hj, hV with
            | 0, _, hV => obtain rfl := Option.some.inj hV; exact ssx_un
            | 1, _, hV => obtain rfl := Option.some.inj hV; exact ssx_un
            | 2, _, hV => obtain rfl := Option.some.inj hV; exact ssx_un
            | 3, _, hV => obtain rfl := Option.some.inj hV; exact ssx_un
            | 4, _, hV => obtain rfl := Option.some.inj hV; exact ssx_un
            | 5, _, hV => obtain rfl := Option.some.inj hV; exact ssx_un
            | 6, _, hV => obtain rfl := Option.some.inj hV; exact ssx_fr
            | 7, _, hV => obtain rfl := Option.some.inj hV; exact ssx_fr
            | 8, hj, _ => exact absurd rfl hj
            | 9, _, hV => obtain rfl := Option.some.inj hV; exact ssx_filled (fun e => hD 7 6 (by decide) rfl rfl rfl rfl (e.trans hgx.symm))
            | q + 10, _, hV => simp at hV)) (fun V hV => by obtain rfl := Option.some.inj hV; rw [if_neg (by decide)]; exact ⟨g, Ay0, ny0, cy0, hgx, hg, O.row, hc0, hn0, hr0.row O⟩)
        · intro a w' hS hO hF hD K hK; have j0 := hF 5 rfl; have f0 := j0.2 78 rfl; obtain ⟨Ay0, ny0, cy0, e0, hc0, hn0, hr0⟩ := j0.1 _ rfl; rw [e0] at f0; have jp := hF 7 rfl; have fp := jp.2 19 rfl; obtain ⟨g, eg, hg, X, q1, q2, q3, O⟩ := jp.1 _ rfl; have hgx := eg; rw [eg] at fp; have hB0 := hBase
          haveI : Over w g := ⟨Nat.le_trans (show w.heap.size ≤ _ from hB0) hg⟩
          haveI : Apart g g13 := ⟨fun e => by subst e; have := hB0; omega⟩
          haveI : Apart g g15 := ⟨fun e => by subst e; have := hB0; omega⟩
          refine if_ok (by rfl) ?_; refine wp_store_row _ _ _ rfl g _ (ev fp) (ev f0) _ _ O vec_size rfl (by simp [Value.oneCell']) ?_
          exact hK _ _ (fun _ => rfl) (by simp [World.setRow]) (fun h => absurd h (by decide)) ((show Sst g (fun u => owns g13 #[.slice A13 na c13, .bool a4] u ∧ (owns g15 #[.slice A15 nb c15, .bool a5] u ∧ (rds A13 na la u ∧ (rds A15 nb lb u ∧ (szW (u5.heap.size) u ∧ (tbs u ∧ blw w u)))))) from inferInstance).st _ _ _ _ _ _ O hS) (keepL_store O (fun j V hj hV => by
            match j, hj, hV with
            | 0, _, hV => obtain rfl := Option.some.inj hV; exact ssx_un
            | 1, _, hV => obtain rfl := Option.some.inj hV; exact ssx_un
            | 2, _, hV => obtain rfl := Option.some.inj hV; exact ssx_un
            | 3, _, hV => obtain rfl := Option.some.inj hV; exact ssx_un
            | 4, _, hV => obtain rfl := Option.some.inj hV; exact ssx_un
            | 5, _, hV => obtain rfl := Option.some.inj hV; exact ssx_un
            | 6, _, hV => obtain rfl := Option.some.inj hV; exact ssx_fr
            | 7, _, hV => obtain rfl := Option.some.inj hV; exact ssx_fr
            | 8, _, hV => obtain rfl := Option.some.inj hV; exact ssx_filled (fun e => hD 6 7 (by decide) rfl rfl rfl rfl (e.trans hgx.symm))
            | 9, hj, _ => exact absurd rfl hj
            | q + 10, _, hV => simp at hV)) (fun V hV => by obtain rfl := Option.some.inj hV; rw [if_neg (by decide)]; exact ⟨g, Ay0, ny0, cy0, hgx, hg, O.row, hc0, hn0, hr0.row O⟩)
      · intro vs0 u hl0 hS hV0
        match vs0, hl0, hV0 with
        | [v0, v1, v2, v3, v4, v5, v6, v7, v8, v9], _, hV =>
          obtain ⟨g18, A18, n18, c18, e18, hB18, O18, hcc18, hnn18, r18⟩ := hV 8 _ rfl
          replace e18 : v6 = .pointer (some ⟨g18, 0, none⟩) := e18
          subst e18
          obtain ⟨g19, A19, n19, c19, e19, hB19, O19, hcc19, hnn19, r19⟩ := hV 9 _ rfl
          replace e19 : v7 = .pointer (some ⟨g19, 0, none⟩) := e19
          subst e19
          obtain rfl := hV 0 _ rfl
          obtain rfl := hV 1 _ rfl
          obtain ⟨_, _, _, rfl, _, _, _⟩ := hV 2 _ rfl
          obtain rfl := hV 3 _ rfl
          obtain rfl := hV 4 _ rfl
          obtain ⟨_, _, _, rfl, _, _, _⟩ := hV 5 _ rfl
          simp only [puts, Act.put, List.setIfInBounds_toArray, List.set_cons_zero, List.set_cons_succ]
          obtain ⟨O13, O15, r13, r15, BZ, TT, BB⟩ := hS
          clear hV hV0 hl0
          replace O13 : Own u g13 24 #[.slice A13 na c13, .bool a4] := O13
          replace O15 : Own u g15 24 #[.slice A15 nb c15, .bool a5] := O15
          replace r13 : Rb u A13 na la := r13
          replace r15 : Rb u A15 nb lb := r15
          replace TT : Tabs u := TT
          replace BB : Below w.heap.size w u := BB
          obtain rfl : na = n18 := T2.out.ea.symm.trans r18.len
          obtain rfl : nb = n19 := T2.out.eb.symm.trans r19.len
          obtain ⟨u6, rfl⟩ : ∃ x : World, x = u := ⟨_, rfl⟩
          replace O18 : Own u6 g18 24 #[.slice A18 na c18, .bool S] := O18
          replace O19 : Own u6 g19 24 #[.slice A19 nb c19, .bool S] := O19
          clear hBase hq13 hq15 BZ0 BZ hB18 hB19
          replace BB := BB
          have qO130 := O13.cell 0
          have qO131 := O13.cell 1
          have qO150 := O15.cell 0
          have qO151 := O15.cell 1
          have qO180 := O18.cell 0
          have qO181 := O18.cell 1
          have qO190 := O19.cell 0
          have qO191 := O19.cell 1
          go_wp2_with fail
          go_at_call 24
          clear qO130 qO131 qO150 qO151 qO180 qO181 qO190 qO191
          refine (T2.out.ia _ _ _ r18).mono ?_
          rintro e wk ⟨rfl, hb⟩
          replace O13 := O13.step hb
          replace O15 := O15.step hb
          replace O18 := O18.step hb
          replace O19 := O19.step hb
          replace r13 := r13.step hb
          replace r15 := r15.step hb
          replace r18 := r18.step hb
          replace r19 := r19.step hb
          replace TT := TT.step hb
          replace BB := below_step BB hb
          clear hb
          obtain ⟨u3, rfl⟩ : ∃ u : World, u = wk := ⟨_, rfl⟩
          have qO130 := O13.cell 0
          have qO131 := O13.cell 1
          have qO150 := O15.cell 0
          have qO151 := O15.cell 1
          have qO180 := O18.cell 0
          have qO181 := O18.cell 1
          have qO190 := O19.cell 0
          have qO191 := O19.cell 1
          go_wp2_with fail
          go_at_call 24
          clear qO130 qO131 qO150 qO151 qO180 qO181 qO190 qO191
          refine (T2.out.ib _ _ _ r19).mono ?_
          rintro e wk ⟨rfl, hb⟩
          replace O13 := O13.step hb
          replace O15 := O15.step hb
          replace O18 := O18.step hb
          replace O19 := O19.step hb
          replace r13 := r13.step hb
          replace r15 := r15.step hb
          replace r18 := r18.step hb
          replace r19 := r19.step hb
          replace TT := TT.step hb
          replace BB := below_step BB hb
          clear hb
          obtain ⟨u4, rfl⟩ : ∃ u : World, u = wk := ⟨_, rfl⟩
          have qO130 := O13.cell 0
          have qO131 := O13.cell 1
          have qO150 := O15.cell 0
          have qO151 := O15.cell 1
          have qO180 := O18.cell 0
          have qO181 := O18.cell 1
          have qO190 := O19.cell 0
          have qO191 := O19.cell 1
          go_upto_region 11 with fail
          clear qO130 qO131 qO150 qO151 qO180 qO181 qO190 qO191
          clear O18 O19 r18 r19 hcc18 hcc19 hnn18 hnn19
          replace BB := Lib.hid BB
          have eW := T2.out.eW
          refine region_s (fun u => owns g13 #[.slice A13 na c13, .bool a4] u ∧ (owns g15 #[.slice A15 nb c15, .bool a5] u ∧ (rds A13 na la u ∧ (rds A15 nb lb u ∧ (tbs u ∧ blw w u))))) [] [isV (.pointer (some ⟨g13, 0, none⟩)), isV ((.slice A13 na c13)), isV (.int .i64 na), isV (.pointer (some ⟨g15, 0, none⟩)), isV ((.slice A15 nb c15)), isV (.int .i64 nb), isV (.int .i64 (W : Nat)), isV (.int .i64 (W : Nat))] [some 103, some 104, some 105, some 106, some 107, some 108, some 109, some 24] [[], [0], [1], [], [3], [4], [2, 5], [6, 0, 1, 2, 3, 4, 5, 6]] (by kernel_rfl) (by kernel_rfl) (by kernel_rfl) rfl (by kernel_rfl) (by kernel_rfl) (by kernel_rfl) ⟨O13, O15, r13, r15, TT, BB.out⟩ (fun _ h => by cases h) ?_ ?_
          · refine ⟨?_, ?_, ?_, ?_, ?_, ?_, ?_, ?_, trivial⟩
            · intro a w' hS hO hF' hP K hK; have ha := hO 13 (by rfl); refine if_ok (by rfl) ?_; refine wp_val (w' := w') (q := .pointer (some ⟨g13, 0, none⟩)) (by unfold execOp; simp only [ev ha]; simp [go_sem]) ?_; exact hK _ w' nofun (keep_same hS) rfl
            · intro a w' hS hO hF' hP K hK; obtain ⟨_, f0, rfl⟩ := (hF' 0 rfl).1 103 _ rfl rfl; have hc := hS.1.cell 0; refine if_ok (by rfl) ?_; refine wp_val (w' := w') (q := (.slice A13 na c13)) (by unfold execOp; simp only [ev f0]; simp [go_sem, hc]) ?_; exact hK _ w' nofun (keep_same hS) rfl
            · intro a w' hS hO hF' hP K hK; obtain ⟨_, f0, rfl⟩ := (hF' 1 rfl).1 104 _ rfl rfl; refine if_ok (by rfl) ?_; refine wp_len _ rfl (ev f0) ?_; exact hK _ w' nofun (keep_same hS) rfl
            · intro a w' hS hO hF' hP K hK; have ha := hO 15 (by rfl); refine if_ok (by rfl) ?_; refine wp_val (w' := w') (q := .pointer (some ⟨g15, 0, none⟩)) (by unfold execOp; simp only [ev ha]; simp [go_sem]) ?_; exact hK _ w' nofun (keep_same hS) rfl
            · intro a w' hS hO hF' hP K hK; obtain ⟨_, f0, rfl⟩ := (hF' 3 rfl).1 106 _ rfl rfl; have hc := hS.2.1.cell 0; refine if_ok (by rfl) ?_; refine wp_val (w' := w') (q := (.slice A15 nb c15)) (by unfold execOp; simp only [ev f0]; simp [go_sem, hc]) ?_; exact hK _ w' nofun (keep_same hS) rfl
            · intro a w' hS hO hF' hP K hK; obtain ⟨_, f0, rfl⟩ := (hF' 4 rfl).1 107 _ rfl rfl; refine if_ok (by rfl) ?_; refine wp_len _ rfl (ev f0) ?_; exact hK _ w' nofun (keep_same hS) rfl
            · intro a w' hS hO hF' hP K hK; obtain ⟨_, f0, rfl⟩ := (hF' 2 rfl).1 105 _ rfl rfl; obtain ⟨_, f1, rfl⟩ := (hF' 5 rfl).1 108 _ rfl rfl; refine if_ok (by rfl) ?_; refine wp_maxI _ _ rfl (ev f0) (ev f1) eW ?_; exact hK _ w' nofun (keep_same hS) rfl
            · intro a w' hS hO hF' hP K hK; obtain ⟨_, f0, rfl⟩ := (hF' 6 rfl).1 109 _ rfl rfl; refine if_ok (by rfl) ?_; unfold Oper.wp execOp; simp only [Sem.run_pure, ev f0]; exact hK _ w' nofun (keep_same hS) rfl
          · intro vs0 u hl0 hS hV0
            match vs0, hl0, hV0 with
            | [v0, v1, v2, v3, v4, v5, v6, v7], _, hV =>
              obtain rfl := hV 0 _ rfl
              obtain rfl := hV 1 _ rfl
              obtain rfl := hV 2 _ rfl
              obtain rfl := hV 3 _ rfl
              obtain rfl := hV 4 _ rfl
              obtain rfl := hV 5 _ rfl
              obtain rfl := hV 6 _ rfl
              obtain rfl := hV 7 _ rfl
              simp only [puts, Act.put, List.setIfInBounds_toArray, List.set_cons_zero, List.set_cons_succ]
              clear O13 O15 r13 r15 TT BB
              obtain ⟨O13, O15, r13, r15, TT, BB⟩ := hS
              clear hV hV0 hl0
              replace O13 : Own u g13 24 #[.slice A13 na c13, .bool a4] := O13
              replace O15 : Own u g15 24 #[.slice A15 nb c15, .bool a5] := O15
              replace r13 : Rb u A13 na la := r13
              replace r15 : Rb u A15 nb lb := r15
              replace TT : Tabs u := TT
              replace BB : Below w.heap.size w u := BB
              obtain ⟨u7, rfl⟩ : ∃ x : World, x = u := ⟨_, rfl⟩
              clear eW
              have BD := T2.out.bds
              have z0 : IntKind.i64.wrap (i + k) = i + k := IntWalk.i64_in _ (by omega)
              have z1 : IntKind.i64.wrap (i - k) = i - k := IntWalk.i64_in _ (by omega)
              have z2 : IntKind.i64.wrap (i * k) = i * k := IntWalk.i64_in _ (mul_bd BD.1 BD.2.1)
              clear BD
              replace BB := Lib.hid BB
              go_wp2_with fail
              refine region_y (by kernel_rfl) (fun u => owns g13 #[.slice A13 na c13, .bool a4] u ∧ (owns g15 #[.slice A15 nb c15, .bool a5] u ∧ (rds A13 na la u ∧ (rds A15 nb lb u ∧ (tbs u ∧ blw w u))))) [] [isV (.agg #[.slice A13 na c13, .bool a4]), isV (.agg #[.slice A15 nb c15, .bool a5]), isW (wI W S (i + k)), isV (.int .i64 i), isV (.int .i64 k), isV (.int .i64 (i + k)), isRw (wI W S (i + k)) (.int .i64 (i + k)), isV (.agg #[.slice A13 na c13, .bool a4]), isV (.agg #[.slice A15 nb c15, .bool a5]), isW (wI W S (i - k)), isV (.int .i64 i), isV (.int .i64 k), isV (.int .i64 (i - k)), isRw (wI W S (i - k)) (.int .i64 (i - k)), isV (.agg #[.slice A13 na c13, .bool a4]), isV (.agg #[.slice A15 nb c15, .bool a5]), isW (wI W S (i * k)), isV (.int .i64 i), isV (.int .i64 k), isV (.int .i64 (i * k)), isRw (wI W S (i * k)) (.int .i64 (i * k)), isV (.agg #[.slice A13 na c13, .bool a4]), isV (.agg #[.slice A15 nb c15, .bool a5]), isW (wI W S (bits .and .i64 i k)), isV (.int .i64 i), isV (.int .i64 k), isV (.int .i64 (bits .and .i64 i k)), isRw (wI W S (bits .and .i64 i k)) (.int .i64 (bits .and .i64 i k)), isV (.agg #[.slice A13 na c13, .bool a4]), isV (.agg #[.slice A15 nb c15, .bool a5]), isW (wI W S (bits .or .i64 i k)), isV (.int .i64 i), isV (.int .i64 k), isV (.int .i64 (bits .or .i64 i k)), isRw (wI W S (bits .or .i64 i k)) (.int .i64 (bits .or .i64 i k)), isV (.agg #[.slice A13 na c13, .bool a4]), isV (.agg #[.slice A15 nb c15, .bool a5]), isW (wI W S (bits .xor .i64 i k)), isV (.int .i64 i), isV (.int .i64 k), isV (.int .i64 (bits .xor .i64 i k)), isRw (wI W S (bits .xor .i64 i k)) (.int .i64 (bits .xor .i64 i k)), isV (.agg #[.slice A13 na c13, .bool a4]), isV (.agg #[.slice A15 nb c15, .bool a5]), isW (wI W S (bits .xor .i64 (-1) (bits .xor .i64 i k))), isV (.int .i64 i), isV (.int .i64 k), isV (.int .i64 (bits .xor .i64 i k)), isV (.int .i64 (bits .xor .i64 (-1) (bits .xor .i64 i k))), isRw (wI W S (bits .xor .i64 (-1) (bits .xor .i64 i k))) (.int .i64 (bits .xor .i64 (-1) (bits .xor .i64 i k))), isTb 7 73 (fun j => wI W S (zs7 i k j)) (fun j => .int .i64 (zs7 i k j)), isV (.int .i64 7), isV (.int .i64 (0))] [some 110, some 111, some 112, some 113, some 114, some 115, some 116, some 117, some 118, some 119, some 120, some 121, some 122, some 123, some 124, some 125, some 126, some 127, some 128, some 129, some 130, some 131, some 132, some 133, some 134, some 135, some 136, some 137, some 138, some 139, some 140, some 141, some 142, some 143, some 144, some 145, some 146, some 147, some 148, some 149, some 150, some 151, some 152, some 153, some 154, some 155, some 156, some 157, some 158, some 159, some 160, some 161, some 162] [[], [], [0, 1], [], [], [3, 4], [2, 5], [], [], [7, 8, 2], [], [], [10, 11], [9, 12], [], [], [14, 15, 9], [], [], [17, 18], [16, 19], [], [], [21, 22, 16], [], [], [24, 25], [23, 26], [], [], [28, 29, 23], [], [], [31, 32], [30, 33], [], [], [35, 36, 30], [], [], [38, 39], [37, 40], [], [], [42, 43, 37], [], [], [45, 46], [47], [44, 48], [6, 13, 20, 27, 34, 41, 49], [50], []] (by kernel_rfl) (by kernel_rfl) rfl (by kernel_rfl) (by kernel_rfl) (by kernel_rfl) ⟨O13.drew, O15.drew, r13.drew, r15.drew, TT.drew, below_drew BB.out⟩ (fun _ h => by cases h) ?_ ?_
              · refine ⟨?_, ?_, ?_, ?_, ?_, ?_, ?_, ?_, ?_, ?_, ?_, ?_, ?_, ?_, ?_, ?_, ?_, ?_, ?_, ?_, ?_, ?_, ?_, ?_, ?_, ?_, ?_, ?_, ?_, ?_, ?_, ?_, ?_, ?_, ?_, ?_, ?_, ?_, ?_, ?_, ?_, ?_, ?_, ?_, ?_, ?_, ?_, ?_, ?_, ?_, ?_, ?_, ?_, trivial⟩
                · intro a w' hS hO hF' hP K hK; have ha := hO 13 (by rfl); refine if_ok (by rfl) ?_; refine wp_load_row 24 (.tmp 13) rfl g13 (ev ha) _ _ (0, 0) _ hS.1 Tryz.underlying24 rfl (by kernel_rfl) ?_; exact hK _ w' nofun (keep_same hS) rfl
                · intro a w' hS hO hF' hP K hK; have ha := hO 15 (by rfl); refine if_ok (by rfl) ?_; refine wp_load_row 24 (.tmp 15) rfl g15 (ev ha) _ _ (0, 0) _ hS.2.1 Tryz.underlying24 rfl (by kernel_rfl) ?_; exact hK _ w' nofun (keep_same hS) rfl
                · intro a w' hS hO hF' hP K hK; obtain ⟨_, f0, rfl⟩ := (hF' 0 rfl).1 110 _ rfl rfl; obtain ⟨_, f1, rfl⟩ := (hF' 1 rfl).1 111 _ rfl rfl; refine if_ok (by rfl) ?_; refine wp_calls rfl (enters_of Tryz.func56 (by kernel_rfl) rfl) (args := #[(.agg #[.slice A13 na c13, .bool a4]), (.agg #[.slice A15 nb c15, .bool a5])]) (by simp [Act.eval, f0, f1]) ?_; obtain ⟨O13, O15, r13, r15, TT, BB⟩ := id hS; apply Calls.mono; exact T2.out.add _ _ _ _ _ r13 r15 TT hc13 hc15; rintro e w2 ⟨A, n, c, rfl, hc, hn, hv, hb⟩; exact ⟨_, rfl, hK _ w2 nofun (keep_below hb hS) ⟨A, n, c, rfl, hc, hn, hv.rd⟩⟩
                · intro a w' hS hO hF' hP K hK; have f0 := hO 20 (by rfl); refine if_ok (by rfl) ?_; unfold Oper.wp execOp; simp only [Sem.run_pure, ev f0]; exact hK _ w' nofun (keep_same hS) rfl
                · intro a w' hS hO hF' hP K hK; have f0 := hO 22 (by rfl); refine if_ok (by rfl) ?_; unfold Oper.wp execOp; simp only [Sem.run_pure, ev f0]; exact hK _ w' nofun (keep_same hS) rfl
                · intro a w' hS hO hF' hP K hK; obtain ⟨_, f0, rfl⟩ := (hF' 3 rfl).1 113 _ rfl rfl; obtain ⟨_, f1, rfl⟩ := (hF' 4 rfl).1 114 _ rfl rfl; refine if_ok (by rfl) ?_; refine wp_addI _ _ rfl (ev f0) (ev f1) z0 ?_; exact hK _ w' nofun (keep_same hS) rfl
                · intro a w' hS hO hF' hP K hK; obtain ⟨_, f0, Ay0, ny0, cy0, rfl, hc0, hn0, hr0⟩ := (hF' 2 rfl).1 112 _ rfl rfl; obtain ⟨_, f1, rfl⟩ := (hF' 5 rfl).1 115 _ rfl rfl; refine if_ok (by rfl) ?_; refine wp_bldI _ _ rfl (ev f0) (ev f1) ?_; exact hK _ w' nofun (keep_same hS) ⟨Ay0, ny0, cy0, rfl, hc0, hn0, hr0⟩
                · intro a w' hS hO hF' hP K hK; have ha := hO 13 (by rfl); refine if_ok (by rfl) ?_; refine wp_load_row 24 (.tmp 13) rfl g13 (ev ha) _ _ (0, 0) _ hS.1 Tryz.underlying24 rfl (by kernel_rfl) ?_; exact hK _ w' nofun (keep_same hS) rfl
                · intro a w' hS hO hF' hP K hK; have ha := hO 15 (by rfl); refine if_ok (by rfl) ?_; refine wp_load_row 24 (.tmp 15) rfl g15 (ev ha) _ _ (0, 0) _ hS.2.1 Tryz.underlying24 rfl (by kernel_rfl) ?_; exact hK _ w' nofun (keep_same hS) rfl
                · intro a w' hS hO hF' hP K hK; obtain ⟨_, f0, rfl⟩ := (hF' 7 rfl).1 117 _ rfl rfl; obtain ⟨_, f1, rfl⟩ := (hF' 8 rfl).1 118 _ rfl rfl; refine if_ok (by rfl) ?_; refine wp_calls rfl (enters_of Tryz.func86 (by kernel_rfl) rfl) (args := #[(.agg #[.slice A13 na c13, .bool a4]), (.agg #[.slice A15 nb c15, .bool a5])]) (by simp [Act.eval, f0, f1]) ?_; obtain ⟨O13, O15, r13, r15, TT, BB⟩ := id hS; apply Calls.mono; exact T2.out.sub _ _ _ _ _ r13 r15 TT hc13 hc15; rintro e w2 ⟨A, n, c, rfl, hc, hn, hv, hb⟩; exact ⟨_, rfl, hK _ w2 nofun (keep_below hb hS) ⟨A, n, c, rfl, hc, hn, hv.rd⟩⟩
                · intro a w' hS hO hF' hP K hK; have f0 := hO 20 (by rfl); refine if_ok (by rfl) ?_; unfold Oper.wp execOp; simp only [Sem.run_pure, ev f0]; exact hK _ w' nofun (keep_same hS) rfl
                · intro a w' hS hO hF' hP K hK; have f0 := hO 22 (by rfl); refine if_ok (by rfl) ?_; unfold Oper.wp execOp; simp only [Sem.run_pure, ev f0]; exact hK _ w' nofun (keep_same hS) rfl
                · intro a w' hS hO hF' hP K hK; obtain ⟨_, f0, rfl⟩ := (hF' 10 rfl).1 120 _ rfl rfl; obtain ⟨_, f1, rfl⟩ := (hF' 11 rfl).1 121 _ rfl rfl; refine if_ok (by rfl) ?_; refine wp_subI _ _ rfl (ev f0) (ev f1) z1 ?_; exact hK _ w' nofun (keep_same hS) rfl
                · intro a w' hS hO hF' hP K hK; obtain ⟨_, f0, Ay0, ny0, cy0, rfl, hc0, hn0, hr0⟩ := (hF' 9 rfl).1 119 _ rfl rfl; obtain ⟨_, f1, rfl⟩ := (hF' 12 rfl).1 122 _ rfl rfl; refine if_ok (by rfl) ?_; refine wp_bldI _ _ rfl (ev f0) (ev f1) ?_; exact hK _ w' nofun (keep_same hS) ⟨Ay0, ny0, cy0, rfl, hc0, hn0, hr0⟩
                · intro a w' hS hO hF' hP K hK; have ha := hO 13 (by rfl); refine if_ok (by rfl) ?_; refine wp_load_row 24 (.tmp 13) rfl g13 (ev ha) _ _ (0, 0) _ hS.1 Tryz.underlying24 rfl (by kernel_rfl) ?_; exact hK _ w' nofun (keep_same hS) rfl
                · intro a w' hS hO hF' hP K hK; have ha := hO 15 (by rfl); refine if_ok (by rfl) ?_; refine wp_load_row 24 (.tmp 15) rfl g15 (ev ha) _ _ (0, 0) _ hS.2.1 Tryz.underlying24 rfl (by kernel_rfl) ?_; exact hK _ w' nofun (keep_same hS) rfl
                · intro a w' hS hO hF' hP K hK; obtain ⟨_, f0, rfl⟩ := (hF' 14 rfl).1 124 _ rfl rfl; obtain ⟨_, f1, rfl⟩ := (hF' 15 rfl).1 125 _ rfl rfl; refine if_ok (by rfl) ?_; refine wp_calls rfl (enters_of Tryz.func87 (by kernel_rfl) rfl) (args := #[(.agg #[.slice A13 na c13, .bool a4]), (.agg #[.slice A15 nb c15, .bool a5])]) (by simp [Act.eval, f0, f1]) ?_; obtain ⟨O13, O15, r13, r15, TT, BB⟩ := id hS; apply Calls.mono; exact T2.out.mul _ _ _ _ _ r13 r15 TT hc13 hc15; rintro e w2 ⟨A, n, c, rfl, hc, hn, hv, hb⟩; exact ⟨_, rfl, hK _ w2 nofun (keep_below hb hS) ⟨A, n, c, rfl, hc, hn, hv.rd⟩⟩
                · intro a w' hS hO hF' hP K hK; have f0 := hO 20 (by rfl); refine if_ok (by rfl) ?_; unfold Oper.wp execOp; simp only [Sem.run_pure, ev f0]; exact hK _ w' nofun (keep_same hS) rfl
                · intro a w' hS hO hF' hP K hK; have f0 := hO 22 (by rfl); refine if_ok (by rfl) ?_; unfold Oper.wp execOp; simp only [Sem.run_pure, ev f0]; exact hK _ w' nofun (keep_same hS) rfl
                · intro a w' hS hO hF' hP K hK; obtain ⟨_, f0, rfl⟩ := (hF' 17 rfl).1 127 _ rfl rfl; obtain ⟨_, f1, rfl⟩ := (hF' 18 rfl).1 128 _ rfl rfl; refine if_ok (by rfl) ?_; refine wp_mulI _ _ rfl (ev f0) (ev f1) z2 ?_; exact hK _ w' nofun (keep_same hS) rfl
                · intro a w' hS hO hF' hP K hK; obtain ⟨_, f0, Ay0, ny0, cy0, rfl, hc0, hn0, hr0⟩ := (hF' 16 rfl).1 126 _ rfl rfl; obtain ⟨_, f1, rfl⟩ := (hF' 19 rfl).1 129 _ rfl rfl; refine if_ok (by rfl) ?_; refine wp_bldI _ _ rfl (ev f0) (ev f1) ?_; exact hK _ w' nofun (keep_same hS) ⟨Ay0, ny0, cy0, rfl, hc0, hn0, hr0⟩
                · intro a w' hS hO hF' hP K hK; have ha := hO 13 (by rfl); refine if_ok (by rfl) ?_; refine wp_load_row 24 (.tmp 13) rfl g13 (ev ha) _ _ (0, 0) _ hS.1 Tryz.underlying24 rfl (by kernel_rfl) ?_; exact hK _ w' nofun (keep_same hS) rfl
                · intro a w' hS hO hF' hP K hK; have ha := hO 15 (by rfl); refine if_ok (by rfl) ?_; refine wp_load_row 24 (.tmp 15) rfl g15 (ev ha) _ _ (0, 0) _ hS.2.1 Tryz.underlying24 rfl (by kernel_rfl) ?_; exact hK _ w' nofun (keep_same hS) rfl
                · intro a w' hS hO hF' hP K hK; obtain ⟨_, f0, rfl⟩ := (hF' 21 rfl).1 131 _ rfl rfl; obtain ⟨_, f1, rfl⟩ := (hF' 22 rfl).1 132 _ rfl rfl; refine if_ok (by rfl) ?_; refine wp_calls rfl (enters_of Tryz.func88 (by kernel_rfl) rfl) (args := #[(.agg #[.slice A13 na c13, .bool a4]), (.agg #[.slice A15 nb c15, .bool a5])]) (by simp [Act.eval, f0, f1]) ?_; obtain ⟨O13, O15, r13, r15, TT, BB⟩ := id hS; apply Calls.mono; exact T2.out.and _ _ _ _ _ r13 r15 TT hc13 hc15; rintro e w2 ⟨A, n, c, rfl, hc, hn, hv, hb⟩; exact ⟨_, rfl, hK _ w2 nofun (keep_below hb hS) ⟨A, n, c, rfl, hc, hn, hv.rd⟩⟩
                · intro a w' hS hO hF' hP K hK; have f0 := hO 20 (by rfl); refine if_ok (by rfl) ?_; unfold Oper.wp execOp; simp only [Sem.run_pure, ev f0]; exact hK _ w' nofun (keep_same hS) rfl
                · intro a w' hS hO hF' hP K hK; have f0 := hO 22 (by rfl); refine if_ok (by rfl) ?_; unfold Oper.wp execOp; simp only [Sem.run_pure, ev f0]; exact hK _ w' nofun (keep_same hS) rfl
                · intro a w' hS hO hF' hP K hK; obtain ⟨_, f0, rfl⟩ := (hF' 24 rfl).1 134 _ rfl rfl; obtain ⟨_, f1, rfl⟩ := (hF' 25 rfl).1 135 _ rfl rfl; refine if_ok (by rfl) ?_; refine wp_andI _ _ rfl (ev f0) (ev f1) ?_; exact hK _ w' nofun (keep_same hS) rfl
                · intro a w' hS hO hF' hP K hK; obtain ⟨_, f0, Ay0, ny0, cy0, rfl, hc0, hn0, hr0⟩ := (hF' 23 rfl).1 133 _ rfl rfl; obtain ⟨_, f1, rfl⟩ := (hF' 26 rfl).1 136 _ rfl rfl; refine if_ok (by rfl) ?_; refine wp_bldI _ _ rfl (ev f0) (ev f1) ?_; exact hK _ w' nofun (keep_same hS) ⟨Ay0, ny0, cy0, rfl, hc0, hn0, hr0⟩
                · intro a w' hS hO hF' hP K hK; have ha := hO 13 (by rfl); refine if_ok (by rfl) ?_; refine wp_load_row 24 (.tmp 13) rfl g13 (ev ha) _ _ (0, 0) _ hS.1 Tryz.underlying24 rfl (by kernel_rfl) ?_; exact hK _ w' nofun (keep_same hS) rfl
                · intro a w' hS hO hF' hP K hK; have ha := hO 15 (by rfl); refine if_ok (by rfl) ?_; refine wp_load_row 24 (.tmp 15) rfl g15 (ev ha) _ _ (0, 0) _ hS.2.1 Tryz.underlying24 rfl (by kernel_rfl) ?_; exact hK _ w' nofun (keep_same hS) rfl
                · intro a w' hS hO hF' hP K hK; obtain ⟨_, f0, rfl⟩ := (hF' 28 rfl).1 138 _ rfl rfl; obtain ⟨_, f1, rfl⟩ := (hF' 29 rfl).1 139 _ rfl rfl; refine if_ok (by rfl) ?_; refine wp_calls rfl (enters_of Tryz.func57 (by kernel_rfl) rfl) (args := #[(.agg #[.slice A13 na c13, .bool a4]), (.agg #[.slice A15 nb c15, .bool a5])]) (by simp [Act.eval, f0, f1]) ?_; obtain ⟨O13, O15, r13, r15, TT, BB⟩ := id hS; apply Calls.mono; exact T2.out.or _ _ _ _ _ r13 r15 TT hc13 hc15; rintro e w2 ⟨A, n, c, rfl, hc, hn, hv, hb⟩; exact ⟨_, rfl, hK _ w2 nofun (keep_below hb hS) ⟨A, n, c, rfl, hc, hn, hv.rd⟩⟩
                · intro a w' hS hO hF' hP K hK; have f0 := hO 20 (by rfl); refine if_ok (by rfl) ?_; unfold Oper.wp execOp; simp only [Sem.run_pure, ev f0]; exact hK _ w' nofun (keep_same hS) rfl
                · intro a w' hS hO hF' hP K hK; have f0 := hO 22 (by rfl); refine if_ok (by rfl) ?_; unfold Oper.wp execOp; simp only [Sem.run_pure, ev f0]; exact hK _ w' nofun (keep_same hS) rfl
                · intro a w' hS hO hF' hP K hK; obtain ⟨_, f0, rfl⟩ := (hF' 31 rfl).1 141 _ rfl rfl; obtain ⟨_, f1, rfl⟩ := (hF' 32 rfl).1 142 _ rfl rfl; refine if_ok (by rfl) ?_; refine wp_orI _ _ rfl (ev f0) (ev f1) ?_; exact hK _ w' nofun (keep_same hS) rfl
                · intro a w' hS hO hF' hP K hK; obtain ⟨_, f0, Ay0, ny0, cy0, rfl, hc0, hn0, hr0⟩ := (hF' 30 rfl).1 140 _ rfl rfl; obtain ⟨_, f1, rfl⟩ := (hF' 33 rfl).1 143 _ rfl rfl; refine if_ok (by rfl) ?_; refine wp_bldI _ _ rfl (ev f0) (ev f1) ?_; exact hK _ w' nofun (keep_same hS) ⟨Ay0, ny0, cy0, rfl, hc0, hn0, hr0⟩
                · intro a w' hS hO hF' hP K hK; have ha := hO 13 (by rfl); refine if_ok (by rfl) ?_; refine wp_load_row 24 (.tmp 13) rfl g13 (ev ha) _ _ (0, 0) _ hS.1 Tryz.underlying24 rfl (by kernel_rfl) ?_; exact hK _ w' nofun (keep_same hS) rfl
                · intro a w' hS hO hF' hP K hK; have ha := hO 15 (by rfl); refine if_ok (by rfl) ?_; refine wp_load_row 24 (.tmp 15) rfl g15 (ev ha) _ _ (0, 0) _ hS.2.1 Tryz.underlying24 rfl (by kernel_rfl) ?_; exact hK _ w' nofun (keep_same hS) rfl
                · intro a w' hS hO hF' hP K hK; obtain ⟨_, f0, rfl⟩ := (hF' 35 rfl).1 145 _ rfl rfl; obtain ⟨_, f1, rfl⟩ := (hF' 36 rfl).1 146 _ rfl rfl; refine if_ok (by rfl) ?_; refine wp_calls rfl (enters_of Tryz.func89 (by kernel_rfl) rfl) (args := #[(.agg #[.slice A13 na c13, .bool a4]), (.agg #[.slice A15 nb c15, .bool a5])]) (by simp [Act.eval, f0, f1]) ?_; obtain ⟨O13, O15, r13, r15, TT, BB⟩ := id hS; apply Calls.mono; exact T2.out.xor _ _ _ _ _ r13 r15 TT hc13 hc15; rintro e w2 ⟨A, n, c, rfl, hc, hn, hv, hb⟩; exact ⟨_, rfl, hK _ w2 nofun (keep_below hb hS) ⟨A, n, c, rfl, hc, hn, hv.rd⟩⟩
                · intro a w' hS hO hF' hP K hK; have f0 := hO 20 (by rfl); refine if_ok (by rfl) ?_; unfold Oper.wp execOp; simp only [Sem.run_pure, ev f0]; exact hK _ w' nofun (keep_same hS) rfl
                · intro a w' hS hO hF' hP K hK; have f0 := hO 22 (by rfl); refine if_ok (by rfl) ?_; unfold Oper.wp execOp; simp only [Sem.run_pure, ev f0]; exact hK _ w' nofun (keep_same hS) rfl
                · intro a w' hS hO hF' hP K hK; obtain ⟨_, f0, rfl⟩ := (hF' 38 rfl).1 148 _ rfl rfl; obtain ⟨_, f1, rfl⟩ := (hF' 39 rfl).1 149 _ rfl rfl; refine if_ok (by rfl) ?_; refine wp_xorI _ _ rfl (ev f0) (ev f1) ?_; exact hK _ w' nofun (keep_same hS) rfl
                · intro a w' hS hO hF' hP K hK; obtain ⟨_, f0, Ay0, ny0, cy0, rfl, hc0, hn0, hr0⟩ := (hF' 37 rfl).1 147 _ rfl rfl; obtain ⟨_, f1, rfl⟩ := (hF' 40 rfl).1 150 _ rfl rfl; refine if_ok (by rfl) ?_; refine wp_bldI _ _ rfl (ev f0) (ev f1) ?_; exact hK _ w' nofun (keep_same hS) ⟨Ay0, ny0, cy0, rfl, hc0, hn0, hr0⟩
                · intro a w' hS hO hF' hP K hK; have ha := hO 13 (by rfl); refine if_ok (by rfl) ?_; refine wp_load_row 24 (.tmp 13) rfl g13 (ev ha) _ _ (0, 0) _ hS.1 Tryz.underlying24 rfl (by kernel_rfl) ?_; exact hK _ w' nofun (keep_same hS) rfl
                · intro a w' hS hO hF' hP K hK; have ha := hO 15 (by rfl); refine if_ok (by rfl) ?_; refine wp_load_row 24 (.tmp 15) rfl g15 (ev ha) _ _ (0, 0) _ hS.2.1 Tryz.underlying24 rfl (by kernel_rfl) ?_; exact hK _ w' nofun (keep_same hS) rfl
                · intro a w' hS hO hF' hP K hK; obtain ⟨_, f0, rfl⟩ := (hF' 42 rfl).1 152 _ rfl rfl; obtain ⟨_, f1, rfl⟩ := (hF' 43 rfl).1 153 _ rfl rfl; refine if_ok (by rfl) ?_; refine wp_calls rfl (enters_of Tryz.func90 (by kernel_rfl) rfl) (args := #[(.agg #[.slice A13 na c13, .bool a4]), (.agg #[.slice A15 nb c15, .bool a5])]) (by simp [Act.eval, f0, f1]) ?_; obtain ⟨O13, O15, r13, r15, TT, BB⟩ := id hS; apply Calls.mono; exact T2.out.xnor _ _ _ _ _ r13 r15 TT hc13 hc15; rintro e w2 ⟨A, n, c, rfl, hc, hn, hv, hb⟩; exact ⟨_, rfl, hK _ w2 nofun (keep_below hb hS) ⟨A, n, c, rfl, hc, hn, hv.rd⟩⟩
                · intro a w' hS hO hF' hP K hK; have f0 := hO 20 (by rfl); refine if_ok (by rfl) ?_; unfold Oper.wp execOp; simp only [Sem.run_pure, ev f0]; exact hK _ w' nofun (keep_same hS) rfl
                · intro a w' hS hO hF' hP K hK; have f0 := hO 22 (by rfl); refine if_ok (by rfl) ?_; unfold Oper.wp execOp; simp only [Sem.run_pure, ev f0]; exact hK _ w' nofun (keep_same hS) rfl
                · intro a w' hS hO hF' hP K hK; obtain ⟨_, f0, rfl⟩ := (hF' 45 rfl).1 155 _ rfl rfl; obtain ⟨_, f1, rfl⟩ := (hF' 46 rfl).1 156 _ rfl rfl; refine if_ok (by rfl) ?_; refine wp_xorI _ _ rfl (ev f0) (ev f1) ?_; exact hK _ w' nofun (keep_same hS) rfl
                · intro a w' hS hO hF' hP K hK; obtain ⟨_, f0, rfl⟩ := (hF' 47 rfl).1 157 _ rfl rfl; refine if_ok (by rfl) ?_; refine wp_cplI _ rfl (ev f0) ?_; exact hK _ w' nofun (keep_same hS) rfl
                · intro a w' hS hO hF' hP K hK; obtain ⟨_, f0, Ay0, ny0, cy0, rfl, hc0, hn0, hr0⟩ := (hF' 44 rfl).1 154 _ rfl rfl; obtain ⟨_, f1, rfl⟩ := (hF' 48 rfl).1 158 _ rfl rfl; refine if_ok (by rfl) ?_; refine wp_bldI _ _ rfl (ev f0) (ev f1) ?_; exact hK _ w' nofun (keep_same hS) ⟨Ay0, ny0, cy0, rfl, hc0, hn0, hr0⟩
                · intro a w' hS hO hF' hP K hK; obtain ⟨_, f0, Ay0, ny0, cy0, rfl, hc0, hn0, hr0⟩ := (hF' 6 rfl).1 116 _ rfl rfl; obtain ⟨_, f1, Ay1, ny1, cy1, rfl, hc1, hn1, hr1⟩ := (hF' 13 rfl).1 123 _ rfl rfl; obtain ⟨_, f2, Ay2, ny2, cy2, rfl, hc2, hn2, hr2⟩ := (hF' 20 rfl).1 130 _ rfl rfl; obtain ⟨_, f3, Ay3, ny3, cy3, rfl, hc3, hn3, hr3⟩ := (hF' 27 rfl).1 137 _ rfl rfl; obtain ⟨_, f4, Ay4, ny4, cy4, rfl, hc4, hn4, hr4⟩ := (hF' 34 rfl).1 144 _ rfl rfl; obtain ⟨_, f5, Ay5, ny5, cy5, rfl, hc5, hn5, hr5⟩ := (hF' 41 rfl).1 151 _ rfl rfl; obtain ⟨_, f6, Ay6, ny6, cy6, rfl, hc6, hn6, hr6⟩ := (hF' 49 rfl).1 159 _ rfl rfl; refine if_ok (by rfl) ?_; refine wp_bs7 _ _ _ _ _ _ _ rfl (fun j => ([⟨Ay0, ny0, cy0, (wI W S (i + k)).s⟩, ⟨Ay1, ny1, cy1, (wI W S (i - k)).s⟩, ⟨Ay2, ny2, cy2, (wI W S (i * k)).s⟩, ⟨Ay3, ny3, cy3, (wI W S (bits .and .i64 i k)).s⟩, ⟨Ay4, ny4, cy4, (wI W S (bits .or .i64 i k)).s⟩, ⟨Ay5, ny5, cy5, (wI W S (bits .xor .i64 i k)).s⟩, ⟨Ay6, ny6, cy6, (wI W S (bits .xor .i64 (-1) (bits .xor .i64 i k))).s⟩] : List Cv).getD j ⟨none, 0, 0, false⟩) (zs7 i k) (ev f0) (ev f1) (ev f2) (ev f3) (ev f4) (ev f5) (ev f6) ?_; refine hK _ _ nofun (keep_below (below_new (Below.refl _ _) _) hS) ⟨_, _, rfl, Own.new w' 73 _, fun j hj => ?_⟩
                  rcases (show j = 0 ∨ j = 1 ∨ j = 2 ∨ j = 3 ∨ j = 4 ∨ j = 5 ∨ j = 6 by omega) with rfl | rfl | rfl | rfl | rfl | rfl | rfl
                  · exact ⟨rfl, hc0, hn0, hr0.alloc _⟩
                  · exact ⟨rfl, hc1, hn1, hr1.alloc _⟩
                  · exact ⟨rfl, hc2, hn2, hr2.alloc _⟩
                  · exact ⟨rfl, hc3, hn3, hr3.alloc _⟩
                  · exact ⟨rfl, hc4, hn4, hr4.alloc _⟩
                  · exact ⟨rfl, hc5, hn5, hr5.alloc _⟩
                  · exact ⟨rfl, hc6, hn6, hr6.alloc _⟩
                · intro a w' hS hO hF' hP K hK; obtain ⟨_, f0, gy0, fy0, rfl, ht0⟩ := (hF' 50 rfl).1 160 _ rfl rfl; refine if_ok (by rfl) ?_; refine wp_lenTI _ rfl (ev f0) ?_; exact hK _ w' nofun (keep_same hS) rfl
                · intro a w' hS hO hF' hP K hK; refine if_ok (by rfl) ?_; refine wp_mvc rfl ?_; exact hK _ w' nofun (keep_same hS) rfl
              · intro vs0 u hl0 hS hV0
                match vs0, hl0, hV0 with
                | v0 :: v1 :: v2 :: v3 :: v4 :: v5 :: v6 :: v7 :: v8 :: v9 :: v10 :: v11 :: v12 :: v13 :: v14 :: v15 :: v16 :: v17 :: v18 :: v19 :: v20 :: v21 :: v22 :: v23 :: v24 :: v25 :: v26 :: v27 :: v28 :: v29 :: v30 :: v31 :: v32 :: v33 :: v34 :: v35 :: v36 :: v37 :: v38 :: v39 :: v40 :: v41 :: v42 :: v43 :: v44 :: v45 :: v46 :: v47 :: v48 :: v49 :: v50 :: v51 :: v52 :: [], _, hV =>
                  obtain rfl := hV 0 _ rfl
                  obtain rfl := hV 1 _ rfl
                  obtain rfl := hV 3 _ rfl
                  obtain rfl := hV 4 _ rfl
                  obtain rfl := hV 5 _ rfl
                  obtain rfl := hV 7 _ rfl
                  obtain rfl := hV 8 _ rfl
                  obtain rfl := hV 10 _ rfl
                  obtain rfl := hV 11 _ rfl
                  obtain rfl := hV 12 _ rfl
                  obtain rfl := hV 14 _ rfl
                  obtain rfl := hV 15 _ rfl
                  obtain rfl := hV 17 _ rfl
                  obtain rfl := hV 18 _ rfl
                  obtain rfl := hV 19 _ rfl
                  obtain rfl := hV 21 _ rfl
                  obtain rfl := hV 22 _ rfl
                  obtain rfl := hV 24 _ rfl
                  obtain rfl := hV 25 _ rfl
                  obtain rfl := hV 26 _ rfl
                  obtain rfl := hV 28 _ rfl
                  obtain rfl := hV 29 _ rfl
                  obtain rfl := hV 31 _ rfl
                  obtain rfl := hV 32 _ rfl
                  obtain rfl := hV 33 _ rfl
                  obtain rfl := hV 35 _ rfl
                  obtain rfl := hV 36 _ rfl
                  obtain rfl := hV 38 _ rfl
                  obtain rfl := hV 39 _ rfl
                  obtain rfl := hV 40 _ rfl
                  obtain rfl := hV 42 _ rfl
                  obtain rfl := hV 43 _ rfl
                  obtain rfl := hV 45 _ rfl
                  obtain rfl := hV 46 _ rfl
                  obtain rfl := hV 47 _ rfl
                  obtain rfl := hV 48 _ rfl
                  obtain ⟨gT, fT, rfl, HT⟩ := hV 50 _ rfl
                  obtain rfl := hV 51 _ rfl
                  obtain rfl := hV 52 _ rfl
                  simp only [puts, Act.put, List.setIfInBounds_toArray, List.set_cons_zero, List.set_cons_succ]
                  clear O13 O15 r13 r15 TT BB
                  obtain ⟨O13, O15, r13, r15, TT, BB⟩ := hS
                  clear hV hV0 hl0
                  replace O13 : Own u g13 24 #[.slice A13 na c13, .bool a4] := O13
                  replace O15 : Own u g15 24 #[.slice A15 nb c15, .bool a5] := O15
                  replace r13 : Rb u A13 na la := r13
                  replace r15 : Rb u A15 nb lb := r15
                  replace TT : Tabs u := TT
                  replace BB : Below w.heap.size w u := BB
                  obtain ⟨u8, rfl⟩ : ∃ x : World, x = u := ⟨_, rfl⟩
                  clear z0 z1 z2
                  replace HT : Tbl u8 gT 73 7 fT (fun j => wI W S (zs7 i k j)) (fun j => .int .i64 (zs7 i k j)) := HT
                  replace BB := Lib.hid BB
                  go_wp2_with fail
                  go_loopw [162] (fun q wr => ∃ j : Nat, j ≤ 7 ∧ q = .int .i64 j ∧ Hid (Own wr g13 24 #[.slice A13 na c13, .bool a4]) ∧ Hid (Own wr g15 24 #[.slice A15 nb c15, .bool a5]) ∧ Hid (Rb wr A13 na la) ∧ Hid (Rb wr A15 nb lb) ∧ Hid (Tbl wr gT 73 7 fT (fun j => wI W S (zs7 i k j)) (fun j => .int .i64 (zs7 i k j))) ∧ Hid (Tabs wr) ∧ Hid (Below w.heap.size w wr)) (fun q _ => 7 - (intOf q).toNat)
                  case atStart => exact ⟨0, by decide, rfl, Lib.hid O13, Lib.hid O15, Lib.hid r13, Lib.hid r15, Lib.hid HT, Lib.hid TT, BB⟩
                  case round =>
                    clear O13 O15 r13 r15 HT TT BB
                    obtain ⟨j, hj, rfl, O13, O15, r13, r15, HT, TT, BB⟩ := hrel
                    replace O13 := O13.out
                    replace O15 := O15.out
                    replace r13 := r13.out
                    replace r15 := r15.out
                    replace HT := HT.out
                    replace TT := TT.out
                    by_cases hlt : j < 7
                    · skip
                      replace BB := BB.out
                      obtain ⟨zj, hzj⟩ : ∃ z, z = zs7 i k j := ⟨_, rfl⟩
                      have hzb : -9223372036854775808 ≤ zj ∧ zj ≤ 9223372036854775807 := by rw [hzj]; exact zs7_bd T2.out.bds.1 T2.out.bds.2.1 j
                      obtain ⟨AT, nT, cT, e0, e1, e2, hcT, hnT, rT⟩ := HT.row hlt
                      replace e1 : wr.cell? ⟨gT, j * 3 + 1, none⟩ = some (.bool S) := e1
                      replace e2 : wr.cell? ⟨gT, j * 3 + 2, none⟩ = some (Value.int .i64 (zs7 i k j)) := e2
                      have e3 : wr.cell? ⟨gT, 0 + j * 3, none⟩ = some (.slice AT nT cT) := by rw [Nat.zero_add]; exact e0
                      have e4 : wr.cell? ⟨gT, 0 + j * 3 + 1, none⟩ = some (.bool S) := by rw [Nat.zero_add]; exact e1
                      have e5 : wr.cell? ⟨gT, 0 + j * 3 + 2, none⟩ = some (Value.int .i64 (zs7 i k j)) := by rw [Nat.zero_add]; exact e2
                      have d1 : decide ((j : Int) < 7) = true := by simp; omega
                      rw [← hzj] at e2 e5
                      replace rT : Rb wr AT nT (wI W S zj).l := by rw [hzj]; exact rT
                      replace hzj := Lib.hid hzj
                      go_wp2_with fail
                      clear e0 e1 e2 e3 e4 e5
                      replace O13 := O13.alloc (.cells #[.slice AT nT cT, .bool S, .int .i64 zj] 73)
                      replace O15 := O15.alloc (.cells #[.slice AT nT cT, .bool S, .int .i64 zj] 73)
                      replace r13 := r13.alloc (.cells #[.slice AT nT cT, .bool S, .int .i64 zj] 73)
                      replace r15 := r15.alloc (.cells #[.slice AT nT cT, .bool S, .int .i64 zj] 73)
                      replace rT := rT.alloc (.cells #[.slice AT nT cT, .bool S, .int .i64 zj] 73)
                      replace HT := HT.alloc (.cells #[.slice AT nT cT, .bool S, .int .i64 zj] 73)
                      replace TT := TT.alloc (.cells #[.slice AT nT cT, .bool S, .int .i64 zj] 73)
                      replace BB := below_new BB (.cells #[.slice AT nT cT, .bool S, .int .i64 zj] 73)
                      have O26 := Own.new wr 73 #[.slice AT nT cT, .bool S, .int .i64 zj]
                      have qO130 := O13.cell 0
                      have qO131 := O13.cell 1
                      have qO150 := O15.cell 0
                      have qO151 := O15.cell 1
                      have qO260 := O26.cell 0
                      have qO261 := O26.cell 1
                      go_at_call 37
                      clear qO130 qO131 qO150 qO151 qO260 qO261
                      generalize wr.heap.size = g26 at *
                      generalize wr.alloc (.cells #[.slice AT nT cT, .bool S, .int .i64 zj] 73) = u26 at *
                      refine (fromI_any W S T2.out.wle.1 T2.out.wle.2 zj hzb _).mono ?_
                      rintro e wk ⟨A27, n27, c27, rfl, hc27, hn27, hv, hb⟩
                      replace O13 := (O13.step hb).alloc (.cells #[.slice A27 n27 c27, .bool S] 24)
                      replace O15 := (O15.step hb).alloc (.cells #[.slice A27 n27 c27, .bool S] 24)
                      replace O26 := (O26.step hb).alloc (.cells #[.slice A27 n27 c27, .bool S] 24)
                      replace r13 := (r13.step hb).alloc (.cells #[.slice A27 n27 c27, .bool S] 24)
                      replace r15 := (r15.step hb).alloc (.cells #[.slice A27 n27 c27, .bool S] 24)
                      replace rT := (rT.step hb).alloc (.cells #[.slice A27 n27 c27, .bool S] 24)
                      replace HT := (HT.step hb).alloc (.cells #[.slice A27 n27 c27, .bool S] 24)
                      replace TT := (TT.step hb).alloc (.cells #[.slice A27 n27 c27, .bool S] 24)
                      replace BB := below_new (below_step BB hb) (.cells #[.slice A27 n27 c27, .bool S] 24)
                      have O27 := Own.new wk 24 #[.slice A27 n27 c27, .bool S]
                      have r27 := hv.rd.alloc (.cells #[.slice A27 n27 c27, .bool S] 24)
                      clear hb hv
                      have qO130 := O13.cell 0
                      have qO131 := O13.cell 1
                      have qO150 := O15.cell 0
                      have qO151 := O15.cell 1
                      have qO260 := O26.cell 0
                      have qO261 := O26.cell 1
                      have qO270 := O27.cell 0
                      have qO271 := O27.cell 1
                      go_wp2_with fail
                      go_at_call 16
                      clear qO130 qO131 qO150 qO151 qO260 qO261 qO270 qO271
                      generalize wk.heap.size = g27 at *
                      generalize wk.alloc (.cells #[.slice A27 n27 c27, .bool S] 24) = u5 at *
                      refine (same_t _ _ _ _ _ _ _ _ _ _ _ rT r27 hnT hn27 (sameV_self _)).mono ?_
                      rintro e wk ⟨rfl, hb⟩
                      replace O13 := O13.step hb
                      replace O15 := O15.step hb
                      replace O26 := O26.step hb
                      replace O27 := O27.step hb
                      replace r13 := r13.step hb
                      replace r15 := r15.step hb
                      replace rT := rT.step hb
                      replace r27 := r27.step hb
                      replace HT := HT.step hb
                      replace TT := TT.step hb
                      replace BB := below_step BB hb
                      clear hb
                      obtain ⟨u6, rfl⟩ : ∃ u : World, u = wk := ⟨_, rfl⟩
                      have qO130 := O13.cell 0
                      have qO131 := O13.cell 1
                      have qO150 := O15.cell 0
                      have qO151 := O15.cell 1
                      have qO260 := O26.cell 0
                      have qO261 := O26.cell 1
                      have qO270 := O27.cell 0
                      have qO271 := O27.cell 1
                      go_wp2
                      go_roundw
                      case rel => exact ⟨j + 1, by omega, by go_num, Lib.hid O13, Lib.hid O15, Lib.hid r13, Lib.hid r15, Lib.hid HT, Lib.hid TT, Lib.hid BB⟩
                      case measure => simp [intOf]; omega
                    · obtain rfl : j = 7 := by omega
                      clear HT
                      go_upto_if 185 with fail
                      have hW := T2.out.wle
                      go_cut [24, 185] from 407 (fun s24 _ wx => s24 = .int .i64 (W : Nat) ∧ Hid (Own wx g13 24 #[.slice A13 na c13, .bool a4]) ∧ Hid (Own wx g15 24 #[.slice A15 nb c15, .bool a5]) ∧ Hid (Rb wx A13 na la) ∧ Hid (Rb wx A15 nb lb) ∧ Hid (Tabs wx) ∧ Hid (Below w.heap.size w wx))
                      case first =>
                        replace BB := BB.out
                        by_cases hk : k = 0
                        · have t1 : (k != 0) = false := by rw [hk]; rfl
                          have t2 : (k == 0) = true := by rw [hk]; rfl
                          replace hk := Lib.hid hk
                          have qO130 := O13.cell 0
                          have qO131 := O13.cell 1
                          have qO150 := O15.cell 0
                          have qO151 := O15.cell 1
                          go_wp2_with fail
                          go_at_call 58
                          clear qO130 qO131 qO150 qO151
                          refine (T2.out.div0 hk.out _ _ _ _ _ r13 r15 TT hc13 hc15).mono ?_
                          rintro e wk ⟨AD, nD, cD, rfl, hcD, hnD, hv, hb⟩
                          replace O13 := O13.step hb
                          replace O15 := O15.step hb
                          replace r13 := r13.step hb
                          replace r15 := r15.step hb
                          replace TT := TT.step hb
                          replace BB := below_step BB hb
                          have rD := hv.rd
                          clear hb hv
                          obtain ⟨uD, rfl⟩ : ∃ u : World, u = wk := ⟨_, rfl⟩
                          have qO130 := O13.cell 0
                          have qO131 := O13.cell 1
                          have qO150 := O15.cell 0
                          have qO151 := O15.cell 1
                          go_wp2_with fail
                          go_at_call 31
                          clear qO130 qO131 qO150 qO151
                          refine (known0 _ W _ S hW.1 (by omega) _ _ rD).mono ?_
                          rintro e wk ⟨rfl, hb⟩
                          replace O13 := O13.step hb
                          replace O15 := O15.step hb
                          replace r13 := r13.step hb
                          replace r15 := r15.step hb
                          replace rD := rD.step hb
                          replace TT := TT.step hb
                          replace BB := below_step BB hb
                          clear hb
                          obtain ⟨u7, rfl⟩ : ∃ u : World, u = wk := ⟨_, rfl⟩
                          have qO130 := O13.cell 0
                          have qO131 := O13.cell 1
                          have qO150 := O15.cell 0
                          have qO151 := O15.cell 1
                          clear rD
                          go_wp2_with fail
                          go_at_call 60
                          clear qO130 qO131 qO150 qO151
                          refine (T2.out.mod0 hk.out _ _ _ _ _ r13 r15 TT hc13 hc15).mono ?_
                          rintro e wk ⟨AD, nD, cD, rfl, hcD, hnD, hv, hb⟩
                          replace O13 := O13.step hb
                          replace O15 := O15.step hb
                          replace r13 := r13.step hb
                          replace r15 := r15.step hb
                          replace TT := TT.step hb
                          replace BB := below_step BB hb
                          have rD := hv.rd
                          clear hb hv
                          obtain ⟨uD, rfl⟩ : ∃ u : World, u = wk := ⟨_, rfl⟩
                          have qO130 := O13.cell 0
                          have qO131 := O13.cell 1
                          have qO150 := O15.cell 0
                          have qO151 := O15.cell 1
                          go_wp2_with fail
                          go_at_call 31
                          clear qO130 qO131 qO150 qO151
                          refine (known0 _ W _ S hW.1 (by omega) _ _ rD).mono ?_
                          rintro e wk ⟨rfl, hb⟩
                          replace O13 := O13.step hb
                          replace O15 := O15.step hb
                          replace r13 := r13.step hb
                          replace r15 := r15.step hb
                          replace rD := rD.step hb
                          replace TT := TT.step hb
                          replace BB := below_step BB hb
                          clear hb
                          obtain ⟨u8, rfl⟩ : ∃ u : World, u = wk := ⟨_, rfl⟩
                          have qO130 := O13.cell 0
                          have qO131 := O13.cell 1
                          have qO150 := O15.cell 0
                          have qO151 := O15.cell 1
                          go_wp2_with fail
                          go_meet
                          exact ⟨rfl, Lib.hid O13, Lib.hid O15, Lib.hid r13, Lib.hid r15, Lib.hid TT, Lib.hid BB⟩
                        · have t1 : (k != 0) = true := by simp [hk]
                          have t2 : (k == 0) = false := by simp [hk]
                          replace hk := Lib.hid hk
                          have BD := T2.out.bds
                          have z0 : IntKind.i64.wrap (i.tdiv k) = i.tdiv k := IntWalk.i64_in _ (tdiv_bd BD.1)
                          have z1 : IntKind.i64.wrap (i.tmod k) = i.tmod k := IntWalk.i64_in _ (tmod_bd BD.1)
                          have hz0 := tdiv_bd (k := k) BD.1
                          have hz1 := tmod_bd (k := k) BD.1
                          clear BD
                          replace hz0 := Lib.hid hz0
                          replace hz1 := Lib.hid hz1
                          have qO130 := O13.cell 0
                          have qO131 := O13.cell 1
                          have qO150 := O15.cell 0
                          have qO151 := O15.cell 1
                          go_wp2_with fail
                          go_at_call 37
                          clear qO130 qO131 qO150 qO151
                          refine (fromI_any W S hW.1 hW.2 _ hz0.out _).mono ?_
                          rintro e wk ⟨A29, n29, c29, rfl, hc29, hn29, hv, hb⟩
                          replace O13 := (O13.step hb).alloc (.cells #[.slice A29 n29 c29, .bool S] 24)
                          replace O15 := (O15.step hb).alloc (.cells #[.slice A29 n29 c29, .bool S] 24)
                          replace r13 := (r13.step hb).alloc (.cells #[.slice A29 n29 c29, .bool S] 24)
                          replace r15 := (r15.step hb).alloc (.cells #[.slice A29 n29 c29, .bool S] 24)
                          replace TT := (TT.step hb).alloc (.cells #[.slice A29 n29 c29, .bool S] 24)
                          replace BB := below_new (below_step BB hb) (.cells #[.slice A29 n29 c29, .bool S] 24)
                          have O29 := Own.new wk 24 #[.slice A29 n29 c29, .bool S]
                          have r29 := hv.rd.alloc (.cells #[.slice A29 n29 c29, .bool S] 24)
                          clear hb hv
                          have qO130 := O13.cell 0
                          have qO131 := O13.cell 1
                          have qO150 := O15.cell 0
                          have qO151 := O15.cell 1
                          have qO290 := O29.cell 0
                          have qO291 := O29.cell 1
                          go_wp2_with fail
                          go_at_call 37
                          clear qO130 qO131 qO150 qO151 qO290 qO291
                          generalize wk.heap.size = g29 at *
                          generalize wk.alloc (.cells #[.slice A29 n29 c29, .bool S] 24) = u9 at *
                          refine (fromI_any W S hW.1 hW.2 _ hz1.out _).mono ?_
                          rintro e wk ⟨A31, n31, c31, rfl, hc31, hn31, hv, hb⟩
                          replace O13 := (O13.step hb).alloc (.cells #[.slice A31 n31 c31, .bool S] 24)
                          replace O15 := (O15.step hb).alloc (.cells #[.slice A31 n31 c31, .bool S] 24)
                          replace O29 := (O29.step hb).alloc (.cells #[.slice A31 n31 c31, .bool S] 24)
                          replace r13 := (r13.step hb).alloc (.cells #[.slice A31 n31 c31, .bool S] 24)
                          replace r15 := (r15.step hb).alloc (.cells #[.slice A31 n31 c31, .bool S] 24)
                          replace r29 := (r29.step hb).alloc (.cells #[.slice A31 n31 c31, .bool S] 24)
                          replace TT := (TT.step hb).alloc (.cells #[.slice A31 n31 c31, .bool S] 24)
                          replace BB := below_new (below_step BB hb) (.cells #[.slice A31 n31 c31, .bool S] 24)
                          have O31 := Own.new wk 24 #[.slice A31 n31 c31, .bool S]
                          have r31 := hv.rd.alloc (.cells #[.slice A31 n31 c31, .bool S] 24)
                          clear hb hv
                          have qO130 := O13.cell 0
                          have qO131 := O13.cell 1
                          have qO150 := O15.cell 0
                          have qO151 := O15.cell 1
                          have qO290 := O29.cell 0
                          have qO291 := O29.cell 1
                          have qO310 := O31.cell 0
                          have qO311 := O31.cell 1
                          go_wp2_with fail
                          clear qO130 qO131 qO150 qO151 qO290 qO291 qO310 qO311
                          generalize wk.heap.size = g31 at *
                          generalize wk.alloc (.cells #[.slice A31 n31 c31, .bool S] 24) = u10 at *
                          replace O29 : Own u10 g29 24 #[.slice A29 n29 c29, .bool S] := O29
                          replace O31 : Own u10 g31 24 #[.slice A31 n31 c31, .bool S] := O31
                          replace BB := Lib.hid BB
                          refine region_y (by kernel_rfl) (fun u => owns g13 #[.slice A13 na c13, .bool a4] u ∧ (owns g15 #[.slice A15 nb c15, .bool a5] u ∧ (owns g29 #[.slice A29 n29 c29, .bool S] u ∧ (owns g31 #[.slice A31 n31 c31, .bool S] u ∧ (rds A13 na la u ∧ (rds A15 nb lb u ∧ (rds A29 n29 (wI W S (i.tdiv k)).l u ∧ (rds A31 n31 (wI W S (i.tmod k)).l u ∧ (tbs u ∧ blw w u))))))))) [] [isV (.int .i64 0), isV (.bool false), isV (.bool false), isV (.int .i64 0), isV (.bool false), isV (.bool false), isV (.bool false), isV (.agg #[.slice A13 na c13, .bool a4]), isV (.agg #[.slice A15 nb c15, .bool a5]), isW (wI W S (i.tdiv k)), isV (.agg #[.slice A29 n29 c29, .bool S]), isV (.bool true), isV (.bool false), isV (.bool false), isV (.bool false), isV (.agg #[.slice A13 na c13, .bool a4]), isV (.agg #[.slice A15 nb c15, .bool a5]), isW (wI W S (i.tmod k)), isV (.agg #[.slice A31 n31 c31, .bool S]), isV (.bool true), isV (.bool false), isV (.bool false)] [some 204, some 205, some 206, some 207, some 208, some 209, some 210, some 211, some 212, some 213, some 214, some 215, some 216, some 217, some 218, some 219, some 220, some 221, some 222, some 223, some 224, some 225] [[], [0], [1], [2], [3, 2], [2, 4], [5, 2], [6], [6], [7, 8, 6, 6], [6], [9, 10, 9, 6], [11, 6], [6, 12], [13, 11], [14], [14], [15, 16, 14, 14], [14], [17, 18, 17, 14], [19, 14], [14, 20]] (by kernel_rfl) (by kernel_rfl) rfl (by kernel_rfl) (by kernel_rfl) (by kernel_rfl) ⟨O13.drew, O15.drew, O29.drew, O31.drew, r13.drew, r15.drew, r29.drew, r31.drew, TT.drew, below_drew BB.out⟩ (fun _ h => by cases h) ?_ ?_
                          · refine ⟨?_, ?_, ?_, ?_, ?_, ?_, ?_, ?_, ?_, ?_, ?_, ?_, ?_, ?_, ?_, ?_, ?_, ?_, ?_, ?_, ?_, ?_, trivial⟩
                            · intro a w' hS hO hF' hP K hK; have f0 := hO 30 (by rfl); refine if_ok (by rfl) ?_; unfold Oper.wp execOp; simp only [Sem.run_pure, ev f0]; exact hK _ w' nofun (keep_same hS) rfl
                            · intro a w' hS hO hF' hP K hK; obtain ⟨_, f0, rfl⟩ := (hF' 0 rfl).1 204 _ rfl rfl; refine if_ok (by rfl) ?_; refine wp_val (w' := w') (q := .bool false) (by unfold execOp; simp only [(ev f0)]; simp [go_sem]) ?_; exact hK _ w' nofun (keep_same hS) rfl
                            · intro a w' hS hO hF' hP K hK; obtain ⟨_, f0, rfl⟩ := (hF' 1 rfl).1 205 _ rfl rfl; refine if_ok (by rfl) ?_; unfold Oper.wp execOp; simp only [Sem.run_pure, ev f0]; exact hK _ w' nofun (keep_same hS) rfl
                            · intro a w' hS hO hF' hP K hK; obtain ⟨_, fg, rfl⟩ := (hF' 2 rfl).1 206 _ rfl rfl; have f0 := hO 32 (by rfl); refine if_wanted (by rfl) (yield_of (by rfl) fg) ?_; unfold Oper.wp execOp; simp only [Sem.run_pure, ev f0]; exact hK _ w' nofun (keep_same hS) rfl
                            · intro a w' hS hO hF' hP K hK; obtain ⟨_, fg, rfl⟩ := (hF' 2 rfl).1 206 _ rfl rfl; obtain ⟨_, f0, rfl⟩ := (hF' 3 rfl).1 207 _ rfl rfl; refine if_wanted (by rfl) (yield_of (by rfl) fg) ?_; refine wp_val (w' := w') (q := .bool false) (by unfold execOp; simp only [(ev f0)]; simp [go_sem]) ?_; exact hK _ w' nofun (keep_same hS) rfl
                            · intro a w' hS hO hF' hP K hK; obtain ⟨_, f0, rfl⟩ := (hF' 2 rfl).1 206 _ rfl rfl; obtain ⟨_, f1, rfl⟩ := (hF' 4 rfl).1 208 _ rfl rfl; refine if_ok (by rfl) ?_; refine wp_pick_or _ _ _ rfl (ev f0) (ev f1) ?_; exact hK _ w' nofun (keep_same hS) rfl
                            · intro a w' hS hO hF' hP K hK; obtain ⟨_, f0, rfl⟩ := (hF' 5 rfl).1 209 _ rfl rfl; refine if_ok (by rfl) ?_; unfold Oper.wp execOp; simp only [Sem.run_pure, ev f0]; exact hK _ w' nofun (keep_same hS) rfl
                            · intro a w' hS hO hF' hP K hK; obtain ⟨_, fg, rfl⟩ := (hF' 6 rfl).1 210 _ rfl rfl; have ha := hO 13 (by rfl); refine if_wanted (by rfl) (yield_of (by rfl) fg) ?_; refine wp_load_row 24 (.tmp 13) rfl g13 (ev ha) _ _ (0, 0) _ hS.1 Tryz.underlying24 rfl (by kernel_rfl) ?_; exact hK _ w' nofun (keep_same hS) rfl
                            · intro a w' hS hO hF' hP K hK; obtain ⟨_, fg, rfl⟩ := (hF' 6 rfl).1 210 _ rfl rfl; have ha := hO 15 (by rfl); refine if_wanted (by rfl) (yield_of (by rfl) fg) ?_; refine wp_load_row 24 (.tmp 15) rfl g15 (ev ha) _ _ (0, 0) _ hS.2.1 Tryz.underlying24 rfl (by kernel_rfl) ?_; exact hK _ w' nofun (keep_same hS) rfl
                            · intro a w' hS hO hF' hP K hK; obtain ⟨_, fg, rfl⟩ := (hF' 6 rfl).1 210 _ rfl rfl; obtain ⟨_, f0, rfl⟩ := (hF' 7 rfl).1 211 _ rfl rfl; obtain ⟨_, f1, rfl⟩ := (hF' 8 rfl).1 212 _ rfl rfl; refine if_wanted (by rfl) (yield_of (by rfl) fg) ?_; refine wp_calls rfl (enters_of Tryz.func58 (by kernel_rfl) rfl) (args := #[(.agg #[.slice A13 na c13, .bool a4]), (.agg #[.slice A15 nb c15, .bool a5])]) (by simp [Act.eval, f0, f1]) ?_; obtain ⟨O13, O15, O29, O31, r13, r15, r29, r31, TT, BB⟩ := id hS; apply Calls.mono; exact T2.out.div hk.out _ _ _ _ _ r13 r15 TT hc13 hc15; rintro e w2 ⟨A, n, c, rfl, hc, hn, hv, hb⟩; exact ⟨_, rfl, hK _ w2 nofun (keep_below hb hS) ⟨A, n, c, rfl, hc, hn, hv.rd⟩⟩
                            · intro a w' hS hO hF' hP K hK; obtain ⟨_, fg, rfl⟩ := (hF' 6 rfl).1 210 _ rfl rfl; have ha := hO 29 (by rfl); refine if_wanted (by rfl) (yield_of (by rfl) fg) ?_; refine wp_load_row 24 (.tmp 29) rfl g29 (ev ha) _ _ (0, 0) _ hS.2.2.1 Tryz.underlying24 rfl (by kernel_rfl) ?_; exact hK _ w' nofun (keep_same hS) rfl
                            · intro a w' hS hO hF' hP K hK; obtain ⟨_, fg, rfl⟩ := (hF' 6 rfl).1 210 _ rfl rfl; obtain ⟨_, f0, Ay0, ny0, cy0, rfl, hc0, hn0, hr0⟩ := (hF' 9 rfl).1 213 _ rfl rfl; obtain ⟨_, f1, rfl⟩ := (hF' 10 rfl).1 214 _ rfl rfl; refine if_wanted (by rfl) (yield_of (by rfl) fg) ?_; refine wp_calls rfl (enters_of Tryz.func16 (by kernel_rfl) rfl) (args := #[(.agg #[.slice Ay0 ny0 cy0, .bool (wI W S (i.tdiv k)).s]), (.agg #[.slice A29 n29 c29, .bool S])]) (by simp [Act.eval, f0, f1]) ?_; obtain ⟨O13, O15, O29, O31, r13, r15, r29, r31, TT, BB⟩ := id hS; apply Calls.mono; (with_reducible apply same_t); (repeat (first | assumption | (with_reducible (apply Nb.rd; assumption)) | (with_reducible (apply Rb.at_later; assumption)) | (with_reducible (apply Tabs.at_later; assumption)) | (with_reducible apply Rb.alloc) | (with_reducible apply Tabs.alloc) | (with_reducible apply Rb.drew) | (with_reducible apply Tabs.drew) | (show I64 _; unfold I64; omega) | omega)); (first | exact sameV_self _ | (decide +kernel)); rintro e w2 ⟨rfl, hb⟩; exact ⟨_, rfl, hK _ w2 nofun (keep_below hb hS) rfl⟩
                            · intro a w' hS hO hF' hP K hK; obtain ⟨_, fg, rfl⟩ := (hF' 6 rfl).1 210 _ rfl rfl; obtain ⟨_, f0, rfl⟩ := (hF' 11 rfl).1 215 _ rfl rfl; refine if_wanted (by rfl) (yield_of (by rfl) fg) ?_; refine wp_not _ rfl (ev f0) ?_; exact hK _ w' nofun (keep_same hS) rfl
                            · intro a w' hS hO hF' hP K hK; obtain ⟨_, f0, rfl⟩ := (hF' 6 rfl).1 210 _ rfl rfl; obtain ⟨_, f1, rfl⟩ := (hF' 12 rfl).1 216 _ rfl rfl; refine if_ok (by rfl) ?_; refine wp_pick_or _ _ _ rfl (ev f0) (ev f1) ?_; exact hK _ w' nofun (keep_same hS) rfl
                            · intro a w' hS hO hF' hP K hK; obtain ⟨_, f0, rfl⟩ := (hF' 13 rfl).1 217 _ rfl rfl; refine if_ok (by rfl) ?_; unfold Oper.wp execOp; simp only [Sem.run_pure, ev f0]; exact hK _ w' nofun (keep_same hS) rfl
                            · intro a w' hS hO hF' hP K hK; obtain ⟨_, fg, rfl⟩ := (hF' 14 rfl).1 218 _ rfl rfl; have ha := hO 13 (by rfl); refine if_wanted (by rfl) (yield_of (by rfl) fg) ?_; refine wp_load_row 24 (.tmp 13) rfl g13 (ev ha) _ _ (0, 0) _ hS.1 Tryz.underlying24 rfl (by kernel_rfl) ?_; exact hK _ w' nofun (keep_same hS) rfl
                            · intro a w' hS hO hF' hP K hK; obtain ⟨_, fg, rfl⟩ := (hF' 14 rfl).1 218 _ rfl rfl; have ha := hO 15 (by rfl); refine if_wanted (by rfl) (yield_of (by rfl) fg) ?_; refine wp_load_row 24 (.tmp 15) rfl g15 (ev ha) _ _ (0, 0) _ hS.2.1 Tryz.underlying24 rfl (by kernel_rfl) ?_; exact hK _ w' nofun (keep_same hS) rfl
                            · intro a w' hS hO hF' hP K hK; obtain ⟨_, fg, rfl⟩ := (hF' 14 rfl).1 218 _ rfl rfl; obtain ⟨_, f0, rfl⟩ := (hF' 15 rfl).1 219 _ rfl rfl; obtain ⟨_, f1, rfl⟩ := (hF' 16 rfl).1 220 _ rfl rfl; refine if_wanted (by rfl) (yield_of (by rfl) fg) ?_; refine wp_calls rfl (enters_of Tryz.func60 (by kernel_rfl) rfl) (args := #[(.agg #[.slice A13 na c13, .bool a4]), (.agg #[.slice A15 nb c15, .bool a5])]) (by simp [Act.eval, f0, f1]) ?_; obtain ⟨O13, O15, O29, O31, r13, r15, r29, r31, TT, BB⟩ := id hS; apply Calls.mono; exact T2.out.mod hk.out _ _ _ _ _ r13 r15 TT hc13 hc15; rintro e w2 ⟨A, n, c, rfl, hc, hn, hv, hb⟩; exact ⟨_, rfl, hK _ w2 nofun (keep_below hb hS) ⟨A, n, c, rfl, hc, hn, hv.rd⟩⟩
                            · intro a w' hS hO hF' hP K hK; obtain ⟨_, fg, rfl⟩ := (hF' 14 rfl).1 218 _ rfl rfl; have ha := hO 31 (by rfl); refine if_wanted (by rfl) (yield_of (by rfl) fg) ?_; refine wp_load_row 24 (.tmp 31) rfl g31 (ev ha) _ _ (0, 0) _ hS.2.2.2.1 Tryz.underlying24 rfl (by kernel_rfl) ?_; exact hK _ w' nofun (keep_same hS) rfl
                            · intro a w' hS hO hF' hP K hK; obtain ⟨_, fg, rfl⟩ := (hF' 14 rfl).1 218 _ rfl rfl; obtain ⟨_, f0, Ay0, ny0, cy0, rfl, hc0, hn0, hr0⟩ := (hF' 17 rfl).1 221 _ rfl rfl; obtain ⟨_, f1, rfl⟩ := (hF' 18 rfl).1 222 _ rfl rfl; refine if_wanted (by rfl) (yield_of (by rfl) fg) ?_; refine wp_calls rfl (enters_of Tryz.func16 (by kernel_rfl) rfl) (args := #[(.agg #[.slice Ay0 ny0 cy0, .bool (wI W S (i.tmod k)).s]), (.agg #[.slice A31 n31 c31, .bool S])]) (by simp [Act.eval, f0, f1]) ?_; obtain ⟨O13, O15, O29, O31, r13, r15, r29, r31, TT, BB⟩ := id hS; apply Calls.mono; (with_reducible apply same_t); (repeat (first | assumption | (with_reducible (apply Nb.rd; assumption)) | (with_reducible (apply Rb.at_later; assumption)) | (with_reducible (apply Tabs.at_later; assumption)) | (with_reducible apply Rb.alloc) | (with_reducible apply Tabs.alloc) | (with_reducible apply Rb.drew) | (with_reducible apply Tabs.drew) | (show I64 _; unfold I64; omega) | omega)); (first | exact sameV_self _ | (decide +kernel)); rintro e w2 ⟨rfl, hb⟩; exact ⟨_, rfl, hK _ w2 nofun (keep_below hb hS) rfl⟩
                            · intro a w' hS hO hF' hP K hK; obtain ⟨_, fg, rfl⟩ := (hF' 14 rfl).1 218 _ rfl rfl; obtain ⟨_, f0, rfl⟩ := (hF' 19 rfl).1 223 _ rfl rfl; refine if_wanted (by rfl) (yield_of (by rfl) fg) ?_; refine wp_not _ rfl (ev f0) ?_; exact hK _ w' nofun (keep_same hS) rfl
                            · intro a w' hS hO hF' hP K hK; obtain ⟨_, f0, rfl⟩ := (hF' 14 rfl).1 218 _ rfl rfl; obtain ⟨_, f1, rfl⟩ := (hF' 20 rfl).1 224 _ rfl rfl; refine if_ok (by rfl) ?_; refine wp_pick_or _ _ _ rfl (ev f0) (ev f1) ?_; exact hK _ w' nofun (keep_same hS) rfl
                          · intro vs0 u hl0 hS hV0
                            match vs0, hl0, hV0 with
                            | [v0, v1, v2, v3, v4, v5, v6, v7, v8, v9, v10, v11, v12, v13, v14, v15, v16, v17, v18, v19, v20, v21], _, hV =>
                              obtain rfl := hV 0 _ rfl
                              obtain rfl := hV 1 _ rfl
                              obtain rfl := hV 2 _ rfl
                              obtain rfl := hV 3 _ rfl
                              obtain rfl := hV 4 _ rfl
                              obtain rfl := hV 5 _ rfl
                              obtain rfl := hV 6 _ rfl
                              obtain rfl := hV 7 _ rfl
                              obtain rfl := hV 8 _ rfl
                              obtain rfl := hV 10 _ rfl
                              obtain rfl := hV 11 _ rfl
                              obtain rfl := hV 12 _ rfl
                              obtain rfl := hV 13 _ rfl
                              obtain rfl := hV 14 _ rfl
                              obtain rfl := hV 15 _ rfl
                              obtain rfl := hV 16 _ rfl
                              obtain rfl := hV 18 _ rfl
                              obtain rfl := hV 19 _ rfl
                              obtain rfl := hV 20 _ rfl
                              obtain rfl := hV 21 _ rfl
                              simp only [puts, Act.put, List.setIfInBounds_toArray, List.set_cons_zero, List.set_cons_succ]
                              clear O13 O15 O29 O31 r13 r15 r29 r31 TT BB
                              obtain ⟨O13, O15, O29, O31, r13, r15, r29, r31, TT, BB⟩ := hS
                              clear hV hV0 hl0
                              replace O13 : Own u g13 24 #[.slice A13 na c13, .bool a4] := O13
                              replace O15 : Own u g15 24 #[.slice A15 nb c15, .bool a5] := O15
                              replace O29 : Own u g29 24 #[.slice A29 n29 c29, .bool S] := O29
                              replace O31 : Own u g31 24 #[.slice A31 n31 c31, .bool S] := O31
                              replace r13 : Rb u A13 na la := r13
                              replace r15 : Rb u A15 nb lb := r15
                              replace r29 : Rb u A29 n29 (wI W S (i.tdiv k)).l := r29
                              replace r31 : Rb u A31 n31 (wI W S (i.tmod k)).l := r31
                              replace TT : Tabs u := TT
                              replace BB : Below w.heap.size w u := BB
                              go_wp2_with fail
                              skip
                              go_meet
                              exact ⟨rfl, Lib.hid O13, Lib.hid O15, Lib.hid r13, Lib.hid r15, Lib.hid TT, Lib.hid BB⟩
                      case rest =>
                        clear O13 O15 r13 r15 TT BB
                        obtain ⟨rfl, O13, O15, r13, r15, TT, BB⟩ := hcut
                        obtain ⟨u9, rfl⟩ : ∃ x : World, x = wc := ⟨_, rfl⟩
                        replace O13 := O13.out
                        replace O15 := O15.out
                        replace r13 := r13.out
                        replace r15 := r15.out
                        replace TT := TT.out
                        replace BB := BB
                        go_wp2_with fail
                        refine region_y (by kernel_rfl) (fun u => owns g13 #[.slice A13 na c13, .bool a4] u ∧ (owns g15 #[.slice A15 nb c15, .bool a5] u ∧ (rds A13 na la u ∧ (rds A15 nb lb u ∧ (tbs u ∧ blw w u))))) [] (iv26 A13 A15 na c13 nb c15 a4 a5 i k) ((some 236) :: (some 237) :: (some 238) :: (some 239) :: (some 240) :: (some 241) :: (some 242) :: (some 243) :: (some 244) :: (some 245) :: (some 246) :: (some 247) :: (some 248) :: (some 249) :: (some 250) :: (some 251) :: (some 252) :: (some 253) :: (some 254) :: (some 255) :: (some 256) :: (some 257) :: (some 258) :: (some 259) :: (some 260) :: (some 261) :: (some 262) :: (some 263) :: (some 264) :: (some 265) :: (some 266) :: (some 267) :: (some 268) :: (some 269) :: (some 270) :: (some 271) :: (some 272) :: (some 273) :: (some 274) :: (some 275) :: (some 276) :: (some 277) :: (some 278) :: (some 279) :: (some 280) :: (some 281) :: (some 282) :: (some 283) :: (some 284) :: (some 285) :: (some 286) :: (some 287) :: (some 288) :: (some 289) :: (some 290) :: (some 291) :: (some 292) :: (some 293) :: (some 294) :: (some 295) :: (some 296) :: (some 297) :: (some 298) :: (some 299) :: (some 300) :: (some 301) :: (some 302) :: (some 303) :: (some 304) :: (some 305) :: (some 306) :: (some 307) :: (some 308) :: (some 309) :: (some 310) :: (some 311) :: (some 312) :: []) ([] :: [] :: [0, 1] :: [] :: [] :: [3, 4] :: [2, 5] :: [] :: [] :: [7, 8, 2] :: [] :: [] :: [10, 11] :: [9, 12] :: [] :: [] :: [14, 15, 9] :: [] :: [] :: [17, 18] :: [16, 19] :: [] :: [] :: [21, 22, 16] :: [] :: [] :: [24, 25] :: [23, 26] :: [] :: [] :: [28, 29, 23] :: [] :: [] :: [31, 32] :: [30, 33] :: [] :: [] :: [35, 36, 30] :: [] :: [] :: [38, 39] :: [37, 40] :: [] :: [] :: [42, 43, 37] :: [] :: [] :: [45, 46] :: [44, 47] :: [] :: [] :: [49, 50, 44] :: [] :: [52] :: [53, 51] :: [54] :: [55, 54] :: [54, 56] :: [51, 57] :: [] :: [] :: [59, 60, 54] :: [] :: [62] :: [63, 61] :: [64] :: [65, 64] :: [64, 66] :: [61, 67] :: [] :: [69, 64] :: [] :: [71] :: [70, 72] :: [6, 13, 20, 27, 34, 41, 48, 58, 68, 73] :: [74] :: [] :: []) (by kernel_rfl) (by kernel_rfl) rfl (by kernel_rfl) (by kernel_rfl) (by kernel_rfl) ⟨O13.drew, O15.drew, r13.drew, r15.drew, TT.drew, below_drew BB.out⟩ (fun _ h => by cases h) ?_ ?_
                        · refine ⟨?_, ?_, ?_, ?_, ?_, ?_, ?_, ?_, ?_, ?_, ?_, ?_, ?_, ?_, ?_, ?_, ?_, ?_, ?_, ?_, ?_, ?_, ?_, ?_, ?_, ?_, ?_, ?_, ?_, ?_, ?_, ?_, ?_, ?_, ?_, ?_, ?_, ?_, ?_, ?_, ?_, ?_, ?_, ?_, ?_, ?_, ?_, ?_, ?_, ?_, ?_, ?_, ?_, ?_, ?_, ?_, ?_, ?_, ?_, ?_, ?_, ?_, ?_, ?_, ?_, ?_, ?_, ?_, ?_, ?_, ?_, ?_, ?_, ?_, ?_, ?_, ?_, trivial⟩
                          · intro a w' hS hO hF' hP K hK; have ha := hO 13 (by rfl); refine if_ok (by rfl) ?_; refine wp_load_row 24 (.tmp 13) rfl g13 (ev ha) _ _ (0, 0) _ hS.1 Tryz.underlying24 rfl (by kernel_rfl) ?_; exact hK _ w' nofun (keep_same hS) rfl
                          · intro a w' hS hO hF' hP K hK; have ha := hO 15 (by rfl); refine if_ok (by rfl) ?_; refine wp_load_row 24 (.tmp 15) rfl g15 (ev ha) _ _ (0, 0) _ hS.2.1 Tryz.underlying24 rfl (by kernel_rfl) ?_; exact hK _ w' nofun (keep_same hS) rfl
                          · intro a w' hS hO hF' hP K hK; obtain ⟨_, f0, rfl⟩ := (hF' 0 rfl).1 236 _ rfl rfl; obtain ⟨_, f1, rfl⟩ := (hF' 1 rfl).1 237 _ rfl rfl; refine if_ok (by rfl) ?_; refine wp_calls rfl (enters_of Tryz.func76 (by kernel_rfl) rfl) (args := #[(.agg #[.slice A13 na c13, .bool a4]), (.agg #[.slice A15 nb c15, .bool a5])]) (by simp [Act.eval, f0, f1]) ?_; obtain ⟨O13, O15, r13, r15, TT, BB⟩ := id hS; apply Calls.mono; exact T2.out.lt _ _ _ _ _ r13 r15 TT hc13 hc15; rintro e w2 ⟨A, n, c, rfl, hc, hn, hv, hb⟩; exact ⟨_, rfl, hK _ w2 nofun (keep_below hb hS) ⟨A, n, c, rfl, hc, hn, hv.rd⟩⟩
                          · intro a w' hS hO hF' hP K hK; have f0 := hO 20 (by rfl); refine if_ok (by rfl) ?_; unfold Oper.wp execOp; simp only [Sem.run_pure, ev f0]; exact hK _ w' nofun (keep_same hS) rfl
                          · intro a w' hS hO hF' hP K hK; have f0 := hO 22 (by rfl); refine if_ok (by rfl) ?_; unfold Oper.wp execOp; simp only [Sem.run_pure, ev f0]; exact hK _ w' nofun (keep_same hS) rfl
                          · intro a w' hS hO hF' hP K hK; obtain ⟨_, f0, rfl⟩ := (hF' 3 rfl).1 239 _ rfl rfl; obtain ⟨_, f1, rfl⟩ := (hF' 4 rfl).1 240 _ rfl rfl; refine if_ok (by rfl) ?_; refine wp_lssI _ _ rfl (ev f0) (ev f1) ?_; exact hK _ w' nofun (keep_same hS) rfl
                          · intro a w' hS hO hF' hP K hK; obtain ⟨_, f0, Ay0, ny0, cy0, rfl, hc0, hn0, hr0⟩ := (hF' 2 rfl).1 238 _ rfl rfl; obtain ⟨_, f1, rfl⟩ := (hF' 5 rfl).1 241 _ rfl rfl; refine if_ok (by rfl) ?_; refine wp_bldB _ _ rfl (ev f0) (ev f1) ?_; exact hK _ w' nofun (keep_same hS) ⟨Ay0, ny0, cy0, rfl, hc0, hn0, hr0⟩
                          · intro a w' hS hO hF' hP K hK; have ha := hO 13 (by rfl); refine if_ok (by rfl) ?_; refine wp_load_row 24 (.tmp 13) rfl g13 (ev ha) _ _ (0, 0) _ hS.1 Tryz.underlying24 rfl (by kernel_rfl) ?_; exact hK _ w' nofun (keep_same hS) rfl
                          · intro a w' hS hO hF' hP K hK; have ha := hO 15 (by rfl); refine if_ok (by rfl) ?_; refine wp_load_row 24 (.tmp 15) rfl g15 (ev ha) _ _ (0, 0) _ hS.2.1 Tryz.underlying24 rfl (by kernel_rfl) ?_; exact hK _ w' nofun (keep_same hS) rfl
                          · intro a w' hS hO hF' hP K hK; obtain ⟨_, f0, rfl⟩ := (hF' 7 rfl).1 243 _ rfl rfl; obtain ⟨_, f1, rfl⟩ := (hF' 8 rfl).1 244 _ rfl rfl; refine if_ok (by rfl) ?_; refine wp_calls rfl (enters_of Tryz.func78 (by kernel_rfl) rfl) (args := #[(.agg #[.slice A13 na c13, .bool a4]), (.agg #[.slice A15 nb c15, .bool a5])]) (by simp [Act.eval, f0, f1]) ?_; obtain ⟨O13, O15, r13, r15, TT, BB⟩ := id hS; apply Calls.mono; exact T2.out.le _ _ _ _ _ r13 r15 TT hc13 hc15; rintro e w2 ⟨A, n, c, rfl, hc, hn, hv, hb⟩; exact ⟨_, rfl, hK _ w2 nofun (keep_below hb hS) ⟨A, n, c, rfl, hc, hn, hv.rd⟩⟩
                          · intro a w' hS hO hF' hP K hK; have f0 := hO 20 (by rfl); refine if_ok (by rfl) ?_; unfold Oper.wp execOp; simp only [Sem.run_pure, ev f0]; exact hK _ w' nofun (keep_same hS) rfl
                          · intro a w' hS hO hF' hP K hK; have f0 := hO 22 (by rfl); refine if_ok (by rfl) ?_; unfold Oper.wp execOp; simp only [Sem.run_pure, ev f0]; exact hK _ w' nofun (keep_same hS) rfl
                          · intro a w' hS hO hF' hP K hK; obtain ⟨_, f0, rfl⟩ := (hF' 10 rfl).1 246 _ rfl rfl; obtain ⟨_, f1, rfl⟩ := (hF' 11 rfl).1 247 _ rfl rfl; refine if_ok (by rfl) ?_; refine wp_leqI _ _ rfl (ev f0) (ev f1) ?_; exact hK _ w' nofun (keep_same hS) rfl
                          · intro a w' hS hO hF' hP K hK; obtain ⟨_, f0, Ay0, ny0, cy0, rfl, hc0, hn0, hr0⟩ := (hF' 9 rfl).1 245 _ rfl rfl; obtain ⟨_, f1, rfl⟩ := (hF' 12 rfl).1 248 _ rfl rfl; refine if_ok (by rfl) ?_; refine wp_bldB _ _ rfl (ev f0) (ev f1) ?_; exact hK _ w' nofun (keep_same hS) ⟨Ay0, ny0, cy0, rfl, hc0, hn0, hr0⟩
                          · intro a w' hS hO hF' hP K hK; have ha := hO 13 (by rfl); refine if_ok (by rfl) ?_; refine wp_load_row 24 (.tmp 13) rfl g13 (ev ha) _ _ (0, 0) _ hS.1 Tryz.underlying24 rfl (by kernel_rfl) ?_; exact hK _ w' nofun (keep_same hS) rfl
                          · intro a w' hS hO hF' hP K hK; have ha := hO 15 (by rfl); refine if_ok (by rfl) ?_; refine wp_load_row 24 (.tmp 15) rfl g15 (ev ha) _ _ (0, 0) _ hS.2.1 Tryz.underlying24 rfl (by kernel_rfl) ?_; exact hK _ w' nofun (keep_same hS) rfl
                          · intro a w' hS hO hF' hP K hK; obtain ⟨_, f0, rfl⟩ := (hF' 14 rfl).1 250 _ rfl rfl; obtain ⟨_, f1, rfl⟩ := (hF' 15 rfl).1 251 _ rfl rfl; refine if_ok (by rfl) ?_; refine wp_calls rfl (enters_of Tryz.func79 (by kernel_rfl) rfl) (args := #[(.agg #[.slice A13 na c13, .bool a4]), (.agg #[.slice A15 nb c15, .bool a5])]) (by simp [Act.eval, f0, f1]) ?_; obtain ⟨O13, O15, r13, r15, TT, BB⟩ := id hS; apply Calls.mono; exact T2.out.gt _ _ _ _ _ r13 r15 TT hc13 hc15; rintro e w2 ⟨A, n, c, rfl, hc, hn, hv, hb⟩; exact ⟨_, rfl, hK _ w2 nofun (keep_below hb hS) ⟨A, n, c, rfl, hc, hn, hv.rd⟩⟩
                          · intro a w' hS hO hF' hP K hK; have f0 := hO 20 (by rfl); refine if_ok (by rfl) ?_; unfold Oper.wp execOp; simp only [Sem.run_pure, ev f0]; exact hK _ w' nofun (keep_same hS) rfl
                          · intro a w' hS hO hF' hP K hK; have f0 := hO 22 (by rfl); refine if_ok (by rfl) ?_; unfold Oper.wp execOp; simp only [Sem.run_pure, ev f0]; exact hK _ w' nofun (keep_same hS) rfl
                          · intro a w' hS hO hF' hP K hK; obtain ⟨_, f0, rfl⟩ := (hF' 17 rfl).1 253 _ rfl rfl; obtain ⟨_, f1, rfl⟩ := (hF' 18 rfl).1 254 _ rfl rfl; refine if_ok (by rfl) ?_; refine wp_gtrI _ _ rfl (ev f0) (ev f1) ?_; exact hK _ w' nofun (keep_same hS) rfl
                          · intro a w' hS hO hF' hP K hK; obtain ⟨_, f0, Ay0, ny0, cy0, rfl, hc0, hn0, hr0⟩ := (hF' 16 rfl).1 252 _ rfl rfl; obtain ⟨_, f1, rfl⟩ := (hF' 19 rfl).1 255 _ rfl rfl; refine if_ok (by rfl) ?_; refine wp_bldB _ _ rfl (ev f0) (ev f1) ?_; exact hK _ w' nofun (keep_same hS) ⟨Ay0, ny0, cy0, rfl, hc0, hn0, hr0⟩
                          · intro a w' hS hO hF' hP K hK; have ha := hO 13 (by rfl); refine if_ok (by rfl) ?_; refine wp_load_row 24 (.tmp 13) rfl g13 (ev ha) _ _ (0, 0) _ hS.1 Tryz.underlying24 rfl (by kernel_rfl) ?_; exact hK _ w' nofun (keep_same hS) rfl
                          · intro a w' hS hO hF' hP K hK; have ha := hO 15 (by rfl); refine if_ok (by rfl) ?_; refine wp_load_row 24 (.tmp 15) rfl g15 (ev ha) _ _ (0, 0) _ hS.2.1 Tryz.underlying24 rfl (by kernel_rfl) ?_; exact hK _ w' nofun (keep_same hS) rfl
                          · intro a w' hS hO hF' hP K hK; obtain ⟨_, f0, rfl⟩ := (hF' 21 rfl).1 257 _ rfl rfl; obtain ⟨_, f1, rfl⟩ := (hF' 22 rfl).1 258 _ rfl rfl; refine if_ok (by rfl) ?_; refine wp_calls rfl (enters_of Tryz.func77 (by kernel_rfl) rfl) (args := #[(.agg #[.slice A13 na c13, .bool a4]), (.agg #[.slice A15 nb c15, .bool a5])]) (by simp [Act.eval, f0, f1]) ?_; obtain ⟨O13, O15, r13, r15, TT, BB⟩ := id hS; apply Calls.mono; exact T2.out.ge _ _ _ _ _ r13 r15 TT hc13 hc15; rintro e w2 ⟨A, n, c, rfl, hc, hn, hv, hb⟩; exact ⟨_, rfl, hK _ w2 nofun (keep_below hb hS) ⟨A, n, c, rfl, hc, hn, hv.rd⟩⟩
                          · intro a w' hS hO hF' hP K hK; have f0 := hO 20 (by rfl); refine if_ok (by rfl) ?_; unfold Oper.wp execOp; simp only [Sem.run_pure, ev f0]; exact hK _ w' nofun (keep_same hS) rfl
                          · intro a w' hS hO hF' hP K hK; have f0 := hO 22 (by rfl); refine if_ok (by rfl) ?_; unfold Oper.wp execOp; simp only [Sem.run_pure, ev f0]; exact hK _ w' nofun (keep_same hS) rfl
                          · intro a w' hS hO hF' hP K hK; obtain ⟨_, f0, rfl⟩ := (hF' 24 rfl).1 260 _ rfl rfl; obtain ⟨_, f1, rfl⟩ := (hF' 25 rfl).1 261 _ rfl rfl; refine if_ok (by rfl) ?_; refine wp_geqI _ _ rfl (ev f0) (ev f1) ?_; exact hK _ w' nofun (keep_same hS) rfl
                          · intro a w' hS hO hF' hP K hK; obtain ⟨_, f0, Ay0, ny0, cy0, rfl, hc0, hn0, hr0⟩ := (hF' 23 rfl).1 259 _ rfl rfl; obtain ⟨_, f1, rfl⟩ := (hF' 26 rfl).1 262 _ rfl rfl; refine if_ok (by rfl) ?_; refine wp_bldB _ _ rfl (ev f0) (ev f1) ?_; exact hK _ w' nofun (keep_same hS) ⟨Ay0, ny0, cy0, rfl, hc0, hn0, hr0⟩
                          · intro a w' hS hO hF' hP K hK; have ha := hO 13 (by rfl); refine if_ok (by rfl) ?_; refine wp_load_row 24 (.tmp 13) rfl g13 (ev ha) _ _ (0, 0) _ hS.1 Tryz.underlying24 rfl (by kernel_rfl) ?_; exact hK _ w' nofun (keep_same hS) rfl
                          · intro a w' hS hO hF' hP K hK; have ha := hO 15 (by rfl); refine if_ok (by rfl) ?_; refine wp_load_row 24 (.tmp 15) rfl g15 (ev ha) _ _ (0, 0) _ hS.2.1 Tryz.underlying24 rfl (by kernel_rfl) ?_; exact hK _ w' nofun (keep_same hS) rfl
                          · intro a w' hS hO hF' hP K hK; obtain ⟨_, f0, rfl⟩ := (hF' 28 rfl).1 264 _ rfl rfl; obtain ⟨_, f1, rfl⟩ := (hF' 29 rfl).1 265 _ rfl rfl; refine if_ok (by rfl) ?_; refine wp_calls rfl (enters_of Tryz.func91 (by kernel_rfl) rfl) (args := #[(.agg #[.slice A13 na c13, .bool a4]), (.agg #[.slice A15 nb c15, .bool a5])]) (by simp [Act.eval, f0, f1]) ?_; obtain ⟨O13, O15, r13, r15, TT, BB⟩ := id hS; apply Calls.mono; exact T2.out.eq _ _ _ _ _ r13 r15 TT hc13 hc15; rintro e w2 ⟨A, n, c, rfl, hc, hn, hv, hb⟩; exact ⟨_, rfl, hK _ w2 nofun (keep_below hb hS) ⟨A, n, c, rfl, hc, hn, hv.rd⟩⟩
                          · intro a w' hS hO hF' hP K hK; have f0 := hO 20 (by rfl); refine if_ok (by rfl) ?_; unfold Oper.wp execOp; simp only [Sem.run_pure, ev f0]; exact hK _ w' nofun (keep_same hS) rfl
                          · intro a w' hS hO hF' hP K hK; have f0 := hO 22 (by rfl); refine if_ok (by rfl) ?_; unfold Oper.wp execOp; simp only [Sem.run_pure, ev f0]; exact hK _ w' nofun (keep_same hS) rfl
                          · intro a w' hS hO hF' hP K hK; obtain ⟨_, f0, rfl⟩ := (hF' 31 rfl).1 267 _ rfl rfl; obtain ⟨_, f1, rfl⟩ := (hF' 32 rfl).1 268 _ rfl rfl; refine if_ok (by rfl) ?_; refine wp_eqlI _ _ rfl (ev f0) (ev f1) ?_; exact hK _ w' nofun (keep_same hS) rfl
                          · intro a w' hS hO hF' hP K hK; obtain ⟨_, f0, Ay0, ny0, cy0, rfl, hc0, hn0, hr0⟩ := (hF' 30 rfl).1 266 _ rfl rfl; obtain ⟨_, f1, rfl⟩ := (hF' 33 rfl).1 269 _ rfl rfl; refine if_ok (by rfl) ?_; refine wp_bldB _ _ rfl (ev f0) (ev f1) ?_; exact hK _ w' nofun (keep_same hS) ⟨Ay0, ny0, cy0, rfl, hc0, hn0, hr0⟩
                          · intro a w' hS hO hF' hP K hK; have ha := hO 13 (by rfl); refine if_ok (by rfl) ?_; refine wp_load_row 24 (.tmp 13) rfl g13 (ev ha) _ _ (0, 0) _ hS.1 Tryz.underlying24 rfl (by kernel_rfl) ?_; exact hK _ w' nofun (keep_same hS) rfl
                          · intro a w' hS hO hF' hP K hK; have ha := hO 15 (by rfl); refine if_ok (by rfl) ?_; refine wp_load_row 24 (.tmp 15) rfl g15 (ev ha) _ _ (0, 0) _ hS.2.1 Tryz.underlying24 rfl (by kernel_rfl) ?_; exact hK _ w' nofun (keep_same hS) rfl
                          · intro a w' hS hO hF' hP K hK; obtain ⟨_, f0, rfl⟩ := (hF' 35 rfl).1 271 _ rfl rfl; obtain ⟨_, f1, rfl⟩ := (hF' 36 rfl).1 272 _ rfl rfl; refine if_ok (by rfl) ?_; refine wp_calls rfl (enters_of Tryz.func80 (by kernel_rfl) rfl) (args := #[(.agg #[.slice A13 na c13, .bool a4]), (.agg #[.slice A15 nb c15, .bool a5])]) (by simp [Act.eval, f0, f1]) ?_; obtain ⟨O13, O15, r13, r15, TT, BB⟩ := id hS; apply Calls.mono; exact T2.out.ne _ _ _ _ _ r13 r15 TT hc13 hc15; rintro e w2 ⟨A, n, c, rfl, hc, hn, hv, hb⟩; exact ⟨_, rfl, hK _ w2 nofun (keep_below hb hS) ⟨A, n, c, rfl, hc, hn, hv.rd⟩⟩
                          · intro a w' hS hO hF' hP K hK; have f0 := hO 20 (by rfl); refine if_ok (by rfl) ?_; unfold Oper.wp execOp; simp only [Sem.run_pure, ev f0]; exact hK _ w' nofun (keep_same hS) rfl
                          · intro a w' hS hO hF' hP K hK; have f0 := hO 22 (by rfl); refine if_ok (by rfl) ?_; unfold Oper.wp execOp; simp only [Sem.run_pure, ev f0]; exact hK _ w' nofun (keep_same hS) rfl
                          · intro a w' hS hO hF' hP K hK; obtain ⟨_, f0, rfl⟩ := (hF' 38 rfl).1 274 _ rfl rfl; obtain ⟨_, f1, rfl⟩ := (hF' 39 rfl).1 275 _ rfl rfl; refine if_ok (by rfl) ?_; refine wp_neqI _ _ rfl (ev f0) (ev f1) ?_; exact hK _ w' nofun (keep_same hS) rfl
                          · intro a w' hS hO hF' hP K hK; obtain ⟨_, f0, Ay0, ny0, cy0, rfl, hc0, hn0, hr0⟩ := (hF' 37 rfl).1 273 _ rfl rfl; obtain ⟨_, f1, rfl⟩ := (hF' 40 rfl).1 276 _ rfl rfl; refine if_ok (by rfl) ?_; refine wp_bldB _ _ rfl (ev f0) (ev f1) ?_; exact hK _ w' nofun (keep_same hS) ⟨Ay0, ny0, cy0, rfl, hc0, hn0, hr0⟩
                          · intro a w' hS hO hF' hP K hK; have ha := hO 13 (by rfl); refine if_ok (by rfl) ?_; refine wp_load_row 24 (.tmp 13) rfl g13 (ev ha) _ _ (0, 0) _ hS.1 Tryz.underlying24 rfl (by kernel_rfl) ?_; exact hK _ w' nofun (keep_same hS) rfl
                          · intro a w' hS hO hF' hP K hK; have ha := hO 15 (by rfl); refine if_ok (by rfl) ?_; refine wp_load_row 24 (.tmp 15) rfl g15 (ev ha) _ _ (0, 0) _ hS.2.1 Tryz.underlying24 rfl (by kernel_rfl) ?_; exact hK _ w' nofun (keep_same hS) rfl
                          · intro a w' hS hO hF' hP K hK; obtain ⟨_, f0, rfl⟩ := (hF' 42 rfl).1 278 _ rfl rfl; obtain ⟨_, f1, rfl⟩ := (hF' 43 rfl).1 279 _ rfl rfl; refine if_ok (by rfl) ?_; refine wp_calls rfl (enters_of Tryz.func81 (by kernel_rfl) rfl) (args := #[(.agg #[.slice A13 na c13, .bool a4]), (.agg #[.slice A15 nb c15, .bool a5])]) (by simp [Act.eval, f0, f1]) ?_; obtain ⟨O13, O15, r13, r15, TT, BB⟩ := id hS; apply Calls.mono; exact T2.out.ceq _ _ _ _ _ r13 r15 TT hc13 hc15; rintro e w2 ⟨A, n, c, rfl, hc, hn, hv, hb⟩; exact ⟨_, rfl, hK _ w2 nofun (keep_below hb hS) ⟨A, n, c, rfl, hc, hn, hv.rd⟩⟩
                          · intro a w' hS hO hF' hP K hK; have f0 := hO 20 (by rfl); refine if_ok (by rfl) ?_; unfold Oper.wp execOp; simp only [Sem.run_pure, ev f0]; exact hK _ w' nofun (keep_same hS) rfl
                          · intro a w' hS hO hF' hP K hK; have f0 := hO 22 (by rfl); refine if_ok (by rfl) ?_; unfold Oper.wp execOp; simp only [Sem.run_pure, ev f0]; exact hK _ w' nofun (keep_same hS) rfl
                          · intro a w' hS hO hF' hP K hK; obtain ⟨_, f0, rfl⟩ := (hF' 45 rfl).1 281 _ rfl rfl; obtain ⟨_, f1, rfl⟩ := (hF' 46 rfl).1 282 _ rfl rfl; refine if_ok (by rfl) ?_; refine wp_eqlI _ _ rfl (ev f0) (ev f1) ?_; exact hK _ w' nofun (keep_same hS) rfl
                          · intro a w' hS hO hF' hP K hK; obtain ⟨_, f0, Ay0, ny0, cy0, rfl, hc0, hn0, hr0⟩ := (hF' 44 rfl).1 280 _ rfl rfl; obtain ⟨_, f1, rfl⟩ := (hF' 47 rfl).1 283 _ rfl rfl; refine if_ok (by rfl) ?_; refine wp_bldB _ _ rfl (ev f0) (ev f1) ?_; exact hK _ w' nofun (keep_same hS) ⟨Ay0, ny0, cy0, rfl, hc0, hn0, hr0⟩
                          · intro a w' hS hO hF' hP K hK; have ha := hO 13 (by rfl); refine if_ok (by rfl) ?_; refine wp_load_row 24 (.tmp 13) rfl g13 (ev ha) _ _ (0, 0) _ hS.1 Tryz.underlying24 rfl (by kernel_rfl) ?_; exact hK _ w' nofun (keep_same hS) rfl
                          · intro a w' hS hO hF' hP K hK; have ha := hO 15 (by rfl); refine if_ok (by rfl) ?_; refine wp_load_row 24 (.tmp 15) rfl g15 (ev ha) _ _ (0, 0) _ hS.2.1 Tryz.underlying24 rfl (by kernel_rfl) ?_; exact hK _ w' nofun (keep_same hS) rfl
                          · intro a w' hS hO hF' hP K hK; obtain ⟨_, f0, rfl⟩ := (hF' 49 rfl).1 285 _ rfl rfl; obtain ⟨_, f1, rfl⟩ := (hF' 50 rfl).1 286 _ rfl rfl; refine if_ok (by rfl) ?_; refine wp_calls rfl (enters_of Tryz.func73 (by kernel_rfl) rfl) (args := #[(.agg #[.slice A13 na c13, .bool a4]), (.agg #[.slice A15 nb c15, .bool a5])]) (by simp [Act.eval, f0, f1]) ?_; obtain ⟨O13, O15, r13, r15, TT, BB⟩ := id hS; apply Calls.mono; exact T2.out.land _ _ _ _ _ r13 r15 TT hc13 hc15; rintro e w2 ⟨A, n, c, rfl, hc, hn, hv, hb⟩; exact ⟨_, rfl, hK _ w2 nofun (keep_below hb hS) ⟨A, n, c, rfl, hc, hn, hv.rd⟩⟩
                          · intro a w' hS hO hF' hP K hK; have f0 := hO 20 (by rfl); refine if_ok (by rfl) ?_; unfold Oper.wp execOp; simp only [Sem.run_pure, ev f0]; exact hK _ w' nofun (keep_same hS) rfl
                          · intro a w' hS hO hF' hP K hK; obtain ⟨_, f0, rfl⟩ := (hF' 52 rfl).1 288 _ rfl rfl; refine if_ok (by rfl) ?_; refine wp_neqI _ _ rfl (ev f0) rfl ?_; exact hK _ w' nofun (keep_same hS) rfl
                          · intro a w' hS hO hF' hP K hK; obtain ⟨_, f0, rfl⟩ := (hF' 53 rfl).1 289 _ rfl rfl; refine if_ok (by rfl) ?_; unfold Oper.wp execOp; simp only [Sem.run_pure, ev f0]; exact hK _ w' nofun (keep_same hS) rfl
                          · intro a w' hS hO hF' hP K hK; obtain ⟨_, fg, rfl⟩ := (hF' 54 rfl).1 290 _ rfl rfl; have f0 := hO 22 (by rfl)
                            cases hg : (!decide (i = 0))
                            · rw [hg] at fg
                              refine if_unwanted (by rfl) (yield_of (by rfl) fg) ?_
                              exact hK _ w' nofun (keep_same hS) (fun h => by rw [hg] at h; cases h)
                            · rw [hg] at fg
                              refine if_wanted (by rfl) (yield_of (by rfl) fg) ?_
                              unfold Oper.wp execOp
                              simp only [Sem.run_pure, ev f0]
                              exact hK _ w' nofun (keep_same hS) (fun _ => rfl)
                          · intro a w' hS hO hF' hP K hK; obtain ⟨_, fg, rfl⟩ := (hF' 54 rfl).1 290 _ rfl rfl; obtain ⟨v0, f0, h0⟩ := (hF' 55 rfl).1 291 _ rfl rfl
                            cases hg : (!decide (i = 0))
                            · rw [hg] at fg
                              refine if_unwanted (by rfl) (yield_of (by rfl) fg) ?_
                              exact hK _ w' nofun (keep_same hS) (fun h => by rw [hg] at h; cases h)
                            · obtain rfl := h0 hg
                              rw [hg] at fg
                              refine if_wanted (by rfl) (yield_of (by rfl) fg) ?_
                              refine wp_neqI _ _ rfl (ev f0) rfl ?_
                              exact hK _ w' nofun (keep_same hS) (fun _ => rfl)
                          · intro a w' hS hO hF' hP K hK; obtain ⟨_, f0, rfl⟩ := (hF' 54 rfl).1 290 _ rfl rfl; obtain ⟨v1, f1, h1⟩ := (hF' 56 rfl).1 292 _ rfl rfl; refine if_ok (by rfl) ?_
                            cases hg : (!decide (i = 0))
                            · rw [hg] at f0
                              refine wp_pick_or _ _ _ rfl (ev f0) rfl ?_
                              refine hK _ w' nofun (keep_same hS) ?_
                              show Value.bool false = Value.bool ((!decide (i = 0)) && !decide (k = 0))
                              rw [hg]
                              rfl
                            · rw [hg] at f0
                              obtain rfl := h1 hg
                              refine wp_pick_and _ _ _ rfl (ev f0) (ev f1) ?_
                              refine hK _ w' nofun (keep_same hS) ?_
                              show Value.bool (!decide (k = 0)) = Value.bool ((!decide (i = 0)) && !decide (k = 0))
                              rw [hg]
                              rfl
                          · intro a w' hS hO hF' hP K hK; obtain ⟨_, f0, Ay0, ny0, cy0, rfl, hc0, hn0, hr0⟩ := (hF' 51 rfl).1 287 _ rfl rfl; obtain ⟨_, f1, rfl⟩ := (hF' 57 rfl).1 293 _ rfl rfl; refine if_ok (by rfl) ?_; refine wp_bldB _ _ rfl (ev f0) (ev f1) ?_; exact hK _ w' nofun (keep_same hS) ⟨Ay0, ny0, cy0, rfl, hc0, hn0, hr0⟩
                          · intro a w' hS hO hF' hP K hK; have ha := hO 13 (by rfl); refine if_ok (by rfl) ?_; refine wp_load_row 24 (.tmp 13) rfl g13 (ev ha) _ _ (0, 0) _ hS.1 Tryz.underlying24 rfl (by kernel_rfl) ?_; exact hK _ w' nofun (keep_same hS) rfl
                          · intro a w' hS hO hF' hP K hK; have ha := hO 15 (by rfl); refine if_ok (by rfl) ?_; refine wp_load_row 24 (.tmp 15) rfl g15 (ev ha) _ _ (0, 0) _ hS.2.1 Tryz.underlying24 rfl (by kernel_rfl) ?_; exact hK _ w' nofun (keep_same hS) rfl
                          · intro a w' hS hO hF' hP K hK; obtain ⟨_, f0, rfl⟩ := (hF' 59 rfl).1 295 _ rfl rfl; obtain ⟨_, f1, rfl⟩ := (hF' 60 rfl).1 296 _ rfl rfl; refine if_ok (by rfl) ?_; refine wp_calls rfl (enters_of Tryz.func74 (by kernel_rfl) rfl) (args := #[(.agg #[.slice A13 na c13, .bool a4]), (.agg #[.slice A15 nb c15, .bool a5])]) (by simp [Act.eval, f0, f1]) ?_; obtain ⟨O13, O15, r13, r15, TT, BB⟩ := id hS; apply Calls.mono; exact T2.out.lor _ _ _ _ _ r13 r15 TT hc13 hc15; rintro e w2 ⟨A, n, c, rfl, hc, hn, hv, hb⟩; exact ⟨_, rfl, hK _ w2 nofun (keep_below hb hS) ⟨A, n, c, rfl, hc, hn, hv.rd⟩⟩
                          · intro a w' hS hO hF' hP K hK; have f0 := hO 20 (by rfl); refine if_ok (by rfl) ?_; unfold Oper.wp execOp; simp only [Sem.run_pure, ev f0]; exact hK _ w' nofun (keep_same hS) rfl
                          · intro a w' hS hO hF' hP K hK; obtain ⟨_, f0, rfl⟩ := (hF' 62 rfl).1 298 _ rfl rfl; refine if_ok (by rfl) ?_; refine wp_neqI _ _ rfl (ev f0) rfl ?_; exact hK _ w' nofun (keep_same hS) rfl
                          · intro a w' hS hO hF' hP K hK; obtain ⟨_, f0, rfl⟩ := (hF' 63 rfl).1 299 _ rfl rfl; refine if_ok (by rfl) ?_; unfold Oper.wp execOp; simp only [Sem.run_pure, ev f0]; exact hK _ w' nofun (keep_same hS) rfl
                          · intro a w' hS hO hF' hP K hK; obtain ⟨_, fg, rfl⟩ := (hF' 64 rfl).1 300 _ rfl rfl; have f0 := hO 22 (by rfl)
                            cases hg : (!decide (i = 0))
                            · rw [hg] at fg
                              refine if_wanted (by rfl) (yield_of (by rfl) fg) ?_
                              unfold Oper.wp execOp
                              simp only [Sem.run_pure, ev f0]
                              exact hK _ w' nofun (keep_same hS) (fun _ => rfl)
                            · rw [hg] at fg
                              refine if_unwanted (by rfl) (yield_of (by rfl) fg) ?_
                              exact hK _ w' nofun (keep_same hS) (fun h => by rw [hg] at h; cases h)
                          · intro a w' hS hO hF' hP K hK; obtain ⟨_, fg, rfl⟩ := (hF' 64 rfl).1 300 _ rfl rfl; obtain ⟨v0, f0, h0⟩ := (hF' 65 rfl).1 301 _ rfl rfl
                            cases hg : (!decide (i = 0))
                            · obtain rfl := h0 hg
                              rw [hg] at fg
                              refine if_wanted (by rfl) (yield_of (by rfl) fg) ?_
                              refine wp_neqI _ _ rfl (ev f0) rfl ?_
                              exact hK _ w' nofun (keep_same hS) (fun _ => rfl)
                            · rw [hg] at fg
                              refine if_unwanted (by rfl) (yield_of (by rfl) fg) ?_
                              exact hK _ w' nofun (keep_same hS) (fun h => by rw [hg] at h; cases h)
                          · intro a w' hS hO hF' hP K hK; obtain ⟨_, f0, rfl⟩ := (hF' 64 rfl).1 300 _ rfl rfl; obtain ⟨v1, f1, h1⟩ := (hF' 66 rfl).1 302 _ rfl rfl; refine if_ok (by rfl) ?_
                            cases hg : (!decide (i = 0))
                            · rw [hg] at f0
                              obtain rfl := h1 hg
                              refine wp_pick_or _ _ _ rfl (ev f0) (ev f1) ?_
                              refine hK _ w' nofun (keep_same hS) ?_
                              show Value.bool (!decide (k = 0)) = Value.bool ((!decide (i = 0)) || !decide (k = 0))
                              rw [hg]
                              rfl
                            · rw [hg] at f0
                              refine wp_pick_and _ _ _ rfl (ev f0) rfl ?_
                              refine hK _ w' nofun (keep_same hS) ?_
                              show Value.bool true = Value.bool ((!decide (i = 0)) || !decide (k = 0))
                              rw [hg]
                              rfl
                          · intro a w' hS hO hF' hP K hK; obtain ⟨_, f0, Ay0, ny0, cy0, rfl, hc0, hn0, hr0⟩ := (hF' 61 rfl).1 297 _ rfl rfl; obtain ⟨_, f1, rfl⟩ := (hF' 67 rfl).1 303 _ rfl rfl; refine if_ok (by rfl) ?_; refine wp_bldB _ _ rfl (ev f0) (ev f1) ?_; exact hK _ w' nofun (keep_same hS) ⟨Ay0, ny0, cy0, rfl, hc0, hn0, hr0⟩
                          · intro a w' hS hO hF' hP K hK; have ha := hO 13 (by rfl); refine if_ok (by rfl) ?_; refine wp_load_row 24 (.tmp 13) rfl g13 (ev ha) _ _ (0, 0) _ hS.1 Tryz.underlying24 rfl (by kernel_rfl) ?_; exact hK _ w' nofun (keep_same hS) rfl
                          · intro a w' hS hO hF' hP K hK; obtain ⟨_, f0, rfl⟩ := (hF' 69 rfl).1 305 _ rfl rfl; refine if_ok (by rfl) ?_; refine wp_calls rfl (enters_of Tryz.func72 (by kernel_rfl) rfl) (args := #[(.agg #[.slice A13 na c13, .bool a4])]) (by simp [Act.eval, f0]) ?_; obtain ⟨O13, O15, r13, r15, TT, BB⟩ := id hS; apply Calls.mono; exact T2.out.lnot _ _ _ r13 TT hc13; rintro e w2 ⟨A, n, c, rfl, hc, hn, hv, hb⟩; exact ⟨_, rfl, hK _ w2 nofun (keep_below hb hS) ⟨A, n, c, rfl, hc, hn, hv.rd⟩⟩
                          · intro a w' hS hO hF' hP K hK; have f0 := hO 20 (by rfl); refine if_ok (by rfl) ?_; unfold Oper.wp execOp; simp only [Sem.run_pure, ev f0]; exact hK _ w' nofun (keep_same hS) rfl
                          · intro a w' hS hO hF' hP K hK; obtain ⟨_, f0, rfl⟩ := (hF' 71 rfl).1 307 _ rfl rfl; refine if_ok (by rfl) ?_; refine wp_eqlI _ _ rfl (ev f0) rfl ?_; exact hK _ w' nofun (keep_same hS) rfl
                          · intro a w' hS hO hF' hP K hK; obtain ⟨_, f0, Ay0, ny0, cy0, rfl, hc0, hn0, hr0⟩ := (hF' 70 rfl).1 306 _ rfl rfl; obtain ⟨_, f1, rfl⟩ := (hF' 72 rfl).1 308 _ rfl rfl; refine if_ok (by rfl) ?_; refine wp_bldB _ _ rfl (ev f0) (ev f1) ?_; exact hK _ w' nofun (keep_same hS) ⟨Ay0, ny0, cy0, rfl, hc0, hn0, hr0⟩
                          · intro a w' hS hO hF' hP K hK; obtain ⟨_, f0, Ay0, ny0, cy0, rfl, hc0, hn0, hr0⟩ := (hF' 6 rfl).1 242 _ rfl rfl; obtain ⟨_, f1, Ay1, ny1, cy1, rfl, hc1, hn1, hr1⟩ := (hF' 13 rfl).1 249 _ rfl rfl; obtain ⟨_, f2, Ay2, ny2, cy2, rfl, hc2, hn2, hr2⟩ := (hF' 20 rfl).1 256 _ rfl rfl; obtain ⟨_, f3, Ay3, ny3, cy3, rfl, hc3, hn3, hr3⟩ := (hF' 27 rfl).1 263 _ rfl rfl; obtain ⟨_, f4, Ay4, ny4, cy4, rfl, hc4, hn4, hr4⟩ := (hF' 34 rfl).1 270 _ rfl rfl; obtain ⟨_, f5, Ay5, ny5, cy5, rfl, hc5, hn5, hr5⟩ := (hF' 41 rfl).1 277 _ rfl rfl; obtain ⟨_, f6, Ay6, ny6, cy6, rfl, hc6, hn6, hr6⟩ := (hF' 48 rfl).1 284 _ rfl rfl; obtain ⟨_, f7, Ay7, ny7, cy7, rfl, hc7, hn7, hr7⟩ := (hF' 58 rfl).1 294 _ rfl rfl; obtain ⟨_, f8, Ay8, ny8, cy8, rfl, hc8, hn8, hr8⟩ := (hF' 68 rfl).1 304 _ rfl rfl; obtain ⟨_, f9, Ay9, ny9, cy9, rfl, hc9, hn9, hr9⟩ := (hF' 73 rfl).1 309 _ rfl rfl; refine if_ok (by rfl) ?_; refine wp_bs10 _ _ _ _ _ _ _ _ _ _ rfl (fun j => ([⟨Ay0, ny0, cy0, (one1 (fromI (decide (i < k)))).s⟩, ⟨Ay1, ny1, cy1, (one1 (fromI (decide (i ≤ k)))).s⟩, ⟨Ay2, ny2, cy2, (one1 (fromI (decide (k < i)))).s⟩, ⟨Ay3, ny3, cy3, (one1 (fromI (decide (k ≤ i)))).s⟩, ⟨Ay4, ny4, cy4, (one1 (fromI (decide (i = k)))).s⟩, ⟨Ay5, ny5, cy5, (one1 (fromI (!decide (i = k)))).s⟩, ⟨Ay6, ny6, cy6, (one1 (fromI (decide (i = k)))).s⟩, ⟨Ay7, ny7, cy7, (one1 (fromI (!decide (i = 0) && !decide (k = 0)))).s⟩, ⟨Ay8, ny8, cy8, (one1 (fromI (!decide (i = 0) || !decide (k = 0)))).s⟩, ⟨Ay9, ny9, cy9, (one1 (fromI (decide (i = 0)))).s⟩] : List Cv).getD j ⟨none, 0, 0, false⟩) (bs10 i k) (ev f0) (ev f1) (ev f2) (ev f3) (ev f4) (ev f5) (ev f6) (ev f7) (ev f8) (ev f9) ?_; refine hK _ _ nofun (keep_below (below_new (Below.refl _ _) _) hS) ⟨_, _, rfl, Own.new w' 75 _, fun j hj => ?_⟩
                            rcases (show j = 0 ∨ j = 1 ∨ j = 2 ∨ j = 3 ∨ j = 4 ∨ j = 5 ∨ j = 6 ∨ j = 7 ∨ j = 8 ∨ j = 9 by omega) with rfl | rfl | rfl | rfl | rfl | rfl | rfl | rfl | rfl | rfl
                            · exact ⟨rfl, hc0, hn0, hr0.alloc _⟩
                            · exact ⟨rfl, hc1, hn1, hr1.alloc _⟩
                            · exact ⟨rfl, hc2, hn2, hr2.alloc _⟩
                            · exact ⟨rfl, hc3, hn3, hr3.alloc _⟩
                            · exact ⟨rfl, hc4, hn4, hr4.alloc _⟩
                            · exact ⟨rfl, hc5, hn5, hr5.alloc _⟩
                            · exact ⟨rfl, hc6, hn6, hr6.alloc _⟩
                            · exact ⟨rfl, hc7, hn7, hr7.alloc _⟩
                            · exact ⟨rfl, hc8, hn8, hr8.alloc _⟩
                            · exact ⟨rfl, hc9, hn9, hr9.alloc _⟩
                          · intro a w' hS hO hF' hP K hK; obtain ⟨_, f0, gy0, fy0, rfl, ht0⟩ := (hF' 74 rfl).1 310 _ rfl rfl; refine if_ok (by rfl) ?_; refine wp_lenTB _ rfl (ev f0) ?_; exact hK _ w' nofun (keep_same hS) rfl
                          · intro a w' hS hO hF' hP K hK; refine if_ok (by rfl) ?_; refine wp_mvc rfl ?_; exact hK _ w' nofun (keep_same hS) rfl
                        · intro vs0 u hl0 hS hV0
                          match vs0, hl0, hV0 with
                          | v0 :: v1 :: v2 :: v3 :: v4 :: v5 :: v6 :: v7 :: v8 :: v9 :: v10 :: v11 :: v12 :: v13 :: v14 :: v15 :: v16 :: v17 :: v18 :: v19 :: v20 :: v21 :: v22 :: v23 :: v24 :: v25 :: v26 :: v27 :: v28 :: v29 :: v30 :: v31 :: v32 :: v33 :: v34 :: v35 :: v36 :: v37 :: v38 :: v39 :: v40 :: v41 :: v42 :: v43 :: v44 :: v45 :: v46 :: v47 :: v48 :: v49 :: v50 :: v51 :: v52 :: v53 :: v54 :: v55 :: v56 :: v57 :: v58 :: v59 :: v60 :: v61 :: v62 :: v63 :: v64 :: v65 :: v66 :: v67 :: v68 :: v69 :: v70 :: v71 :: v72 :: v73 :: v74 :: v75 :: v76 :: [], _, hV =>
                            obtain rfl := hV 0 _ rfl
                            obtain rfl := hV 1 _ rfl
                            obtain rfl := hV 3 _ rfl
                            obtain rfl := hV 4 _ rfl
                            obtain rfl := hV 5 _ rfl
                            obtain rfl := hV 7 _ rfl
                            obtain rfl := hV 8 _ rfl
                            obtain rfl := hV 10 _ rfl
                            obtain rfl := hV 11 _ rfl
                            obtain rfl := hV 12 _ rfl
                            obtain rfl := hV 14 _ rfl
                            obtain rfl := hV 15 _ rfl
                            obtain rfl := hV 17 _ rfl
                            obtain rfl := hV 18 _ rfl
                            obtain rfl := hV 19 _ rfl
                            obtain rfl := hV 21 _ rfl
                            obtain rfl := hV 22 _ rfl
                            obtain rfl := hV 24 _ rfl
                            obtain rfl := hV 25 _ rfl
                            obtain rfl := hV 26 _ rfl
                            obtain rfl := hV 28 _ rfl
                            obtain rfl := hV 29 _ rfl
                            obtain rfl := hV 31 _ rfl
                            obtain rfl := hV 32 _ rfl
                            obtain rfl := hV 33 _ rfl
                            obtain rfl := hV 35 _ rfl
                            obtain rfl := hV 36 _ rfl
                            obtain rfl := hV 38 _ rfl
                            obtain rfl := hV 39 _ rfl
                            obtain rfl := hV 40 _ rfl
                            obtain rfl := hV 42 _ rfl
                            obtain rfl := hV 43 _ rfl
                            obtain rfl := hV 45 _ rfl
                            obtain rfl := hV 46 _ rfl
                            obtain rfl := hV 47 _ rfl
                            obtain rfl := hV 49 _ rfl
                            obtain rfl := hV 50 _ rfl
                            obtain rfl := hV 52 _ rfl
                            obtain rfl := hV 53 _ rfl
                            obtain rfl := hV 54 _ rfl
                            obtain rfl := hV 57 _ rfl
                            obtain rfl := hV 59 _ rfl
                            obtain rfl := hV 60 _ rfl
                            obtain rfl := hV 62 _ rfl
                            obtain rfl := hV 63 _ rfl
                            obtain rfl := hV 64 _ rfl
                            obtain rfl := hV 67 _ rfl
                            obtain rfl := hV 69 _ rfl
                            obtain rfl := hV 71 _ rfl
                            obtain rfl := hV 72 _ rfl
                            obtain ⟨gT, fT, rfl, HT⟩ := hV 74 _ rfl
                            obtain rfl := hV 75 _ rfl
                            obtain rfl := hV 76 _ rfl
                            simp only [puts, Act.put, List.setIfInBounds_toArray, List.set_cons_zero, List.set_cons_succ]
                            clear O13 O15 r13 r15 TT BB
                            obtain ⟨O13, O15, r13, r15, TT, BB⟩ := hS
                            clear hV hV0 hl0
                            replace O13 : Own u g13 24 #[.slice A13 na c13, .bool a4] := O13
                            replace O15 : Own u g15 24 #[.slice A15 nb c15, .bool a5] := O15
                            replace r13 : Rb u A13 na la := r13
                            replace r15 : Rb u A15 nb lb := r15
                            replace TT : Tabs u := TT
                            replace BB : Below w.heap.size w u := BB
                            obtain ⟨u10, rfl⟩ : ∃ x : World, x = u := ⟨_, rfl⟩
                            replace HT : Tbl u10 gT 75 10 fT (fun j => one1 (fromI (bs10 i k j))) (fun j => .bool (bs10 i k j)) := HT
                            replace BB := Lib.hid BB
                            go_wp2_with fail
                            go_loopw [312] (fun q wr => ∃ j : Nat, j ≤ 10 ∧ q = .int .i64 j ∧ Hid (Own wr g13 24 #[.slice A13 na c13, .bool a4]) ∧ Hid (Own wr g15 24 #[.slice A15 nb c15, .bool a5]) ∧ Hid (Rb wr A13 na la) ∧ Hid (Rb wr A15 nb lb) ∧ Hid (Tbl wr gT 75 10 fT (fun j => one1 (fromI (bs10 i k j))) (fun j => .bool (bs10 i k j))) ∧ Hid (Tabs wr) ∧ Hid (Below w.heap.size w wr)) (fun q _ => 10 - (intOf q).toNat)
                            case atStart => exact ⟨0, by decide, rfl, Lib.hid O13, Lib.hid O15, Lib.hid r13, Lib.hid r15, Lib.hid HT, Lib.hid TT, BB⟩
                            case round =>
                              clear O13 O15 r13 r15 HT TT BB
                              obtain ⟨j, hj, rfl, O13, O15, r13, r15, HT, TT, BB⟩ := hrel
                              replace O13 := O13.out
                              replace O15 := O15.out
                              replace r13 := r13.out
                              replace r15 := r15.out
                              replace HT := HT.out
                              replace TT := TT.out
                              by_cases hlt : j < 10
                              · skip
                                replace BB := BB.out
                                obtain ⟨AT, nT, cT, e0, e1, e2, hcT, hnT, rT⟩ := HT.row hlt
                                replace e1 : wr.cell? ⟨gT, j * 3 + 1, none⟩ = some (.bool false) := e1
                                replace e2 : wr.cell? ⟨gT, j * 3 + 2, none⟩ = some (Value.bool (bs10 i k j)) := e2
                                have e3 : wr.cell? ⟨gT, 0 + j * 3, none⟩ = some (.slice AT nT cT) := by rw [Nat.zero_add]; exact e0
                                have e4 : wr.cell? ⟨gT, 0 + j * 3 + 1, none⟩ = some (.bool false) := by rw [Nat.zero_add]; exact e1
                                have e5 : wr.cell? ⟨gT, 0 + j * 3 + 2, none⟩ = some (Value.bool (bs10 i k j)) := by rw [Nat.zero_add]; exact e2
                                have d1 : decide ((j : Int) < 10) = true := by simp; omega
                                replace rT : Rb wr AT nT (one1 (fromI (bs10 i k j))).l := rT
                                generalize bs10 i k j = bj at e2 e5 rT
                                go_wp2_with fail
                                clear e0 e1 e2 e3 e4 e5
                                replace O13 := O13.alloc (.cells #[.slice AT nT cT, .bool false, .bool bj] 75)
                                replace O15 := O15.alloc (.cells #[.slice AT nT cT, .bool false, .bool bj] 75)
                                replace r13 := r13.alloc (.cells #[.slice AT nT cT, .bool false, .bool bj] 75)
                                replace r15 := r15.alloc (.cells #[.slice AT nT cT, .bool false, .bool bj] 75)
                                replace rT := rT.alloc (.cells #[.slice AT nT cT, .bool false, .bool bj] 75)
                                replace HT := HT.alloc (.cells #[.slice AT nT cT, .bool false, .bool bj] 75)
                                replace TT := TT.alloc (.cells #[.slice AT nT cT, .bool false, .bool bj] 75)
                                replace BB := below_new BB (.cells #[.slice AT nT cT, .bool false, .bool bj] 75)
                                have O34 := Own.new wr 75 #[.slice AT nT cT, .bool false, .bool bj]
                                have qO130 := O13.cell 0
                                have qO131 := O13.cell 1
                                have qO150 := O15.cell 0
                                have qO151 := O15.cell 1
                                have qO340 := O34.cell 0
                                have qO341 := O34.cell 1
                                clear qO130 qO131 qO150 qO151 qO340 qO341
                                generalize wr.heap.size = g34 at *
                                generalize wr.alloc (.cells #[.slice AT nT cT, .bool false, .bool bj] 75) = u34 at *
                                replace O34 : Own u34 g34 75 #[.slice AT nT cT, .bool false, .bool bj] := O34
                                replace BB := Lib.hid BB
                                refine region_y (by kernel_rfl) (fun u => owns g13 #[.slice A13 na c13, .bool a4] u ∧ (owns g15 #[.slice A15 nb c15, .bool a5] u ∧ (rds A13 na la u ∧ (rds A15 nb lb u ∧ (rds AT nT (one1 (fromI bj)).l u ∧ (ownT g34 75 #[.slice AT nT cT, .bool false, .bool bj] u ∧ (tbl gT 75 10 fT (fun j => one1 (fromI (bs10 i k j))) (fun j => .bool (bs10 i k j)) u ∧ (tbs u ∧ blw w u)))))))) [] [isV (.pointer (some ⟨g34, 0, none⟩)), isV (.agg #[.slice AT nT cT, .bool false]), isV (.pointer (some ⟨g34, 2, none⟩)), isV (.bool bj), isV (.int .u8 (fromI bj)), isS1 (one1 (fromI bj)), isW (one1 (fromI bj)), isV (.bool true), isV (.bool false)] [some 316, some 317, some 318, some 319, some 320, some 321, some 322, some 323, some 324] [[], [0], [], [2], [3], [4], [5], [1, 6, 4], [7]] (by kernel_rfl) (by kernel_rfl) rfl (by kernel_rfl) (by kernel_rfl) (by kernel_rfl) ⟨O13.drew, O15.drew, r13.drew, r15.drew, rT.drew, O34.drew, HT.drew, TT.drew, below_drew BB.out⟩ (fun _ h => by cases h) ?_ ?_
                                · refine ⟨?_, ?_, ?_, ?_, ?_, ?_, ?_, ?_, ?_, trivial⟩
                                  · intro a w' hS hO hF' hP K hK; have ha := hO 34 (by rfl); refine if_ok (by rfl) ?_; refine wp_val (w' := w') (q := .pointer (some ⟨g34, 0, none⟩)) (by unfold execOp; simp only [ev ha]; simp [go_sem]) ?_; exact hK _ w' nofun (keep_same hS) rfl
                                  · intro a w' hS hO hF' hP K hK; obtain ⟨_, f0, rfl⟩ := (hF' 0 rfl).1 316 _ rfl rfl; refine if_ok (by rfl) ?_; refine wp_ldV _ rfl (ev f0) ((hS.2.2.2.2.2.1).cell 0) ((hS.2.2.2.2.2.1).cell 1) ?_; exact hK _ w' nofun (keep_same hS) rfl
                                  · intro a w' hS hO hF' hP K hK; have ha := hO 34 (by rfl); refine if_ok (by rfl) ?_; refine wp_faB _ rfl (ev ha) ?_; exact hK _ w' nofun (keep_same hS) rfl
                                  · intro a w' hS hO hF' hP K hK; obtain ⟨_, f0, rfl⟩ := (hF' 2 rfl).1 318 _ rfl rfl; refine if_ok (by rfl) ?_; refine wp_ldB _ rfl (ev f0) ((hS.2.2.2.2.2.1).cell 2) ?_; exact hK _ w' nofun (keep_same hS) rfl
                                  · intro a w' hS hO hF' hP K hK; obtain ⟨_, f0, rfl⟩ := (hF' 3 rfl).1 319 _ rfl rfl; refine if_ok (by rfl) ?_; refine wp_calls rfl (enters_of Tryz.func92 (by kernel_rfl) rfl) (args := #[(.bool bj)]) (by simp [Act.eval, f0]) ?_; obtain ⟨O13, O15, r13, r15, rT, O34, HT, TT, BB⟩ := id hS; apply Calls.mono; exact quietB (from_any _ _); rintro e w2 ⟨rfl, hb⟩; exact ⟨_, rfl, hK _ w2 nofun (keep_below hb hS) rfl⟩
                                  · intro a w' hS hO hF' hP K hK; obtain ⟨_, f0, rfl⟩ := (hF' 4 rfl).1 320 _ rfl rfl; refine if_ok (by rfl) ?_; refine wp_bs1 _ rfl (ev f0) ?_; exact hK _ _ nofun (keep_below (below_new (Below.refl _ _) _) hS) ⟨_, _, _, rfl, Nat.le_refl _, by decide, Rb.of_own (Own.new _ _ _) (nnL_one (fromI_nn bj)) rfl⟩
                                  · intro a w' hS hO hF' hP K hK; obtain ⟨_, f0, Ay0, ny0, cy0, rfl, hc0, hn0, hr0⟩ := (hF' 5 rfl).1 321 _ rfl rfl; refine if_ok (by rfl) ?_; refine wp_bld0 _ rfl (ev f0) ?_; exact hK _ w' nofun (keep_same hS) ⟨Ay0, ny0, cy0, rfl, hc0, hn0, hr0⟩
                                  · intro a w' hS hO hF' hP K hK; obtain ⟨_, f0, rfl⟩ := (hF' 1 rfl).1 317 _ rfl rfl; obtain ⟨_, f1, Ay1, ny1, cy1, rfl, hc1, hn1, hr1⟩ := (hF' 6 rfl).1 322 _ rfl rfl; refine if_ok (by rfl) ?_; refine wp_calls rfl (enters_of Tryz.func16 (by kernel_rfl) rfl) (args := #[(.agg #[.slice AT nT cT, .bool false]), (.agg #[.slice Ay1 ny1 cy1, .bool (one1 (fromI bj)).s])]) (by simp [Act.eval, f0, f1]) ?_; obtain ⟨O13, O15, r13, r15, rT, O34, HT, TT, BB⟩ := id hS; apply Calls.mono; (with_reducible apply same_t); (repeat (first | assumption | (with_reducible (apply Nb.rd; assumption)) | (with_reducible (apply Rb.at_later; assumption)) | (with_reducible (apply Tabs.at_later; assumption)) | (with_reducible apply Rb.alloc) | (with_reducible apply Tabs.alloc) | (with_reducible apply Rb.drew) | (with_reducible apply Tabs.drew) | (show I64 _; unfold I64; omega) | omega)); (first | exact sameV_self _ | (decide +kernel)); rintro e w2 ⟨rfl, hb⟩; exact ⟨_, rfl, hK _ w2 nofun (keep_below hb hS) rfl⟩
                                  · intro a w' hS hO hF' hP K hK; obtain ⟨_, f0, rfl⟩ := (hF' 7 rfl).1 323 _ rfl rfl; refine if_ok (by rfl) ?_; refine wp_not _ rfl (ev f0) ?_; exact hK _ w' nofun (keep_same hS) rfl
                                · intro vs0 u hl0 hS hV0
                                  match vs0, hl0, hV0 with
                                  | [v0, v1, v2, v3, v4, v5, v6, v7, v8], _, hV =>
                                    obtain rfl := hV 0 _ rfl
                                    obtain rfl := hV 1 _ rfl
                                    obtain rfl := hV 2 _ rfl
                                    obtain rfl := hV 3 _ rfl
                                    obtain rfl := hV 4 _ rfl
                                    obtain rfl := hV 7 _ rfl
                                    obtain rfl := hV 8 _ rfl
                                    simp only [puts, Act.put, List.setIfInBounds_toArray, List.set_cons_zero, List.set_cons_succ]
                                    clear O13 O15 r13 r15 rT O34 HT TT BB
                                    obtain ⟨O13, O15, r13, r15, rT, O34, HT, TT, BB⟩ := hS
                                    clear hV hV0 hl0
                                    replace O13 : Own u g13 24 #[.slice A13 na c13, .bool a4] := O13
                                    replace O15 : Own u g15 24 #[.slice A15 nb c15, .bool a5] := O15
                                    replace r13 : Rb u A13 na la := r13
                                    replace r15 : Rb u A15 nb lb := r15
                                    replace rT : Rb u AT nT (one1 (fromI bj)).l := rT
                                    replace O34 : Own u g34 75 #[.slice AT nT cT, .bool false, .bool bj] := O34
                                    replace TT : Tabs u := TT
                                    replace BB : Below w.heap.size w u := BB
                                    replace HT : Tbl u gT 75 10 fT (fun j => one1 (fromI (bs10 i k j))) (fun j => .bool (bs10 i k j)) := HT
                                    replace BB := BB
                                    go_wp2
                                    go_roundw
                                    case rel => exact ⟨j + 1, by omega, by go_num, Lib.hid O13, Lib.hid O15, Lib.hid r13, Lib.hid r15, Lib.hid HT, Lib.hid TT, Lib.hid BB⟩
                                    case measure => simp [intOf]; omega
                              · obtain rfl : j = 10 := by omega
                                clear HT
                                replace BB := BB.out
                                have qO130 := O13.cell 0
                                have qO131 := O13.cell 1
                                have qO150 := O15.cell 0
                                have qO151 := O15.cell 1
                                go_wp2_with fail
                                go_at_call 24
                                clear qO130 qO131 qO150 qO151
                                refine (T2.out.io _ _ _ r13).mono ?_
                                rintro e wk ⟨rfl, hb⟩
                                replace O13 := O13.step hb
                                replace O15 := O15.step hb
                                replace r13 := r13.step hb
                                replace r15 := r15.step hb
                                replace TT := TT.step hb
                                replace BB := below_step BB hb
                                clear hb
                                obtain ⟨u11, rfl⟩ : ∃ u : World, u = wk := ⟨_, rfl⟩
                                have qO130 := O13.cell 0
                                have qO131 := O13.cell 1
                                have qO150 := O15.cell 0
                                have qO151 := O15.cell 1
                                go_wp2_with fail
                                go_at_call 26
                                clear qO130 qO131 qO150 qO151
                                refine (T2.out.wu _ _ _ r15).mono ?_
                                rintro e wk ⟨AU, nU, cU, rfl, hcU, hnU, hv, hb⟩
                                replace O13 := O13.step hb
                                replace O15 := O15.step hb
                                replace r13 := r13.step hb
                                replace r15 := r15.step hb
                                replace TT := TT.step hb
                                replace BB := below_step BB hb
                                have rU := hv.rd
                                clear hb hv
                                obtain ⟨uU, rfl⟩ : ∃ u : World, u = wk := ⟨_, rfl⟩
                                have qO130 := O13.cell 0
                                have qO131 := O13.cell 1
                                have qO150 := O15.cell 0
                                have qO151 := O15.cell 1
                                obtain rfl : nb = nU := T2.out.eb.symm.trans rU.len
                                go_wp2_with fail
                                go_at_call 24
                                clear qO130 qO131 qO150 qO151
                                refine (T2.out.iu _ _ _ rU).mono ?_
                                rintro e wk ⟨rfl, hb⟩
                                replace O13 := O13.step hb
                                replace O15 := O15.step hb
                                replace r13 := r13.step hb
                                replace r15 := r15.step hb
                                replace rU := rU.step hb
                                replace TT := TT.step hb
                                replace BB := below_step BB hb
                                clear hb
                                obtain ⟨u12, rfl⟩ : ∃ u : World, u = wk := ⟨_, rfl⟩
                                have qO130 := O13.cell 0
                                have qO131 := O13.cell 1
                                have qO150 := O15.cell 0
                                have qO151 := O15.cell 1
                                clear rU
                                go_wp2_with fail
                                generalize hzl : wrap64 (own * 2 ^ min (IntKind.u64.wrap (am : Int)).toNat 64) = zl
                                have hzlb : -9223372036854775808 ≤ zl ∧ zl ≤ 9223372036854775807 := by rw [← hzl]; exact wrap64_bd _
                                have eL : wI na a4 zl = wI na a4 (IntKind.i64.wrap (own * ((2 ^ am : Nat) : Int))) := by rw [← hzl]; exact shl_same T2.out.a2 (by have := T2.out.bds; omega) _
                                replace hzl := Lib.hid hzl
                                replace eL := Lib.hid eL
                                go_at_call 37
                                clear qO130 qO131 qO150 qO151
                                refine (fromI_any na a4 T2.out.a1 T2.out.a2 zl hzlb _).mono ?_
                                rintro e wk ⟨A39, n39, c39, rfl, hc39, hn39, hv, hb⟩
                                replace O13 := (O13.step hb).alloc (.cells #[.slice A39 n39 c39, .bool a4] 24)
                                replace O15 := (O15.step hb).alloc (.cells #[.slice A39 n39 c39, .bool a4] 24)
                                replace r13 := (r13.step hb).alloc (.cells #[.slice A39 n39 c39, .bool a4] 24)
                                replace r15 := (r15.step hb).alloc (.cells #[.slice A39 n39 c39, .bool a4] 24)
                                replace TT := (TT.step hb).alloc (.cells #[.slice A39 n39 c39, .bool a4] 24)
                                replace BB := below_new (below_step BB hb) (.cells #[.slice A39 n39 c39, .bool a4] 24)
                                have O39 := Own.new wk 24 #[.slice A39 n39 c39, .bool a4]
                                have r39 := hv.rd.alloc (.cells #[.slice A39 n39 c39, .bool a4] 24)
                                clear hb hv
                                have qO130 := O13.cell 0
                                have qO131 := O13.cell 1
                                have qO150 := O15.cell 0
                                have qO151 := O15.cell 1
                                have qO390 := O39.cell 0
                                have qO391 := O39.cell 1
                                go_wp2_with fail
                                rw [shr_same T2.out.bds.2.2.2 T2.out.bds.2.2.1]
                                have hzrb : -9223372036854775808 ≤ own / (2 : Int) ^ am ∧ own / (2 : Int) ^ am ≤ 9223372036854775807 := div_bd (p2pos am) T2.out.bds.2.2.1
                                generalize hzr : own / (2 : Int) ^ am = zr at *
                                replace hzr := Lib.hid hzr
                                go_at_call 37
                                clear qO130 qO131 qO150 qO151 qO390 qO391
                                generalize wk.heap.size = g39 at *
                                generalize wk.alloc (.cells #[.slice A39 n39 c39, .bool a4] 24) = u13 at *
                                refine (fromI_any na a4 T2.out.a1 T2.out.a2 zr hzrb _).mono ?_
                                rintro e wk ⟨A41, n41, c41, rfl, hc41, hn41, hv, hb⟩
                                replace O13 := (O13.step hb).alloc (.cells #[.slice A41 n41 c41, .bool a4] 24)
                                replace O15 := (O15.step hb).alloc (.cells #[.slice A41 n41 c41, .bool a4] 24)
                                replace O39 := (O39.step hb).alloc (.cells #[.slice A41 n41 c41, .bool a4] 24)
                                replace r13 := (r13.step hb).alloc (.cells #[.slice A41 n41 c41, .bool a4] 24)
                                replace r15 := (r15.step hb).alloc (.cells #[.slice A41 n41 c41, .bool a4] 24)
                                replace r39 := (r39.step hb).alloc (.cells #[.slice A41 n41 c41, .bool a4] 24)
                                replace TT := (TT.step hb).alloc (.cells #[.slice A41 n41 c41, .bool a4] 24)
                                replace BB := below_new (below_step BB hb) (.cells #[.slice A41 n41 c41, .bool a4] 24)
                                have O41 := Own.new wk 24 #[.slice A41 n41 c41, .bool a4]
                                have r41 := hv.rd.alloc (.cells #[.slice A41 n41 c41, .bool a4] 24)
                                clear hb hv
                                have qO130 := O13.cell 0
                                have qO131 := O13.cell 1
                                have qO150 := O15.cell 0
                                have qO151 := O15.cell 1
                                have qO390 := O39.cell 0
                                have qO391 := O39.cell 1
                                have qO410 := O41.cell 0
                                have qO411 := O41.cell 1
                                go_wp2_with fail
                                rw [show wrap64 (-own) = -own from by have := T2.out.bds; unfold wrap64; omega]
                                have hzmb : -9223372036854775808 ≤ -own ∧ -own ≤ 9223372036854775807 := by have := T2.out.bds; omega
                                go_at_call 37
                                clear qO130 qO131 qO150 qO151 qO390 qO391 qO410 qO411
                                generalize wk.heap.size = g41 at *
                                generalize wk.alloc (.cells #[.slice A41 n41 c41, .bool a4] 24) = u14 at *
                                refine (fromI_any na a4 T2.out.a1 T2.out.a2 (-own) hzmb _).mono ?_
                                rintro e wk ⟨A43, n43, c43, rfl, hc43, hn43, hv, hb⟩
                                replace O13 := (O13.step hb).alloc (.cells #[.slice A43 n43 c43, .bool a4] 24)
                                replace O15 := (O15.step hb).alloc (.cells #[.slice A43 n43 c43, .bool a4] 24)
                                replace O39 := (O39.step hb).alloc (.cells #[.slice A43 n43 c43, .bool a4] 24)
                                replace O41 := (O41.step hb).alloc (.cells #[.slice A43 n43 c43, .bool a4] 24)
                                replace r13 := (r13.step hb).alloc (.cells #[.slice A43 n43 c43, .bool a4] 24)
                                replace r15 := (r15.step hb).alloc (.cells #[.slice A43 n43 c43, .bool a4] 24)
                                replace r39 := (r39.step hb).alloc (.cells #[.slice A43 n43 c43, .bool a4] 24)
                                replace r41 := (r41.step hb).alloc (.cells #[.slice A43 n43 c43, .bool a4] 24)
                                replace TT := (TT.step hb).alloc (.cells #[.slice A43 n43 c43, .bool a4] 24)
                                replace BB := below_new (below_step BB hb) (.cells #[.slice A43 n43 c43, .bool a4] 24)
                                have O43 := Own.new wk 24 #[.slice A43 n43 c43, .bool a4]
                                have r43 := hv.rd.alloc (.cells #[.slice A43 n43 c43, .bool a4] 24)
                                clear hb hv
                                have qO130 := O13.cell 0
                                have qO131 := O13.cell 1
                                have qO150 := O15.cell 0
                                have qO151 := O15.cell 1
                                have qO390 := O39.cell 0
                                have qO391 := O39.cell 1
                                have qO410 := O41.cell 0
                                have qO411 := O41.cell 1
                                have qO430 := O43.cell 0
                                have qO431 := O43.cell 1
                                go_wp2_with fail
                                clear qO130 qO131 qO150 qO151 qO390 qO391 qO410 qO411 qO430 qO431
                                generalize wk.heap.size = g43 at *
                                generalize wk.alloc (.cells #[.slice A43 n43 c43, .bool a4] 24) = u15 at *
                                replace O39 : Own u15 g39 24 #[.slice A39 n39 c39, .bool a4] := O39
                                replace O41 : Own u15 g41 24 #[.slice A41 n41 c41, .bool a4] := O41
                                replace O43 : Own u15 g43 24 #[.slice A43 n43 c43, .bool a4] := O43
                                have HSL := Lib.hid (fun A Y c d u h h' TT hc hd => (show Calls Tryz.prog 62 _ _ (RetW u (wI na a4 zl)) from by have := T2.out.shl A Y c d u h h' TT hc hd; rw [← eL.out] at this; exact this))
                                have HSR := Lib.hid (fun A Y c d u h h' TT hc hd => (show Calls Tryz.prog 64 _ _ (RetW u (wI na a4 zr)) from by have := T2.out.ashr A Y c d u h h' TT hc hd; rw [hzr.out] at this; exact this))
                                replace BB := Lib.hid BB
                                refine region_y (by kernel_rfl) (fun u => owns g13 #[.slice A13 na c13, .bool a4] u ∧ (owns g15 #[.slice A15 nb c15, .bool a5] u ∧ (owns g39 #[.slice A39 n39 c39, .bool a4] u ∧ (owns g41 #[.slice A41 n41 c41, .bool a4] u ∧ (owns g43 #[.slice A43 n43 c43, .bool a4] u ∧ (rds A13 na la u ∧ (rds A15 nb lb u ∧ (rds A39 n39 (wI na a4 zl).l u ∧ (rds A41 n41 (wI na a4 zr).l u ∧ (rds A43 n43 (wI na a4 (-own)).l u ∧ (tbs u ∧ blw w u))))))))))) [] [isV (.int .i64 0), isV (.bool true), isV (.bool true), isV (.int .i64 0), isV (.bool true), isV (.bool true), isV (.bool true), isV (.int .i64 0), isV (.bool true), isV (.bool true), isV (.bool true), isV (.agg #[.slice A13 na c13, .bool a4]), isV (.agg #[.slice A15 nb c15, .bool a5]), isW (wI na a4 zl), isV (.agg #[.slice A39 n39 c39, .bool a4]), isV (.bool true), isV (.bool true), isV (.bool true), isV (.agg #[.slice A13 na c13, .bool a4]), isV (.agg #[.slice A15 nb c15, .bool a5]), isW (wI na a4 zr), isV (.agg #[.slice A41 n41 c41, .bool a4]), isV (.bool true), isV (.bool true), isV (.bool true), isV (.agg #[.slice A13 na c13, .bool a4]), isW (wI na a4 (-own)), isV (.agg #[.slice A43 n43 c43, .bool a4]), isV (.bool true), isV (.bool true), isV (.bool true)] [some 377, some 378, some 379, some 380, some 381, some 382, some 383, some 384, some 385, some 386, some 387, some 388, some 389, some 390, some 391, some 392, some 393, some 394, some 395, some 396, some 397, some 398, some 399, some 400, some 401, some 402, some 403, some 404, some 405, some 406, some 12] [[], [0], [1], [2], [3, 2], [2, 4], [5, 2], [6], [7, 6], [6, 8], [9, 6], [10], [10], [11, 12, 10, 10], [10], [13, 14, 13, 10], [10, 15], [16, 15], [17], [17], [18, 19, 17, 17], [17], [20, 21, 20, 17], [17, 22], [23, 22], [24], [25, 24, 24], [24], [26, 27, 26, 24], [24, 28], [29, 28, 0, 1, 2, 3, 4, 5, 6, 7, 8, 9, 10, 11, 12, 13, 14, 15, 16, 17, 18, 19, 20, 21, 22, 23, 24, 25, 26, 27, 28, 29]] (by kernel_rfl) (by kernel_rfl) rfl (by kernel_rfl) (by kernel_rfl) (by kernel_rfl) ⟨O13.drew, O15.drew, O39.drew, O41.drew, O43.drew, r13.drew, r15.drew, r39.drew, r41.drew, r43.drew, TT.drew, below_drew BB.out⟩ (fun _ h => by cases h) ?_ ?_
                                · refine ⟨?_, ?_, ?_, ?_, ?_, ?_, ?_, ?_, ?_, ?_, ?_, ?_, ?_, ?_, ?_, ?_, ?_, ?_, ?_, ?_, ?_, ?_, ?_, ?_, ?_, ?_, ?_, ?_, ?_, ?_, ?_, trivial⟩
                                  · intro a w' hS hO hF' hP K hK; have f0 := hO 40 (by rfl); refine if_ok (by rfl) ?_; unfold Oper.wp execOp; simp only [Sem.run_pure, ev f0]; exact hK _ w' nofun (keep_same hS) rfl
                                  · intro a w' hS hO hF' hP K hK; obtain ⟨_, f0, rfl⟩ := (hF' 0 rfl).1 377 _ rfl rfl; refine if_ok (by rfl) ?_; refine wp_val (w' := w') (q := .bool true) (by unfold execOp; simp only [(ev f0)]; simp [go_sem]) ?_; exact hK _ w' nofun (keep_same hS) rfl
                                  · intro a w' hS hO hF' hP K hK; obtain ⟨_, f0, rfl⟩ := (hF' 1 rfl).1 378 _ rfl rfl; refine if_ok (by rfl) ?_; unfold Oper.wp execOp; simp only [Sem.run_pure, ev f0]; exact hK _ w' nofun (keep_same hS) rfl
                                  · intro a w' hS hO hF' hP K hK; obtain ⟨_, fg, rfl⟩ := (hF' 2 rfl).1 379 _ rfl rfl; have f0 := hO 42 (by rfl); refine if_wanted (by rfl) (yield_of (by rfl) fg) ?_; unfold Oper.wp execOp; simp only [Sem.run_pure, ev f0]; exact hK _ w' nofun (keep_same hS) rfl
                                  · intro a w' hS hO hF' hP K hK; obtain ⟨_, fg, rfl⟩ := (hF' 2 rfl).1 379 _ rfl rfl; obtain ⟨_, f0, rfl⟩ := (hF' 3 rfl).1 380 _ rfl rfl; refine if_wanted (by rfl) (yield_of (by rfl) fg) ?_; refine wp_val (w' := w') (q := .bool true) (by unfold execOp; simp only [(ev f0)]; simp [go_sem]) ?_; exact hK _ w' nofun (keep_same hS) rfl
                                  · intro a w' hS hO hF' hP K hK; obtain ⟨_, f0, rfl⟩ := (hF' 2 rfl).1 379 _ rfl rfl; obtain ⟨_, f1, rfl⟩ := (hF' 4 rfl).1 381 _ rfl rfl; refine if_ok (by rfl) ?_; refine wp_pick_and _ _ _ rfl (ev f0) (ev f1) ?_; exact hK _ w' nofun (keep_same hS) rfl
                                  · intro a w' hS hO hF' hP K hK; obtain ⟨_, f0, rfl⟩ := (hF' 5 rfl).1 382 _ rfl rfl; refine if_ok (by rfl) ?_; unfold Oper.wp execOp; simp only [Sem.run_pure, ev f0]; exact hK _ w' nofun (keep_same hS) rfl
                                  · intro a w' hS hO hF' hP K hK; obtain ⟨_, fg, rfl⟩ := (hF' 6 rfl).1 383 _ rfl rfl; have f0 := hO 44 (by rfl); refine if_wanted (by rfl) (yield_of (by rfl) fg) ?_; unfold Oper.wp execOp; simp only [Sem.run_pure, ev f0]; exact hK _ w' nofun (keep_same hS) rfl
                                  · intro a w' hS hO hF' hP K hK; obtain ⟨_, fg, rfl⟩ := (hF' 6 rfl).1 383 _ rfl rfl; obtain ⟨_, f0, rfl⟩ := (hF' 7 rfl).1 384 _ rfl rfl; refine if_wanted (by rfl) (yield_of (by rfl) fg) ?_; refine wp_val (w' := w') (q := .bool true) (by unfold execOp; simp only [(ev f0)]; simp [go_sem]) ?_; exact hK _ w' nofun (keep_same hS) rfl
                                  · intro a w' hS hO hF' hP K hK; obtain ⟨_, f0, rfl⟩ := (hF' 6 rfl).1 383 _ rfl rfl; obtain ⟨_, f1, rfl⟩ := (hF' 8 rfl).1 385 _ rfl rfl; refine if_ok (by rfl) ?_; refine wp_pick_and _ _ _ rfl (ev f0) (ev f1) ?_; exact hK _ w' nofun (keep_same hS) rfl
                                  · intro a w' hS hO hF' hP K hK; obtain ⟨_, f0, rfl⟩ := (hF' 9 rfl).1 386 _ rfl rfl; refine if_ok (by rfl) ?_; unfold Oper.wp execOp; simp only [Sem.run_pure, ev f0]; exact hK _ w' nofun (keep_same hS) rfl
                                  · intro a w' hS hO hF' hP K hK; obtain ⟨_, fg, rfl⟩ := (hF' 10 rfl).1 387 _ rfl rfl; have ha := hO 13 (by rfl); refine if_wanted (by rfl) (yield_of (by rfl) fg) ?_; refine wp_load_row 24 (.tmp 13) rfl g13 (ev ha) _ _ (0, 0) _ hS.1 Tryz.underlying24 rfl (by kernel_rfl) ?_; exact hK _ w' nofun (keep_same hS) rfl
                                  · intro a w' hS hO hF' hP K hK; obtain ⟨_, fg, rfl⟩ := (hF' 10 rfl).1 387 _ rfl rfl; have ha := hO 15 (by rfl); refine if_wanted (by rfl) (yield_of (by rfl) fg) ?_; refine wp_load_row 24 (.tmp 15) rfl g15 (ev ha) _ _ (0, 0) _ hS.2.1 Tryz.underlying24 rfl (by kernel_rfl) ?_; exact hK _ w' nofun (keep_same hS) rfl
                                  · intro a w' hS hO hF' hP K hK; obtain ⟨_, fg, rfl⟩ := (hF' 10 rfl).1 387 _ rfl rfl; obtain ⟨_, f0, rfl⟩ := (hF' 11 rfl).1 388 _ rfl rfl; obtain ⟨_, f1, rfl⟩ := (hF' 12 rfl).1 389 _ rfl rfl; refine if_wanted (by rfl) (yield_of (by rfl) fg) ?_; refine wp_calls rfl (enters_of Tryz.func62 (by kernel_rfl) rfl) (args := #[(.agg #[.slice A13 na c13, .bool a4]), (.agg #[.slice A15 nb c15, .bool a5])]) (by simp [Act.eval, f0, f1]) ?_; obtain ⟨O13, O15, O39, O41, O43, r13, r15, r39, r41, r43, TT, BB⟩ := id hS; apply Calls.mono; exact HSL.out _ _ _ _ _ r13 r15 TT hc13 hc15; rintro e w2 ⟨A, n, c, rfl, hc, hn, hv, hb⟩; exact ⟨_, rfl, hK _ w2 nofun (keep_below hb hS) ⟨A, n, c, rfl, hc, hn, hv.rd⟩⟩
                                  · intro a w' hS hO hF' hP K hK; obtain ⟨_, fg, rfl⟩ := (hF' 10 rfl).1 387 _ rfl rfl; have ha := hO 39 (by rfl); refine if_wanted (by rfl) (yield_of (by rfl) fg) ?_; refine wp_load_row 24 (.tmp 39) rfl g39 (ev ha) _ _ (0, 0) _ hS.2.2.1 Tryz.underlying24 rfl (by kernel_rfl) ?_; exact hK _ w' nofun (keep_same hS) rfl
                                  · intro a w' hS hO hF' hP K hK; obtain ⟨_, fg, rfl⟩ := (hF' 10 rfl).1 387 _ rfl rfl; obtain ⟨_, f0, Ay0, ny0, cy0, rfl, hc0, hn0, hr0⟩ := (hF' 13 rfl).1 390 _ rfl rfl; obtain ⟨_, f1, rfl⟩ := (hF' 14 rfl).1 391 _ rfl rfl; refine if_wanted (by rfl) (yield_of (by rfl) fg) ?_; refine wp_calls rfl (enters_of Tryz.func16 (by kernel_rfl) rfl) (args := #[(.agg #[.slice Ay0 ny0 cy0, .bool (wI na a4 zl).s]), (.agg #[.slice A39 n39 c39, .bool a4])]) (by simp [Act.eval, f0, f1]) ?_; obtain ⟨O13, O15, O39, O41, O43, r13, r15, r39, r41, r43, TT, BB⟩ := id hS; apply Calls.mono; (with_reducible apply same_t); (repeat (first | assumption | (with_reducible (apply Nb.rd; assumption)) | (with_reducible (apply Rb.at_later; assumption)) | (with_reducible (apply Tabs.at_later; assumption)) | (with_reducible apply Rb.alloc) | (with_reducible apply Tabs.alloc) | (with_reducible apply Rb.drew) | (with_reducible apply Tabs.drew) | (show I64 _; unfold I64; omega) | omega)); (first | exact sameV_self _ | (decide +kernel)); rintro e w2 ⟨rfl, hb⟩; exact ⟨_, rfl, hK _ w2 nofun (keep_below hb hS) rfl⟩
                                  · intro a w' hS hO hF' hP K hK; obtain ⟨_, f0, rfl⟩ := (hF' 10 rfl).1 387 _ rfl rfl; obtain ⟨_, f1, rfl⟩ := (hF' 15 rfl).1 392 _ rfl rfl; refine if_ok (by rfl) ?_; refine wp_pick_and _ _ _ rfl (ev f0) (ev f1) ?_; exact hK _ w' nofun (keep_same hS) rfl
                                  · intro a w' hS hO hF' hP K hK; obtain ⟨_, f0, rfl⟩ := (hF' 16 rfl).1 393 _ rfl rfl; refine if_ok (by rfl) ?_; unfold Oper.wp execOp; simp only [Sem.run_pure, ev f0]; exact hK _ w' nofun (keep_same hS) rfl
                                  · intro a w' hS hO hF' hP K hK; obtain ⟨_, fg, rfl⟩ := (hF' 17 rfl).1 394 _ rfl rfl; have ha := hO 13 (by rfl); refine if_wanted (by rfl) (yield_of (by rfl) fg) ?_; refine wp_load_row 24 (.tmp 13) rfl g13 (ev ha) _ _ (0, 0) _ hS.1 Tryz.underlying24 rfl (by kernel_rfl) ?_; exact hK _ w' nofun (keep_same hS) rfl
                                  · intro a w' hS hO hF' hP K hK; obtain ⟨_, fg, rfl⟩ := (hF' 17 rfl).1 394 _ rfl rfl; have ha := hO 15 (by rfl); refine if_wanted (by rfl) (yield_of (by rfl) fg) ?_; refine wp_load_row 24 (.tmp 15) rfl g15 (ev ha) _ _ (0, 0) _ hS.2.1 Tryz.underlying24 rfl (by kernel_rfl) ?_; exact hK _ w' nofun (keep_same hS) rfl
                                  · intro a w' hS hO hF' hP K hK; obtain ⟨_, fg, rfl⟩ := (hF' 17 rfl).1 394 _ rfl rfl; obtain ⟨_, f0, rfl⟩ := (hF' 18 rfl).1 395 _ rfl rfl; obtain ⟨_, f1, rfl⟩ := (hF' 19 rfl).1 396 _ rfl rfl; refine if_wanted (by rfl) (yield_of (by rfl) fg) ?_; refine wp_calls rfl (enters_of Tryz.func64 (by kernel_rfl) rfl) (args := #[(.agg #[.slice A13 na c13, .bool a4]), (.agg #[.slice A15 nb c15, .bool a5])]) (by simp [Act.eval, f0, f1]) ?_; obtain ⟨O13, O15, O39, O41, O43, r13, r15, r39, r41, r43, TT, BB⟩ := id hS; apply Calls.mono; exact HSR.out _ _ _ _ _ r13 r15 TT hc13 hc15; rintro e w2 ⟨A, n, c, rfl, hc, hn, hv, hb⟩; exact ⟨_, rfl, hK _ w2 nofun (keep_below hb hS) ⟨A, n, c, rfl, hc, hn, hv.rd⟩⟩
                                  · intro a w' hS hO hF' hP K hK; obtain ⟨_, fg, rfl⟩ := (hF' 17 rfl).1 394 _ rfl rfl; have ha := hO 41 (by rfl); refine if_wanted (by rfl) (yield_of (by rfl) fg) ?_; refine wp_load_row 24 (.tmp 41) rfl g41 (ev ha) _ _ (0, 0) _ hS.2.2.2.1 Tryz.underlying24 rfl (by kernel_rfl) ?_; exact hK _ w' nofun (keep_same hS) rfl
                                  · intro a w' hS hO hF' hP K hK; obtain ⟨_, fg, rfl⟩ := (hF' 17 rfl).1 394 _ rfl rfl; obtain ⟨_, f0, Ay0, ny0, cy0, rfl, hc0, hn0, hr0⟩ := (hF' 20 rfl).1 397 _ rfl rfl; obtain ⟨_, f1, rfl⟩ := (hF' 21 rfl).1 398 _ rfl rfl; refine if_wanted (by rfl) (yield_of (by rfl) fg) ?_; refine wp_calls rfl (enters_of Tryz.func16 (by kernel_rfl) rfl) (args := #[(.agg #[.slice Ay0 ny0 cy0, .bool (wI na a4 zr).s]), (.agg #[.slice A41 n41 c41, .bool a4])]) (by simp [Act.eval, f0, f1]) ?_; obtain ⟨O13, O15, O39, O41, O43, r13, r15, r39, r41, r43, TT, BB⟩ := id hS; apply Calls.mono; (with_reducible apply same_t); (repeat (first | assumption | (with_reducible (apply Nb.rd; assumption)) | (with_reducible (apply Rb.at_later; assumption)) | (with_reducible (apply Tabs.at_later; assumption)) | (with_reducible apply Rb.alloc) | (with_reducible apply Tabs.alloc) | (with_reducible apply Rb.drew) | (with_reducible apply Tabs.drew) | (show I64 _; unfold I64; omega) | omega)); (first | exact sameV_self _ | (decide +kernel)); rintro e w2 ⟨rfl, hb⟩; exact ⟨_, rfl, hK _ w2 nofun (keep_below hb hS) rfl⟩
                                  · intro a w' hS hO hF' hP K hK; obtain ⟨_, f0, rfl⟩ := (hF' 17 rfl).1 394 _ rfl rfl; obtain ⟨_, f1, rfl⟩ := (hF' 22 rfl).1 399 _ rfl rfl; refine if_ok (by rfl) ?_; refine wp_pick_and _ _ _ rfl (ev f0) (ev f1) ?_; exact hK _ w' nofun (keep_same hS) rfl
                                  · intro a w' hS hO hF' hP K hK; obtain ⟨_, f0, rfl⟩ := (hF' 23 rfl).1 400 _ rfl rfl; refine if_ok (by rfl) ?_; unfold Oper.wp execOp; simp only [Sem.run_pure, ev f0]; exact hK _ w' nofun (keep_same hS) rfl
                                  · intro a w' hS hO hF' hP K hK; obtain ⟨_, fg, rfl⟩ := (hF' 24 rfl).1 401 _ rfl rfl; have ha := hO 13 (by rfl); refine if_wanted (by rfl) (yield_of (by rfl) fg) ?_; refine wp_load_row 24 (.tmp 13) rfl g13 (ev ha) _ _ (0, 0) _ hS.1 Tryz.underlying24 rfl (by kernel_rfl) ?_; exact hK _ w' nofun (keep_same hS) rfl
                                  · intro a w' hS hO hF' hP K hK; obtain ⟨_, fg, rfl⟩ := (hF' 24 rfl).1 401 _ rfl rfl; obtain ⟨_, f0, rfl⟩ := (hF' 25 rfl).1 402 _ rfl rfl; refine if_wanted (by rfl) (yield_of (by rfl) fg) ?_; refine wp_calls rfl (enters_of Tryz.func75 (by kernel_rfl) rfl) (args := #[(.agg #[.slice A13 na c13, .bool a4])]) (by simp [Act.eval, f0]) ?_; obtain ⟨O13, O15, O39, O41, O43, r13, r15, r39, r41, r43, TT, BB⟩ := id hS; apply Calls.mono; exact T2.out.neg _ _ _ r13; rintro e w2 ⟨A, n, c, rfl, hc, hn, hv, hb⟩; exact ⟨_, rfl, hK _ w2 nofun (keep_below hb hS) ⟨A, n, c, rfl, hc, hn, hv.rd⟩⟩
                                  · intro a w' hS hO hF' hP K hK; obtain ⟨_, fg, rfl⟩ := (hF' 24 rfl).1 401 _ rfl rfl; have ha := hO 43 (by rfl); refine if_wanted (by rfl) (yield_of (by rfl) fg) ?_; refine wp_load_row 24 (.tmp 43) rfl g43 (ev ha) _ _ (0, 0) _ hS.2.2.2.2.1 Tryz.underlying24 rfl (by kernel_rfl) ?_; exact hK _ w' nofun (keep_same hS) rfl
                                  · intro a w' hS hO hF' hP K hK; obtain ⟨_, fg, rfl⟩ := (hF' 24 rfl).1 401 _ rfl rfl; obtain ⟨_, f0, Ay0, ny0, cy0, rfl, hc0, hn0, hr0⟩ := (hF' 26 rfl).1 403 _ rfl rfl; obtain ⟨_, f1, rfl⟩ := (hF' 27 rfl).1 404 _ rfl rfl; refine if_wanted (by rfl) (yield_of (by rfl) fg) ?_; refine wp_calls rfl (enters_of Tryz.func16 (by kernel_rfl) rfl) (args := #[(.agg #[.slice Ay0 ny0 cy0, .bool (wI na a4 (-own)).s]), (.agg #[.slice A43 n43 c43, .bool a4])]) (by simp [Act.eval, f0, f1]) ?_; obtain ⟨O13, O15, O39, O41, O43, r13, r15, r39, r41, r43, TT, BB⟩ := id hS; apply Calls.mono; (with_reducible apply same_t); (repeat (first | assumption | (with_reducible (apply Nb.rd; assumption)) | (with_reducible (apply Rb.at_later; assumption)) | (with_reducible (apply Tabs.at_later; assumption)) | (with_reducible apply Rb.alloc) | (with_reducible apply Tabs.alloc) | (with_reducible apply Rb.drew) | (with_reducible apply Tabs.drew) | (show I64 _; unfold I64; omega) | omega)); (first | exact sameV_self _ | (decide +kernel)); rintro e w2 ⟨rfl, hb⟩; exact ⟨_, rfl, hK _ w2 nofun (keep_below hb hS) rfl⟩
                                  · intro a w' hS hO hF' hP K hK; obtain ⟨_, f0, rfl⟩ := (hF' 24 rfl).1 401 _ rfl rfl; obtain ⟨_, f1, rfl⟩ := (hF' 28 rfl).1 405 _ rfl rfl; refine if_ok (by rfl) ?_; refine wp_pick_and _ _ _ rfl (ev f0) (ev f1) ?_; exact hK _ w' nofun (keep_same hS) rfl
                                  · intro a w' hS hO hF' hP K hK; obtain ⟨_, f0, rfl⟩ := (hF' 29 rfl).1 406 _ rfl rfl; refine if_ok (by rfl) ?_; unfold Oper.wp execOp; simp only [Sem.run_pure, ev f0]; exact hK _ w' nofun (keep_same hS) rfl
                                · intro vs0 u hl0 hS hV0
                                  match vs0, hl0, hV0 with
                                  | v0 :: v1 :: v2 :: v3 :: v4 :: v5 :: v6 :: v7 :: v8 :: v9 :: v10 :: v11 :: v12 :: v13 :: v14 :: v15 :: v16 :: v17 :: v18 :: v19 :: v20 :: v21 :: v22 :: v23 :: v24 :: v25 :: v26 :: v27 :: v28 :: v29 :: v30 :: [], _, hV =>
                                    obtain rfl := hV 0 _ rfl
                                    obtain rfl := hV 1 _ rfl
                                    obtain rfl := hV 2 _ rfl
                                    obtain rfl := hV 3 _ rfl
                                    obtain rfl := hV 4 _ rfl
                                    obtain rfl := hV 5 _ rfl
                                    obtain rfl := hV 6 _ rfl
                                    obtain rfl := hV 7 _ rfl
                                    obtain rfl := hV 8 _ rfl
                                    obtain rfl := hV 9 _ rfl
                                    obtain rfl := hV 10 _ rfl
                                    obtain rfl := hV 11 _ rfl
                                    obtain rfl := hV 12 _ rfl
                                    obtain rfl := hV 14 _ rfl
                                    obtain rfl := hV 15 _ rfl
                                    obtain rfl := hV 16 _ rfl
                                    obtain rfl := hV 17 _ rfl
                                    obtain rfl := hV 18 _ rfl
                                    obtain rfl := hV 19 _ rfl
                                    obtain rfl := hV 21 _ rfl
                                    obtain rfl := hV 22 _ rfl
                                    obtain rfl := hV 23 _ rfl
                                    obtain rfl := hV 24 _ rfl
                                    obtain rfl := hV 25 _ rfl
                                    obtain rfl := hV 27 _ rfl
                                    obtain rfl := hV 28 _ rfl
                                    obtain rfl := hV 29 _ rfl
                                    obtain rfl := hV 30 _ rfl
                                    simp only [puts, Act.put, List.setIfInBounds_toArray, List.set_cons_zero, List.set_cons_succ]
                                    clear O13 O15 O39 O41 O43 r13 r15 r39 r41 r43 TT BB
                                    obtain ⟨O13, O15, O39, O41, O43, r13, r15, r39, r41, r43, TT, BB⟩ := hS
                                    clear hV hV0 hl0
                                    replace O13 : Own u g13 24 #[.slice A13 na c13, .bool a4] := O13
                                    replace O15 : Own u g15 24 #[.slice A15 nb c15, .bool a5] := O15
                                    replace O39 : Own u g39 24 #[.slice A39 n39 c39, .bool a4] := O39
                                    replace O41 : Own u g41 24 #[.slice A41 n41 c41, .bool a4] := O41
                                    replace O43 : Own u g43 24 #[.slice A43 n43 c43, .bool a4] := O43
                                    replace r13 : Rb u A13 na la := r13
                                    replace r15 : Rb u A15 nb lb := r15
                                    replace r39 : Rb u A39 n39 (wI na a4 zl).l := r39
                                    replace r41 : Rb u A41 n41 (wI na a4 zr).l := r41
                                    replace r43 : Rb u A43 n43 (wI na a4 (-own)).l := r43
                                    replace TT : Tabs u := TT
                                    replace BB : Below w.heap.size w u := BB
                                    go_wp2
                                    go_ret
                                    exact ⟨rfl, BB⟩
end Go.Proofs.YtognpmggfplekaaGreatDoor
