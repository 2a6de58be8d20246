/-
  Walk of BvDivision: the call returns true and changes no argument. No conditions.
-/
import Derived.Test.YtaedfoblniadfaaBvLd
import Derived.Test.YtaedfoblniadfaaBvQ
namespace Go.Proofs.Ytaedfoblniadfaa
open Go Go.RowKit

theorem cmp_lt (A B : Option Addr) (n c x m d y : Nat) (w : World) (h : Rd w A n x) (h' : Rd w B m y) (hn : n ≤ 10000) (hm : m ≤ 10000) (hlt : x < y) :
    Calls Try.prog 26 #[.slice A n c, .slice B m d] w fun e w' => e = .returned (.int .i64 (-1)) ∧ w = w' := by
  have := cmp_any A B n c x m d y w h h' hn hm
  rwa [show cmpI x y = -1 by unfold cmpI; rw [if_pos (by omega)]] at this
theorem cmp_nil (A : Option Addr) (n c x : Nat) (w : World) (h : Rd w A n x) (hn : n ≤ 10000) (v : Int) (hv : v = cmpI x 0) :
    Calls Try.prog 26 #[.slice A n c, .slice none 0 0] w fun e w' => e = .returned (.int .i64 v) ∧ w = w' := by
  rw [hv]; exact cmp_any A none n c x 0 0 0 w h (Rd.nil w) hn (by omega)
theorem Nw.put {w : World} {B g n c x k : Nat} (h : Nw w B (some ⟨g, 0, none⟩) n c x) (hk : k < n) (v : Bool) : Nw (w.setCell ⟨g, k, none⟩ (.bool v)) B (some ⟨g, 0, none⟩) n c (setb x k v) := by
  obtain ⟨hx, hl, hr⟩ := h
  refine ⟨setb_lt hx hk, by simp [bl_length], ?_⟩
  rcases hr with ⟨e, h0⟩ | ⟨g', cap, cur, e, hB, hh, h1, h2, h3, h4⟩
  · simp at e
  · simp only [Value.slice.injEq, Option.some.injEq, Addr.mk.injEq, and_true, true_and] at e
    obtain ⟨rfl, rfl⟩ := e
    refine .inr ⟨g, c, cur.setIfInBounds k (.bool v), rfl, hB, Own.put (w := w) (g := g) (t := 4) (cs := cur) hh k (.bool v), h1, h2, by simpa using h3, ?_⟩
    rw [Array.toList_setIfInBounds, List.take_set, h4]
    have e := ba_set (x := x) v hk
    have := congrArg Array.toList e
    simpa [ba] using this
def DivD (n m y b0 : Nat) (wd : World) (D : Option Addr) (cd : Nat) (i : Value) (u : World) : Prop :=
  ∃ k : Nat, m ≤ k ∧ (k ≤ n ∨ k = m) ∧ i = .int .i64 k ∧ Below b0 wd u ∧ Nw u b0 D n cd (fitv n m y k)
theorem Nw.base {w wF : World} {B n c x : Nat} {A : Option Addr} (h : Nw w B A n c x) (hb : Below B wF w) : ∃ b0, b0 = B ∧ Nw w b0 A n c x ∧ Below b0 wF w := ⟨B, rfl, h, hb⟩
set_option maxRecDepth 100000 in
set_option maxHeartbeats 8000000 in
theorem walk_BvDivision (A : Option Addr) (n c x : Nat) (B : Option Addr) (m d y : Nat) (w : World) (ha : Arg w A n c x) (hb' : Arg w B m d y) :
    Calls Try.prog 9 #[.slice A n c, .slice B m d] w fun en w' => en = .returned (.bool true) ∧ Below w.heap.size w w' := by
  obtain ⟨hc, hcm, h⟩ := ha
  obtain ⟨hd, hdm, h'⟩ := hb'
  unfold maxLen at hcm hdm
  by_cases g : 140 < n ∨ 140 < m
  · have hlong := Lib.hid (fun W => long2 A B n c m d W true ⟨fun _ => g, fun _ => rfl⟩)
    clear g
    go_enter Try.func9, Try.ntmps9
    go_wp2_with (first | (go_at_call 14; apply Calls.mono; (with_reducible apply awake_any); rintro e wn ⟨rfl, hb⟩) | (go_at_call 13; apply Calls.mono; (with_reducible exact hlong.out _); rintro e wn ⟨rfl, rfl⟩))
    go_ret
    refine ⟨rfl, ?_⟩
    repeat (first | exact Below.refl _ _ | assumption | (apply below_last; assumption) | apply below_new | apply below_drew)
  · have hlong := Lib.hid (fun W => long2 A B n c m d W false ⟨fun h => absurd h (by decide), fun h => absurd h g⟩)
    have gn : n ≤ 140 := by omega
    have gm : m ≤ 140 := by omega
    clear g
    go_enter Try.func9, Try.ntmps9
    go_wp2_with (first | (go_at_call 14; apply Calls.mono; (with_reducible apply awake_any); rintro e wn ⟨rfl, hb⟩) | (go_at_call 13; apply Calls.mono; (with_reducible exact hlong.out _); rintro e wn ⟨rfl, rfl⟩))
    have hbA : Below w.heap.size w wn := by
      repeat (first | exact Below.refl _ _ | assumption | (apply below_last; assumption) | apply below_new | apply below_drew)
    go_loopw [5, 6] (fun z i u => ∃ k : Nat, k ≤ m ∧ i = .int .i64 k ∧ z = .bool (decide (y % 2 ^ k = 0)) ∧ u = wn) (fun _ i _ => m - (intOf i).toNat)
    case atStart => exact ⟨0, Nat.zero_le _, rfl, by simp [Nat.mod_one], rfl⟩
    case round =>
      obtain ⟨k, hk, rfl, rfl, rfl⟩ := hrel
      have h1 := h.step hbA
      have h1' := h'.step hbA
      by_cases g1 : k < m
      · obtain ⟨bb, bo, rfl, hlt, hcell⟩ := h1'.at_ g1
        have d1 : decide ((k : Int) < m) = true := by simpa using g1
        have l0 : (0 : Int) ≤ k := by omega
        have l1 : (k : Int) < m := by omega
        have hms := mod_step y k
        obtain ⟨bz, hbz⟩ : ∃ b, b = y.testBit k := ⟨_, rfl⟩
        rw [← hbz] at hms hcell
        obtain ⟨zb, hzb⟩ : ∃ b, b = decide (y % 2 ^ k = 0) := ⟨_, rfl⟩
        rw [← hzb]
        have hpk := pow_p k
        have hst : decide (y % 2 ^ (k + 1) = 0) = (zb && !bz) := by
          rw [hms, hzb]
          cases bz
          · simp
          · simp <;> omega
        replace hst := Lib.hid hst
        clear hms hbz hzb h h' h1 h1' hpk
        cases zb <;> cases bz
        all_goals
          go_wp2
          go_roundw
          case rel => exact ⟨k + 1, by omega, by go_num, by rw [hst.out]; rfl, by first | trivial | rfl⟩
          case measure => simp [intOf]; omega
      · obtain rfl : k = m := by omega
        rw [Nat.mod_eq_of_lt h'.1]
        by_cases hy : y = 0
        · subst hy
          go_wp2_with (first | (go_at_call 32; apply Calls.mono; (with_reducible apply divmod_zero); (repeat (first | assumption | exact Rd.nil _ | exact rd_zero _ _ | exact rd_true _ | (apply Nw.rd; assumption) | (apply Rd.at_later; assumption) | apply Rd.alloc | omega)); rintro e wq ⟨rfl, rfl⟩; skip) | (go_at_call 33; apply Calls.mono; (with_reducible apply sdivmod_zero); (repeat (first | assumption | exact Rd.nil _ | exact rd_zero _ _ | exact rd_true _ | (apply Nw.rd; assumption) | (apply Rd.at_later; assumption) | apply Rd.alloc | omega)); rintro e ws ⟨rfl, hbs⟩; skip))
          go_ret
          refine ⟨rfl, ?_⟩
          repeat (first | exact Below.refl _ _ | assumption | (apply below_last; assumption) | apply below_new | apply below_drew)
        · have hy' : y ≠ 0 := hy
          have dz : decide (y = 0) = false := by simp [hy]
          have hY : 0 < absv k y := Nat.pos_of_ne_zero fun e => hy ((absv_zero h'.1).1 e)
          obtain ⟨hs1, hs2⟩ := sr_abs h.1 hY
          have hsd := fun j hj => sdiv_eq (n := n) (m := k) (y := y) (k := j) h.1 h'.1 hj
          have hrl : x % y < y := Nat.mod_lt _ (Nat.pos_of_ne_zero hy)
          have hsd := Lib.hid hsd
          have hs2 := Lib.hid hs2
          clear hY hy
          go_wp2_with (first | (go_at_call 32; apply Calls.mono; (with_reducible apply divmod_any); (repeat (first | assumption | exact Rd.nil _ | exact rd_zero _ _ | exact rd_true _ | (apply Nw.rd; assumption) | (apply Rd.at_later; assumption) | apply Rd.alloc | omega)); rintro e wq ⟨Q, cq, R, cr, rfl, hQ, hR, hbq⟩; skip) | (go_at_call 33; apply Calls.mono; (with_reducible apply sdivmod_any); (repeat (first | assumption | exact Rd.nil _ | exact rd_zero _ _ | exact rd_true _ | (apply Nw.rd; assumption) | (apply Rd.at_later; assumption) | apply Rd.alloc | omega)); rintro e ws ⟨S, cs, T, ct, rfl, hS, hT, hbs⟩; skip) | (go_at_call 19; apply Calls.mono; (with_reducible apply mul_any); (repeat (first | assumption | exact Rd.nil _ | exact rd_zero _ _ | exact rd_true _ | (apply Nw.rd; assumption) | (apply Rd.at_later; assumption) | apply Rd.alloc | omega)); rintro e wn ⟨A, c, rfl, hv, hb⟩) | (go_at_call 16; apply Calls.mono; (with_reducible apply add_any); (repeat (first | assumption | exact Rd.nil _ | exact rd_zero _ _ | exact rd_true _ | (apply Nw.rd; assumption) | (apply Rd.at_later; assumption) | apply Rd.alloc | omega)); rintro e wn ⟨A, c, rfl, hv, hb⟩) | (go_at_call 20; apply Calls.mono; (with_reducible apply same_t); (repeat (first | assumption | exact Rd.nil _ | exact rd_zero _ _ | exact rd_true _ | (apply Nw.rd; assumption) | (apply Rd.at_later; assumption) | apply Rd.alloc | omega)); (first | (rintro e wn ⟨rfl, hb⟩) | ((exact udiv_eq h.1); (rintro e wn ⟨rfl, hb⟩)) | (rfl; rintro e wn ⟨rfl, hb⟩) | (rfl; (exact udiv_eq h.1); rintro e wn ⟨rfl, hb⟩))) | (go_at_call 26; apply Calls.mono; (with_reducible apply cmp_lt); (repeat (first | assumption | exact Rd.nil _ | exact rd_zero _ _ | exact rd_true _ | (apply Nw.rd; assumption) | (apply Rd.at_later; assumption) | apply Rd.alloc | omega)); rintro e wn ⟨rfl, rfl⟩; skip) | (go_at_call 50; apply Calls.mono; (with_reducible apply rFit_any); (repeat (first | assumption | exact Rd.nil _ | exact rd_zero _ _ | exact rd_true _ | (apply Nw.rd; assumption) | (apply Rd.at_later; assumption) | apply Rd.alloc | omega)); rintro e wd ⟨D, cd, rfl, hD, hbd⟩; skip))
          obtain ⟨b0, hb0e, hD0, hbd0⟩ := Nw.base hD hbd
          have hb0e := Lib.hid hb0e
          go_loopw [14] (fun i u => DivD n k y b0 wd D cd i u) (fun i _ => n - (intOf i).toNat)
          case atStart => exact ⟨k, Nat.le_refl _, .inr rfl, rfl, ⟨rfl, rfl, rfl, Nat.le_refl _, fun _ _ => rfl⟩, by rw [fitv_start h'.1]; exact hD0⟩
          case round =>
            obtain ⟨j, hkj, hjn, rfl, hbw, hDr⟩ := hrel
            have hbu := hbd.trans (show Below _ wd wr from hb0e.out ▸ hbw)
            by_cases g2 : j < n
            · have hB' : Rd wr B k y := by (repeat (first | assumption | exact Rd.nil _ | exact rd_zero _ _ | exact rd_true _ | (apply Nw.rd; assumption) | (apply Rd.at_later; assumption) | apply Rd.alloc | omega))
              obtain ⟨gD, cap, eD, hgB, hgl⟩ := hDr.2.form (by omega)
              simp only [Value.slice.injEq] at eD
              obtain ⟨rfl, _, rfl⟩ := eD
              have cD := (hDr.2.cellAt j (by omega)).trans (bl_get _ _ _ g2)
              have fD := hDr.2.frozenAt j
              have hput := hDr.put g2 (neg k y)
              rw [setb_new (fitv_lt h'.1 hkj g2), ← fitv_step hkj g2] at hput
              have hng := rNegative_any B k d y wr hB' (by omega)
              have hput := Lib.hid hput
              have d2 : decide ((j : Int) < n) = true := by simpa using g2
              have l0 : (0 : Int) ≤ j := by omega
              have l1 : (j : Int) < n := by omega
              generalize neg k y = nb at *
              go_wp2_with (go_at_call 51; refine hng.mono ?_; rintro e wn ⟨rfl, rfl⟩)
              go_roundw
              case rel => exact ⟨j + 1, by omega, .inl (by omega), by go_num, hbw.setCell hgB _, hput.out⟩
              case measure => simp [intOf]; omega
            · have hsd' := Lib.hid (hsd.out j (by omega))
              have d2 : decide ((j : Int) < n) = false := by simp; omega
              by_cases hT0 : sr n x k y = 0
              · have hv0 := Lib.hid (show (0 : Int) = cmpI (sr n x k y) 0 by rw [hT0]; rfl)
                clear hT0
                go_wp2_with (first | (go_at_call 19; apply Calls.mono; (with_reducible apply mul_any); (repeat (first | assumption | exact Rd.nil _ | exact rd_zero _ _ | exact rd_true _ | (apply Nw.rd; assumption) | (apply Rd.at_later; assumption) | apply Rd.alloc | omega)); rintro e wn ⟨A, c, rfl, hv, hb⟩) | (go_at_call 16; apply Calls.mono; (with_reducible apply add_any); (repeat (first | assumption | exact Rd.nil _ | exact rd_zero _ _ | exact rd_true _ | (apply Nw.rd; assumption) | (apply Rd.at_later; assumption) | apply Rd.alloc | omega)); rintro e wn ⟨A, c, rfl, hv, hb⟩) | (go_at_call 20; apply Calls.mono; (with_reducible apply same_t); (repeat (first | assumption | exact Rd.nil _ | exact rd_zero _ _ | exact rd_true _ | (apply Nw.rd; assumption) | (apply Rd.at_later; assumption) | apply Rd.alloc | omega)); (first | (rintro e wn ⟨rfl, hb⟩) | ((exact hsd'.out); (rintro e wn ⟨rfl, hb⟩)) | (rfl; rintro e wn ⟨rfl, hb⟩) | (rfl; (exact hsd'.out); rintro e wn ⟨rfl, hb⟩))) | (go_at_call 52; apply Calls.mono; (with_reducible apply size_any); (repeat (first | assumption | exact Rd.nil _ | exact rd_zero _ _ | exact rd_true _ | (apply Nw.rd; assumption) | (apply Rd.at_later; assumption) | apply Rd.alloc | omega)); (try (apply Nw.le; assumption)); rintro e wn ⟨l, hl, A, c, rfl, hv, hb⟩) | (go_at_call 51; apply Calls.mono; (with_reducible apply rNegative_any); (repeat (first | assumption | exact Rd.nil _ | exact rd_zero _ _ | exact rd_true _ | (apply Nw.rd; assumption) | (apply Rd.at_later; assumption) | apply Rd.alloc | omega)); rintro e wn ⟨rfl, rfl⟩) | (go_at_call 26; apply Calls.mono; (first | (with_reducible refine cmp_nil _ _ _ _ _ ?_ ?_ _ hv0.out) | (with_reducible apply cmp_lt)); (repeat (first | assumption | exact Rd.nil _ | exact rd_zero _ _ | exact rd_true _ | (apply Nw.rd; assumption) | (apply Rd.at_later; assumption) | apply Rd.alloc | omega)); rintro e wn ⟨rfl, rfl⟩))
                go_ret
                refine ⟨rfl, ?_⟩
                repeat (first | exact Below.refl _ _ | assumption | (apply below_last; assumption) | apply below_new | apply below_drew)
              · have hv0 := Lib.hid (show (1 : Int) = cmpI (sr n x k y) 0 by unfold cmpI; rw [if_neg (by omega), if_neg (by omega)])
                have hnn : neg n (sr n x k y) = neg n x := hs2.out.resolve_left hT0
                clear hT0
                go_wp2_with (first | (go_at_call 19; apply Calls.mono; (with_reducible apply mul_any); (repeat (first | assumption | exact Rd.nil _ | exact rd_zero _ _ | exact rd_true _ | (apply Nw.rd; assumption) | (apply Rd.at_later; assumption) | apply Rd.alloc | omega)); rintro e wn ⟨A, c, rfl, hv, hb⟩) | (go_at_call 16; apply Calls.mono; (with_reducible apply add_any); (repeat (first | assumption | exact Rd.nil _ | exact rd_zero _ _ | exact rd_true _ | (apply Nw.rd; assumption) | (apply Rd.at_later; assumption) | apply Rd.alloc | omega)); rintro e wn ⟨A, c, rfl, hv, hb⟩) | (go_at_call 20; apply Calls.mono; (with_reducible apply same_t); (repeat (first | assumption | exact Rd.nil _ | exact rd_zero _ _ | exact rd_true _ | (apply Nw.rd; assumption) | (apply Rd.at_later; assumption) | apply Rd.alloc | omega)); (first | (rintro e wn ⟨rfl, hb⟩) | ((exact hsd'.out); (rintro e wn ⟨rfl, hb⟩)) | (rfl; rintro e wn ⟨rfl, hb⟩) | (rfl; (exact hsd'.out); rintro e wn ⟨rfl, hb⟩))) | (go_at_call 52; apply Calls.mono; (with_reducible apply size_any); (repeat (first | assumption | exact Rd.nil _ | exact rd_zero _ _ | exact rd_true _ | (apply Nw.rd; assumption) | (apply Rd.at_later; assumption) | apply Rd.alloc | omega)); (try (apply Nw.le; assumption)); rintro e wn ⟨l, hl, A, c, rfl, hv, hb⟩) | (go_at_call 51; apply Calls.mono; (with_reducible apply rNegative_any); (repeat (first | assumption | exact Rd.nil _ | exact rd_zero _ _ | exact rd_true _ | (apply Nw.rd; assumption) | (apply Rd.at_later; assumption) | apply Rd.alloc | omega)); rintro e wn ⟨rfl, rfl⟩) | (go_at_call 26; apply Calls.mono; (first | (with_reducible refine cmp_nil _ _ _ _ _ ?_ ?_ _ hv0.out) | (with_reducible apply cmp_lt)); (repeat (first | assumption | exact Rd.nil _ | exact rd_zero _ _ | exact rd_true _ | (apply Nw.rd; assumption) | (apply Rd.at_later; assumption) | apply Rd.alloc | omega)); rintro e wn ⟨rfl, rfl⟩))
                go_ret
                refine ⟨rfl, ?_⟩
                repeat (first | exact Below.refl _ _ | assumption | (apply below_last; assumption) | apply below_new | apply below_drew)
end Go.Proofs.Ytaedfoblniadfaa
