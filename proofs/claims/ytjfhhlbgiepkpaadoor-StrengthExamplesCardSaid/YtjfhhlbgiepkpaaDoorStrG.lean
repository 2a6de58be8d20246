/-
  The reference's 'two' over the seat's translation. Conditions: intervals normalized.
-/
import Derived.Test.YtjfhhlbgiepkpaaDoorStrF
namespace Go.Proofs.YtjfhhlbgiepkpaaDoor
open Go Go.RowKit
attribute [local go_sem ↓] eql_p eql_r neq_p neq_r

set_option maxRecDepth 100000 in
set_option maxHeartbeats 4000000 in
theorem two_any (a0 a1 b0 b1 : Int) (w : World) [A : Nm a0 a1] [B : Nm b0 b1] : Calls Tryd.prog 37 #[.agg #[.int .i8 a0, .int .i8 a1], .agg #[.int .i8 b0, .int .i8 b1]] w fun e w' => e = .returned (.agg #[.int .i8 (cLo a0 a1 b0 b1), .int .i8 (cHi a0 a1 b0 b1)]) ∧ Below w.heap.size w w' := by
  have SS := Lib.hid (Seen.start (a0 := a0) (a1 := a1) (b0 := b0) (b1 := b1))
  obtain ⟨A0, A1, A2⟩ := A
  obtain ⟨B0, B1, B2⟩ := B
  have X := Lib.hid (St.new w a0 a1 b0 b1)
  go_enter Tryd.func37, Tryd.ntmps37
  go_wp2
  go_loopw [6] (fun v wr => ∃ m lo hi : Int, v = .int .i8 m ∧ a0 ≤ m ∧ m ≤ a1 + 1 ∧ St w wr a0 a1 b0 b1 lo hi ∧ Seen a0 a1 b0 b1 m b0 lo hi) (fun v _ => (a1 + 1 - intOf v).toNat)
  case atStart => exact ⟨a0, 7, -7, rfl, by omega, by omega, X.out, SS.out⟩
  case round =>
    obtain ⟨m, lo, hi, rfl, m0, m1, hS, hN⟩ := hrel
    have qA := hS.1.cell
    have qB := hS.2.1.cell
    have qO := hS.2.2.2.1.cell
    replace hS := Lib.hid hS
    replace hN := Lib.hid hN
    by_cases hlt : m ≤ a1
    · go_wp2
      obtain ⟨wo, rfl⟩ : ∃ wo : World, wo = wr := ⟨_, rfl⟩
      go_loopw [7] (fun v wr => ∃ k lo hi : Int, v = .int .i8 k ∧ b0 ≤ k ∧ k ≤ b1 + 1 ∧ St w wr a0 a1 b0 b1 lo hi ∧ Seen a0 a1 b0 b1 m k lo hi) (fun v _ => (b1 + 1 - intOf v).toNat)
      case atStart => exact ⟨b0, lo, hi, rfl, by omega, by omega, hS.out, hN.out⟩
      case round =>
        clear qA qB qO hS hN
        obtain ⟨k, lo, hi, rfl, k0, k1, hS, hN⟩ := hrel
        have qA := hS.1.cell
        have qB := hS.2.1.cell
        have qO := hS.2.2.2.1.cell
        replace hS := Lib.hid hS
        replace hN := Lib.hid hN
        by_cases hlt2 : k ≤ b1
        · go_wp2_with (go_at_call 32; refine (levels_any m k _ (by omega) (by omega) (by omega) (by omega)).mono ?_; rintro e w1 ⟨g, cap, n, rfl, hn, hg0, hg1, hcs, hb⟩)
          have hl := Nat.lt_of_lt_of_le hS.out.2.2.2.1.lt hg0
          replace hS := Lib.hid (hS.out.step hb)
          have lvb : -7 ≤ lvLo m k ∧ lvHi m k ≤ 7 ∧ lvLo m k ≤ lvHi m k := ⟨(lvl_bd _ m k (by omega) (by omega) ((lvl_iff _ _ _).2 ⟨Int.le_refl _, lv_le m k⟩)).1, (lvl_bd _ m k (by omega) (by omega) ((lvl_iff _ _ _).2 ⟨lv_le m k, Int.le_refl _⟩)).2, lv_le m k⟩
          obtain ⟨lv1, lv2, lv3⟩ := lvb
          replace hl := Lib.hid hl
          replace hcs := Lib.hid hcs
          replace hn := Lib.hid hn
          have hn1 : n ≤ 15 := by have := hn.out; omega
          clear qA qB qO hg0 hb
          go_loopw [9] (fun v wr => ∃ (i : Nat) (x y : Int), v = .int .i64 i ∧ i ≤ n ∧ St w wr a0 a1 b0 b1 x y ∧ (∀ j : Nat, j < n → wr.cell? ⟨g, j, none⟩ = some (.int .i8 (lvLo m k + j))) ∧
            x = (if i = 0 then lo else min lo (lvLo m k)) ∧ y = (if i = 0 then hi else max hi (lvLo m k + i - 1))) (fun v _ => n - (intOf v).toNat)
          case atStart => exact ⟨0, lo, hi, rfl, by omega, hS.out, hcs.out, by simp, by simp⟩
          case round =>
            have hS0 := hS
            clear hS
            obtain ⟨i, x, y, rfl, hil, hS, hc, hx, hy⟩ := hrel
            replace hx := Lib.hid hx
            replace hy := Lib.hid hy
            by_cases hlt3 : i < n
            · have qO := hS.2.2.2.1.cell
              have fO := hS.2.2.2.1.free
              have ci := hc i hlt3
              replace hS := Lib.hid hS
              replace hc := Lib.hid hc
              go_wp2
              go_region
              go_wp2
              go_roundw
              case rel =>
                refine ⟨i + 1, min x (lvLo m k + i), max y (lvLo m k + i), by go_num, by omega, ?_, fun j hj => ?_, ?_, ?_⟩
                · rw [show min x (lvLo m k + i) = if lvLo m k + i < x then lvLo m k + i else x by split <;> omega, show max y (lvLo m k + i) = if y < lvLo m k + i then lvLo m k + i else y by split <;> omega]
                  exact (hS.out.set _ _).drewN 1
                · show (World.setCell _ _ _).cell? _ = _
                  rw [World.cell?_setCell_other _ _ _ _ (by intro e; have := congrArg Addr.block e; simp at this; have := hl.out; omega), World.cell?_setCell_other _ _ _ _ (by intro e; have := congrArg Addr.block e; simp at this; have := hl.out; omega)]
                  exact hc.out j hj
                · have := hx.out
                  rw [if_neg (by omega)]
                  split at this <;> omega
                · have := hy.out
                  rw [if_neg (by omega)]
                  split at this <;> omega
              case measure => simp [intOf]; omega
            · have hin : i = n := by omega
              replace hS := Lib.hid hS
              replace hc := Lib.hid hc
              replace hin := Lib.hid hin
              go_wp2
              go_roundw
              case rel =>
                refine ⟨k + 1, x, y, rfl, by omega, by omega, hS.out, ?_⟩
                have h1 := Seen.next (by omega) (by omega) hN.out m0 (by omega) k0 (by omega)
                have h2 := hx.out
                have h3 := hy.out
                have h4 := hin.out
                have h5 := hn.out
                rw [if_neg (by omega)] at h2 h3
                rw [show x = min lo (lvLo m k) from h2, show y = max hi (lvHi m k) by omega]
                exact h1
              case measure => simp [intOf]; omega
        · go_wp2
          go_roundw
          case rel => exact ⟨m + 1, lo, hi, rfl, by omega, by omega, hS.out, Seen.row ((show k = b1 + 1 by omega) ▸ hN.out)⟩
          case measure => simp [intOf]; omega
    · obtain rfl : m = a1 + 1 := by omega
      have qR := hS.out.2.2.1.cell
      have fR := hS.out.2.2.1.free
      obtain ⟨e1, e2⟩ := Seen.all (by omega) (by omega) hN.out
      replace e1 := Lib.hid e1
      replace e2 := Lib.hid e2
      go_wp2
      refine bodyPost_ret (v := .agg #[.int .i8 (cLo a0 a1 b0 b1), .int .i8 (cHi a0 a1 b0 b1)]) ?_ rfl ⟨rfl, ?_⟩
      · rw [← e1.out, ← e2.out]
        simp [results, Tryd.results37, go_sem, qR]
      · have hB := hS.out.2.2.2.2
        repeat first | exact Below.refl _ _ | assumption | refine below_set ?_ (by simp; try omega) _ | refine below_new ?_ _ | refine below_drewN ?_ _ | refine below_step ?_ (by assumption)
end Go.Proofs.YtjfhhlbgiepkpaaDoor
