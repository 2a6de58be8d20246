/-
  The statement LiteralCanonical, walked. Condition: the variables that the program reads hold values of their types.
-/
import Derived.Test.YtgojnpblhfbdpaaGreatDoorR5
namespace Go.Proofs.YtgojnpblhfbdpaaGreatDoor
open Go Go.RowKit

theorem awake_t (w u : World) (E : Env w) (hu : Below w.heap.size w u) : Calls Tryz.prog 13 #[] u fun e w' => e = .returned (.bool true) ∧ Below u.heap.size u w' := awake5_any u (E.step hu)
/-- A parsed vector's literal in base 2 is parsed as the vector. -/
theorem prs_cases (s : List UInt8) (i : Int) : ((prsV s i).2.2 ≠ 0 ∧ (prsV s i).1 = nilV ∧ (prsV s i).2.1 = 0) ∨
    ((prsV s i).2.2 = 0 ∧ i < (prsV s i).2.1 ∧ (prsV s i).2.1 ≤ s.length ∧ okB (prsV s i).1.l = true ∧ bits4 (prsV s i).1.l) := by
  unfold prsV
  split
  · exact .inl ⟨by decide, rfl, rfl⟩
  · split
    · exact .inl ⟨by decide, rfl, rfl⟩
    · split
      · exact .inl ⟨by decide, rfl, rfl⟩
      · rename_i h1 h2 h3
        cases hq : prsT (s.drop i.toNat) with
        | error e => exact .inl ⟨prs_err hq, rfl, rfl⟩
        | ok p =>
          obtain ⟨v, n⟩ := p
          obtain ⟨a, b, c, d⟩ := prsT_ok hq
          rw [List.length_drop] at d
          refine .inr ⟨rfl, ?_, ?_, a, b⟩ <;> simp only <;> omega
theorem fmt_two {v : V} (hok : okB v.l = true) (h4 : bits4 v.l) : ∃ z, fmtV v 98 = (z, 0) ∧ prsV z 0 = (v, (z.length : Int), 0) ∧ z.length ≤ 400 := by
  have hc := (chk_ok _).2 hok
  have hb : bszC 98 = some 1 := rfl
  obtain ⟨_, h1, h2⟩ := round_pure hok hc h4 hb
  cases hu : (digB 1 v).any upC
  · obtain ⟨a, b⟩ := h2 hu
    exact ⟨_, a, b, litT_short hok hb⟩
  · exact absurd rfl (h1 hu).2
set_option maxRecDepth 100000 in
set_option maxHeartbeats 4000000 in
theorem walk_LiteralCanonical (l : List UInt8) (i : Int) (w : World) (E : Env w) : Calls Tryz.prog 7 #[.string (str l), .int .i64 i] w fun e w' => e = .returned (.bool true) ∧ Below w.heap.size w w' := by
  have BB := Below.refl w.heap.size w
  have HA := Lib.hid fun (u : World) (hu : Below w.heap.size w u) => awake_t w u E hu
  have HL := Lib.hid fun (u : World) => longS_any l u
  cases hlo : decide (2000 < l.length ∧ l.length ≤ 65536)
  case true =>
    rw [hlo] at HL
    clear E
    go_enter Tryz.func7, Tryz.ntmps7
    go_wp2_with (first | (go_at_call 12; (with_reducible refine (HL.out _).mono ?_); rintro e wl ⟨rfl, rfl⟩) | (go_at_call 13; (with_reducible refine (HA.out _ BB).mono ?_); rintro e wa ⟨rfl, hb⟩; replace BB := below_step BB hb))
    go_ret
    exact ⟨rfl, BB⟩
  case false =>
    rw [hlo] at HL
    have HP := Lib.hid fun (u : World) (hu : Below w.heap.size w u) => parse_any l i u (E.step hu)
    rcases prs_cases l i with ⟨h1, h2, h3⟩ | ⟨h1, h2, h3, h4, h5⟩
    · rw [h2, h3] at HP
      have e1 : ((prsV l i).2.2 == 0) = false := by simpa using h1
      have e2 : ((prsV l i).2.2 != 0) = true := by unfold bne; rw [e1]; rfl
      generalize (prsV l i).2.2 = er at *
      clear h1 h2 h3 E hlo
      go_enter Tryz.func7, Tryz.ntmps7
      go_wp2_with (first
        | (go_at_call 12; (with_reducible refine (HL.out _).mono ?_); rintro e wl ⟨rfl, rfl⟩)
        | (go_at_call 13; (with_reducible refine (HA.out _ BB).mono ?_); rintro e wa ⟨rfl, hb⟩; replace BB := below_step BB hb)
        | (go_at_call 15; (with_reducible refine (HP.out _ BB).mono ?_); rintro e w1 ⟨A, kk, cc, rfl, hc, hk9, hN, hb⟩; obtain rfl : kk = 0 := hN.len.symm; replace BB := below_new (below_step BB hb) (.cells #[.slice A 0 cc, .bool false] 26); have ON := Own.new w1 26 #[.slice A 0 cc, .bool false]; have q0 := ON.cell 0; have q1 := ON.cell 1))
      go_ret
      exact ⟨rfl, BB⟩
    · obtain ⟨z, f1, f2, f3⟩ := fmt_two (v := (prsV l i).1) h4 h5
      have hol := ok_len h4
      have hck := (chk_ok _).2 h4
      rw [h1] at HP
      have HF := Lib.hid fun (A : Option Addr) (n c : Nat) (u : World) (hu : Below w.heap.size w u) (h : Rb u A n (prsV l i).1.l) (hc : n ≤ c) (hn : n ≤ 1000) => (show Calls Tryz.prog 20 #[.agg #[.slice A n c, .bool (prsV l i).1.s], .int .u8 98] u (RetS u (fmtV ⟨(prsV l i).1.l, (prsV l i).1.s⟩ 98)) from format_any A n c (prsV l i).1.s (prsV l i).1.l 98 u (E.step hu) h hc (by omega))
      have ev : (⟨(prsV l i).1.l, (prsV l i).1.s⟩ : V) = (prsV l i).1 := rfl
      rw [ev, f1] at HF
      have HQ := Lib.hid fun (u : World) (hu : Below w.heap.size w u) => parse_any z 0 u (E.step hu)
      rw [f2] at HQ
      have HC := Lib.hid fun (A : Option Addr) (n c : Nat) (u : World) (h : Rb u A n (prsV l i).1.l) => check_any A n c (prsV l i).1.s (prsV l i).1.l u h
      rw [hck] at HC
      have HS := Lib.hid fun (A Y : Option Addr) (n m c d : Nat) (u : World) (h : Rb u A n (prsV l i).1.l) (h' : Rb u Y m (prsV l i).1.l) (hn : n ≤ 1000) (hm : m ≤ 1000) => same_t A Y n m c d (prsV l i).1.s (prsV l i).1.s (prsV l i).1.l (prsV l i).1.l u h h' hn hm (sameV_rfl _)
      have d1 : decide (i < (prsV l i).2.1) = true := by simpa using h2
      have d2 : decide ((prsV l i).2.1 ≤ (l.length : Int)) = true := by simpa using h3
      have hsz : (str l).size = l.length := rfl
      have hsz2 : (str z).size = z.length := rfl
      generalize (prsV l i).2.1 = nx at *
      generalize (prsV l i).1 = y at *
      simp only at HP HQ HF
      clear h1 h2 h3 h4 h5 f1 f2 f3 E hlo hck hol ev
      go_enter Tryz.func7, Tryz.ntmps7
      go_wp2_with (first
        | (go_at_call 12; (with_reducible refine (HL.out _).mono ?_); rintro e wl ⟨rfl, rfl⟩)
        | (go_at_call 13; (with_reducible refine (HA.out _ BB).mono ?_); rintro e wa ⟨rfl, hb⟩; replace BB := below_step BB hb)
        | (go_at_call 15; first
          | ((with_reducible refine (HQ.out _ BB).mono ?_); rintro e w3 ⟨A2, k2, c2, rfl, hc2, hk2, hN2, hb⟩; replace BB := below_new (below_step BB hb) (.cells #[.slice A2 k2 c2, .bool y.s] 26); have OM := Own.new w3 26 #[.slice A2 k2 c2, .bool y.s]; have m0 := OM.cell 0; have m1 := OM.cell 1; replace hr := (hr.step hb).alloc (.cells #[.slice A2 k2 c2, .bool y.s] 26); have hr2 := hN2.rd.alloc (.cells #[.slice A2 k2 c2, .bool y.s] 26); replace ON := (ON.step hb).alloc (.cells #[.slice A2 k2 c2, .bool y.s] 26); have q0 := ON.cell 0; have q1 := ON.cell 1)
          | ((with_reducible refine (HP.out _ BB).mono ?_); rintro e w1 ⟨A, kk, cc, rfl, hc, hk9, hN, hb⟩; replace BB := below_new (below_step BB hb) (.cells #[.slice A kk cc, .bool y.s] 26); have ON := Own.new w1 26 #[.slice A kk cc, .bool y.s]; have q0 := ON.cell 0; have q1 := ON.cell 1; have hr := hN.rd.alloc (.cells #[.slice A kk cc, .bool y.s] 26)))
        | (go_at_call 20; (with_reducible refine (HF.out _ _ _ _ BB hr hc hk9).mono ?_); rintro e w2 ⟨rfl, hb⟩; replace BB := below_step BB hb; replace hr := hr.step hb; replace ON := ON.step hb; have q0 := ON.cell 0; have q1 := ON.cell 1)
        | (go_at_call 30; (refine (HC.out _ _ _ _ hr).mono ?_); rintro e w4 ⟨rfl, hb⟩; replace BB := below_step BB hb; replace hr := hr.step hb; replace hr2 := hr2.step hb; replace ON := ON.step hb; replace OM := OM.step hb; have q0 := ON.cell 0; have q1 := ON.cell 1; have m0 := OM.cell 0; have m1 := OM.cell 1)
        | (go_at_call 16; (refine (HS.out _ _ _ _ _ _ _ hr hr2 hk9 hk2).mono ?_); rintro e w5 ⟨rfl, hb⟩; replace BB := below_step BB hb))
      go_ret
      exact ⟨rfl, BB⟩
end Go.Proofs.YtgojnpblhfbdpaaGreatDoor
