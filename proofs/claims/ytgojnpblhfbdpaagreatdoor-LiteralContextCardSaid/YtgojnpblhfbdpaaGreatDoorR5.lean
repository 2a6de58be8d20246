/-
  Contracts of the statements' own functions long, of, times. Conditions: texts of at most a thousand characters.
  Contracts of the statements' own functions reads, fails, awake. Conditions: texts of at most a thousand characters.
  The contract of the statements' own function awake. No conditions.
  The variables that the program reads, out of the condition that they are laid as listed and out of the shape of the world that the call meets.
-/
import Derived.Test.YtgojnpblhfbdpaaGreatDoorR4
import Derived.Test.YtgojnpblhfbdpaaGreatDoorW2
import Derived.Test.YtgojnpblhfbdpaaGreatDoorW5
import Derived.Test.YtgojnpblhfbdpaaGreatDoorR2
import Derived.Test.YtgojnpblhfbdpaaGreatDoorLaid
import Derived.Test.YtgojnpblhfbdpaaGreatDoorRows
import Derived.Shelf.Vars
import Derived.Handed
import Derived.LaidLaws
import Derived.Lay
import Derived.SizedLaws
namespace Go.Proofs.YtgojnpblhfbdpaaGreatDoor
open Go Go.RowKit

set_option maxRecDepth 100000 in
set_option maxHeartbeats 2000000 in
theorem of5_any (s : ByteArray) (sg : Bool) (w : World) (hs : s.size ≤ 1000) : Calls Tryz.prog 27 #[.string s, .bool sg] w (RetV w ⟨ofL s, sg⟩) := by
  have O0 := ((Own.at1 w 26 #[.slice none 0 0, .bool false] (g := w.heap.size) (by simp)).alloc (.cells #[.slice none 0 0, .bool sg] 26))
  have O1 := (Own.at1 (w.alloc (.cells #[.slice none 0 0, .bool false] 26)) 26 #[.slice none 0 0, .bool sg] (g := w.heap.size + 1) (by simp))
  have BB := (below_new (below_new (Below.refl w.heap.size w) (.cells #[.slice none 0 0, .bool false] 26)) (.cells #[.slice none 0 0, .bool sg] 26))
  unfold ofL
  have qO10 := O1.cell 0; have qO11 := O1.cell 1; have fO10 := O1.free 0; have fO11 := O1.free 1
  go_enter Tryz.func27, Tryz.ntmps27
  go_wp2
  go_loopw [6] (fun i wr => ∃ (j : Nat) (A : Option Addr) (c : Nat), j ≤ s.size ∧ i = .int .i64 ((s.size : Int) - 1 - j) ∧ Hid (Own wr w.heap.size 26 #[.slice none 0 0, .bool false]) ∧ Hid (Own wr (w.heap.size + 1) 26 #[.slice A j c, .bool sg]) ∧ Hid (Nb wr w.heap.size A j c (tab j (ofF s))) ∧ Hid (Below w.heap.size w wr)) (fun i _ => (intOf i + 1).toNat)
  case atStart => exact ⟨0, none, 0, Nat.zero_le _, by simp only [Value.int.injEq, true_and]; omega, Lib.hid O0, Lib.hid O1, Lib.hid (Nb.nil _ _), Lib.hid BB⟩
  case round =>
    clear O0 O1 BB qO10 qO11 fO10 fO11
    obtain ⟨j, A, c', hj, rfl, H0, H1, HN, HB⟩ := hrel
    have p0 := H1.out.cell 0
    have p1 := H1.out.cell 1
    have f0 := H1.out.free 0
    by_cases hlt : j < s.size
    · obtain ⟨k, hk⟩ : ∃ k, s.size - 1 - j = k := ⟨_, rfl⟩
      have hks : k < s.size := by omega
      have e1 : (s.size : Int) - 1 - j = k := by omega
      rw [e1]
      have hnx := ofF_at hks hk
      have hsz0 := HB.out.size
      generalize hc : s[k] = c at *
      have d1 : (0 : Int) ≤ k := by omega
      have d2 : (k : Int) < s.size := by omega
      replace hk := Lib.hid hk
      replace e1 := Lib.hid e1
      by_cases g0 : c.toNat = 49
      · skip
        have t0 : ((c.toNat : Int) == 49) = true := by rw [g0]; rfl
        rw [show chI c = 1 from by unfold chI; rw [if_pos g0]] at hnx
        replace hnx := Lib.hid hnx
        have U1 := H1.out.alloc (.cells #[.int .u8 1] 58)
        have U0 := H0.out.alloc (.cells #[.int .u8 1] 58)
        have UN := HN.out.alloc (.cells #[.int .u8 1] 58)
        have RB : Rb (wr.alloc (.cells #[.int .u8 1] 58)) (some ⟨wr.heap.size, 0, none⟩) 1 [1] := Rb.of_own (Own.new wr _ _) (nnL_one (by decide)) rfl
        have hB1 := below_new HB.out (.cells #[.int .u8 1] 58)
        have hsz := hB1.size
        clear p1 g0
        go_wp2_with (at_builtin; refine wpList_catG rfl (.tmp 27) (.tmp 29) rfl rfl hsz rfl UN rfl RB (by omega) ?_; intro A9 c9 w9 hN9 hg9; have V1 := U1.catG (by decide) UN hg9; have V0 := U0.catG (by decide) UN hg9; have hB9 := grown_ownV UN hg9 hB1; have v0 := V1.cell 0; have v1 := V1.free 0)
        go_roundw
        case rel => exact ⟨j + 1, A9, c9, by omega, by simp only [Value.int.injEq, true_and]; have := e1.out; omega, Lib.hid (V0.far (p := ⟨w.heap.size + 1, 0, none⟩) (by simp) _), Lib.hid (V1.put 0 _), Lib.hid (by rw [tab_next, hnx.out]; exact hN9.setT V1 (by decide) 0 _), Lib.hid (below_set hB9 (p := ⟨w.heap.size + 1, 0, none⟩) (by simp) _)⟩
        case measure => (simp [intOf]) <;> omega
      · by_cases g1 : c.toNat = 120
        · skip
          have t0 : ((c.toNat : Int) == 49) = false := by simp; omega
          have t1 : ((c.toNat : Int) == 120) = true := by rw [g1]; rfl
          rw [show chI c = 2 from by unfold chI; rw [if_neg g0]; rw [if_pos g1]] at hnx
          replace hnx := Lib.hid hnx
          have U1 := H1.out.alloc (.cells #[.int .u8 2] 58)
          have U0 := H0.out.alloc (.cells #[.int .u8 2] 58)
          have UN := HN.out.alloc (.cells #[.int .u8 2] 58)
          have RB : Rb (wr.alloc (.cells #[.int .u8 2] 58)) (some ⟨wr.heap.size, 0, none⟩) 1 [2] := Rb.of_own (Own.new wr _ _) (nnL_one (by decide)) rfl
          have hB1 := below_new HB.out (.cells #[.int .u8 2] 58)
          have hsz := hB1.size
          clear p1 g0 g1
          go_wp2_with (at_builtin; refine wpList_catG rfl (.tmp 27) (.tmp 29) rfl rfl hsz rfl UN rfl RB (by omega) ?_; intro A9 c9 w9 hN9 hg9; have V1 := U1.catG (by decide) UN hg9; have V0 := U0.catG (by decide) UN hg9; have hB9 := grown_ownV UN hg9 hB1; have v0 := V1.cell 0; have v1 := V1.free 0)
          go_roundw
          case rel => exact ⟨j + 1, A9, c9, by omega, by simp only [Value.int.injEq, true_and]; have := e1.out; omega, Lib.hid (V0.far (p := ⟨w.heap.size + 1, 0, none⟩) (by simp) _), Lib.hid (V1.put 0 _), Lib.hid (by rw [tab_next, hnx.out]; exact hN9.setT V1 (by decide) 0 _), Lib.hid (below_set hB9 (p := ⟨w.heap.size + 1, 0, none⟩) (by simp) _)⟩
          case measure => (simp [intOf]) <;> omega
        · by_cases g2 : c.toNat = 122
          · skip
            have t0 : ((c.toNat : Int) == 49) = false := by simp; omega
            have t1 : ((c.toNat : Int) == 120) = false := by simp; omega
            have t2 : ((c.toNat : Int) == 122) = true := by rw [g2]; rfl
            rw [show chI c = 3 from by unfold chI; rw [if_neg g0]; rw [if_neg g1]; rw [if_pos g2]] at hnx
            replace hnx := Lib.hid hnx
            have U1 := H1.out.alloc (.cells #[.int .u8 3] 58)
            have U0 := H0.out.alloc (.cells #[.int .u8 3] 58)
            have UN := HN.out.alloc (.cells #[.int .u8 3] 58)
            have RB : Rb (wr.alloc (.cells #[.int .u8 3] 58)) (some ⟨wr.heap.size, 0, none⟩) 1 [3] := Rb.of_own (Own.new wr _ _) (nnL_one (by decide)) rfl
            have hB1 := below_new HB.out (.cells #[.int .u8 3] 58)
            have hsz := hB1.size
            clear p1 g0 g1 g2
            go_wp2_with (at_builtin; refine wpList_catG rfl (.tmp 27) (.tmp 29) rfl rfl hsz rfl UN rfl RB (by omega) ?_; intro A9 c9 w9 hN9 hg9; have V1 := U1.catG (by decide) UN hg9; have V0 := U0.catG (by decide) UN hg9; have hB9 := grown_ownV UN hg9 hB1; have v0 := V1.cell 0; have v1 := V1.free 0)
            go_roundw
            case rel => exact ⟨j + 1, A9, c9, by omega, by simp only [Value.int.injEq, true_and]; have := e1.out; omega, Lib.hid (V0.far (p := ⟨w.heap.size + 1, 0, none⟩) (by simp) _), Lib.hid (V1.put 0 _), Lib.hid (by rw [tab_next, hnx.out]; exact hN9.setT V1 (by decide) 0 _), Lib.hid (below_set hB9 (p := ⟨w.heap.size + 1, 0, none⟩) (by simp) _)⟩
            case measure => (simp [intOf]) <;> omega
          · skip
            have t0 : ((c.toNat : Int) == 49) = false := by simp; omega
            have t1 : ((c.toNat : Int) == 120) = false := by simp; omega
            have t2 : ((c.toNat : Int) == 122) = false := by simp; omega
            rw [show chI c = 0 from by unfold chI; rw [if_neg g0]; rw [if_neg g1]; rw [if_neg g2]] at hnx
            replace hnx := Lib.hid hnx
            have U1 := H1.out.alloc (.cells #[.int .u8 0] 58)
            have U0 := H0.out.alloc (.cells #[.int .u8 0] 58)
            have UN := HN.out.alloc (.cells #[.int .u8 0] 58)
            have RB : Rb (wr.alloc (.cells #[.int .u8 0] 58)) (some ⟨wr.heap.size, 0, none⟩) 1 [0] := Rb.of_own (Own.new wr _ _) (nnL_one (by decide)) rfl
            have hB1 := below_new HB.out (.cells #[.int .u8 0] 58)
            have hsz := hB1.size
            clear p1 g0 g1 g2
            go_wp2_with (at_builtin; refine wpList_catG rfl (.tmp 27) (.tmp 29) rfl rfl hsz rfl UN rfl RB (by omega) ?_; intro A9 c9 w9 hN9 hg9; have V1 := U1.catG (by decide) UN hg9; have V0 := U0.catG (by decide) UN hg9; have hB9 := grown_ownV UN hg9 hB1; have v0 := V1.cell 0; have v1 := V1.free 0)
            go_roundw
            case rel => exact ⟨j + 1, A9, c9, by omega, by simp only [Value.int.injEq, true_and]; have := e1.out; omega, Lib.hid (V0.far (p := ⟨w.heap.size + 1, 0, none⟩) (by simp) _), Lib.hid (V1.put 0 _), Lib.hid (by rw [tab_next, hnx.out]; exact hN9.setT V1 (by decide) 0 _), Lib.hid (below_set hB9 (p := ⟨w.heap.size + 1, 0, none⟩) (by simp) _)⟩
            case measure => (simp [intOf]) <;> omega
    · obtain rfl : j = s.size := by omega
      have e1 : (s.size : Int) - 1 - s.size = -1 := by omega
      rw [e1]
      have g0 := H0.out.cell 0
      have g1 := H0.out.cell 1
      have g2 := H0.out.free 0
      have g3 := H0.out.free 1
      clear hlt e1
      go_wp2
      exact ret_vec Tryz.results27 rfl rfl (H0.out.put2 _ _) (RetV.mk' (v := ⟨tab s.size (ofF s), sg⟩) ((HN.out.setT H0.out (by decide) 0 _).setT (H0.out.put 0 _) (by decide) 1 _) (below_set2 HB.out (Nat.le_refl _) _ _))
/-- A text, k times. -/
def rpt (l : List UInt8) : Nat → List UInt8
  | 0 => []
  | k + 1 => rpt l k ++ l
theorem rpt_len (l : List UInt8) : ∀ k, (rpt l k).length = k * l.length
  | 0 => by simp [rpt]
  | k + 1 => by rw [rpt, List.length_append, rpt_len l k, Nat.succ_mul]
set_option maxRecDepth 100000 in
theorem times_any (l : List UInt8) (n : Nat) (w : World) (h : n * l.length ≤ 100000) (hn : n ≤ 100000) : Calls Tryz.prog 24 #[.string (str l), .int .i64 n] w fun e w' => e = .returned (.string (str (rpt l n))) ∧ w = w' := by
  go_enter Tryz.func24, Tryz.ntmps24
  go_wp2
  go_loopw [5, 6] (fun o i wr => ∃ k : Nat, k ≤ n ∧ i = .int .i64 k ∧ o = .string (str (rpt l k)) ∧ Hid (w = wr)) (fun _ i _ => n - (intOf i).toNat)
  case atStart => exact ⟨0, Nat.zero_le _, rfl, rfl, Lib.hid rfl⟩
  case round =>
    obtain ⟨k, hk, rfl, rfl, HW⟩ := hrel
    by_cases hlt : k < n
    · have hcat : str (rpt l k) ++ str l = str (rpt l (k + 1)) := str_app _ _
      have hno : ¬ 9223372036854775807 < (rpt l k).length + l.length := by
        have h1 := rpt_len l (k + 1)
        rw [rpt, List.length_append] at h1
        have h2 : (k + 1) * l.length ≤ n * l.length := Nat.mul_le_mul_right _ hlt
        omega
      replace h := Lib.hid h
      go_wp2
      go_roundw
      case rel => exact ⟨k + 1, by omega, by go_num, rfl, HW⟩
      case measure => simp [intOf]; omega
    · obtain rfl : k = n := by omega
      clear h
      go_wp2
      go_ret
      exact ⟨rfl, HW.out⟩
theorem longS_any (l : List UInt8) (w : World) : Calls Tryz.prog 12 #[.string (str l)] w fun e w' => e = .returned (.bool (decide (2000 < l.length ∧ l.length ≤ 65536))) ∧ w = w' := by
  have hsz : (str l).size = l.length := rfl
  by_cases h1 : 2000 < l.length
  · have d1 : decide ((2000 : Int) < l.length) = true := by simp; omega
    by_cases h2 : l.length ≤ 65536
    · have d2 : decide ((l.length : Int) ≤ 65536) = true := by simp; omega
      have e : decide (2000 < l.length ∧ l.length ≤ 65536) = true := decide_eq_true ⟨h1, h2⟩
      rw [e]
      clear h1 h2 e
      go_enter Tryz.func12, Tryz.ntmps12
      go_wp2
      go_ret
      exact ⟨rfl, rfl⟩
    · have d2 : decide ((l.length : Int) ≤ 65536) = false := by simp; omega
      have e : decide (2000 < l.length ∧ l.length ≤ 65536) = false := decide_eq_false (fun h => h2 h.2)
      rw [e]
      clear h1 h2 e
      go_enter Tryz.func12, Tryz.ntmps12
      go_wp2
      go_ret
      exact ⟨rfl, rfl⟩
  · have d1 : decide ((2000 : Int) < l.length) = false := by simp; omega
    have e : decide (2000 < l.length ∧ l.length ≤ 65536) = false := decide_eq_false (fun h => h1 h.1)
    rw [e]
    clear h1 e
    go_enter Tryz.func12, Tryz.ntmps12
    go_wp2
    go_ret
    exact ⟨rfl, rfl⟩
end Go.Proofs.YtgojnpblhfbdpaaGreatDoor

namespace Go.Proofs.YtgojnpblhfbdpaaGreatDoor
open Go Go.RowKit

theorem ent_of5 : Ent 27 := enters_of Tryz.func27 (by kernel_rfl) rfl
theorem ent_same4 : Ent 16 := enters_of Tryz.func16 (by kernel_rfl) rfl
theorem sameV_rfl (v : V) : sameV v v = true := by simp [sameV]
set_option maxRecDepth 100000 in
set_option maxHeartbeats 2000000 in
theorem reads_any (s bs : List UInt8) (sg : Bool) (w : World) (E : Env w) (hb1 : bs.length ≤ 1000) (hp : prsV s 0 = (⟨ofL (str bs), sg⟩, (s.length : Int), 0)) : Calls Tryz.prog 25 #[.string (str s), .string (str bs), .bool sg] w fun e w' => e = .returned (.bool true) ∧ Below w.heap.size w w' := by
  have HP := parse_any s 0 w E
  rw [hp] at HP
  simp only at HP
  replace HP := Lib.hid HP
  have HF := Lib.hid fun (u : World) => of5_any (str bs) sg u (by have : (str bs).size = bs.length := rfl; omega)
  have hlb : (ofL (str bs)).length = bs.length := by unfold ofL; rw [tab_len]; rfl
  replace hlb : Hid ((ofL (str bs)).length ≤ 1000) := Lib.hid (by omega)
  clear hp E hb1
  go_enter Tryz.func25, Tryz.ntmps25
  go_wp2_with (first | (go_at_call 15; (with_reducible refine HP.out.mono ?_); rintro e w1 ⟨A, kk, cc, rfl, hc, hk9, hN, hb⟩; have hr := (hN.rd.alloc (.cells #[.slice A kk cc, .bool sg] 26)); have ON := Own.new w1 26 #[.slice A kk cc, .bool sg]; have BB := below_new hb (.cells #[.slice A kk cc, .bool sg] 26)))
  have S0 : (fun u => owns w1.heap.size #[.slice A kk cc, .bool sg] u ∧ (rds A kk (ofL (str bs)) u ∧ blw w u)) (w1.alloc (.cells #[.slice A kk cc, .bool sg] 26)).drew := ⟨ON.drew, hr.step (below_drew (Below.refl _ _)), BB.drew⟩
  clear hr ON BB hN hb
  refine region_y (by kernel_rfl) (fun u => owns w1.heap.size #[.slice A kk cc, .bool sg] u ∧ (rds A kk (ofL (str bs)) u ∧ blw w u)) [tru, tru, tru, tru, tru, tru, tru, tru, tru, tru, tru, tru, tru, tru, tru, tru]
    [isV (.int .i64 0), isV (.bool true), isV (.bool true), isV (.int .i64 (s.length : Int)), isV (.string (str s)), isV (.int .i64 (s.length : Int)), isV (.bool true), isV (.bool true), isV (.bool true), isV (.agg #[.slice A kk cc, .bool sg]), isV (.string (str bs)), isV (.bool sg), isR ⟨ofL (str bs), sg⟩, isV (.bool true), isV (.bool true), isV (.bool true)]
    [some 16, some 17, some 18, some 19, some 20, some 21, some 22, some 23, some 24, some 25, some 26, some 27, some 28, some 29, some 30, some 6] [[], [0], [1], [2], [2], [4, 2], [3, 5, 2], [2, 6], [7, 2], [8], [8], [8], [10, 11, 8, 8], [9, 12, 12, 8], [8, 13], [14, 13, 0, 1, 2, 3, 4, 5, 6, 7, 8, 9, 10, 11, 12, 13, 14]] (by kernel_rfl) (by kernel_rfl) rfl (by kernel_rfl) (by kernel_rfl) (by kernel_rfl) S0 (by
    intro U hU
    simp only [List.mem_cons, List.not_mem_nil, or_false, or_self] at hU
    subst hU
    trivial) ?_ ?_
  · refine ⟨?_, ?_, ?_, ?_, ?_, ?_, ?_, ?_, ?_, ?_, ?_, ?_, ?_, ?_, ?_, ?_, trivial⟩
    · intro a w' hS hO hF' hP K hK
      have ha := hO 9 (by rfl)
      refine if_ok (by rfl) ?_
      refine wp_mv _ rfl (ev ha) ?_
      exact hK _ w' (fun h => by cases h) (keep_same hS) rfl
    · intro a w' hS hO hF' hP K hK
      obtain ⟨_, f0, rfl⟩ := (hF' 0 rfl).1 16 _ rfl rfl
      refine if_ok (by rfl) ?_
      refine wp_val (w' := w') (q := .bool true) (by unfold execOp; simp only [ev f0]; simp [go_sem]) ?_
      exact hK _ w' (fun h => by cases h) (keep_same hS) rfl
    · intro a w' hS hO hF' hP K hK
      obtain ⟨_, f0, rfl⟩ := (hF' 1 rfl).1 17 _ rfl rfl
      refine if_ok (by rfl) ?_
      refine wp_mv _ rfl (ev f0) ?_
      exact hK _ w' (fun h => by cases h) (keep_same hS) rfl
    · intro a w' hS hO hF' hP K hK
      have ha := hO 8 (by rfl)
      obtain ⟨_, fg, rfl⟩ := (hF' 2 rfl).1 18 _ rfl rfl
      refine if_wanted (by rfl) (yield_of (by rfl) fg) ?_
      refine wp_mv _ rfl (ev ha) ?_
      exact hK _ w' (fun h => by cases h) (keep_same hS) rfl
    · intro a w' hS hO hF' hP K hK
      have ha := hO 0 (by rfl)
      obtain ⟨_, fg, rfl⟩ := (hF' 2 rfl).1 18 _ rfl rfl
      refine if_wanted (by rfl) (yield_of (by rfl) fg) ?_
      refine wp_mv _ rfl (ev ha) ?_
      exact hK _ w' (fun h => by cases h) (keep_same hS) rfl
    · intro a w' hS hO hF' hP K hK
      obtain ⟨_, f0, rfl⟩ := (hF' 4 rfl).1 20 _ rfl rfl
      have hsz : (str s).size = s.length := rfl
      obtain ⟨_, fg, rfl⟩ := (hF' 2 rfl).1 18 _ rfl rfl
      refine if_wanted (by rfl) (yield_of (by rfl) fg) ?_
      refine wp_val (w' := w') (q := .int .i64 (s.length : Int)) (by
        unfold execOp
        simp only [resolve, invoke, builtin, Sem.run_bind, Sem.run_pure, Result.andThen_ok, List.map_toArray, List.map_cons, List.map_nil, ev f0]
        simp [go_sem, hsz]) ?_
      exact hK _ w' (fun h => by cases h) (keep_same hS) rfl
    · intro a w' hS hO hF' hP K hK
      obtain ⟨_, f0, rfl⟩ := (hF' 3 rfl).1 19 _ rfl rfl
      obtain ⟨_, f1, rfl⟩ := (hF' 5 rfl).1 21 _ rfl rfl
      obtain ⟨_, fg, rfl⟩ := (hF' 2 rfl).1 18 _ rfl rfl
      refine if_wanted (by rfl) (yield_of (by rfl) fg) ?_
      refine wp_val (w' := w') (q := .bool true) (by unfold execOp; simp only [ev f0, ev f1]; simp [go_sem]) ?_
      exact hK _ w' (fun h => by cases h) (keep_same hS) rfl
    · intro a w' hS hO hF' hP K hK
      obtain ⟨_, f0, rfl⟩ := (hF' 2 rfl).1 18 _ rfl rfl
      obtain ⟨_, f1, rfl⟩ := (hF' 6 rfl).1 22 _ rfl rfl
      refine if_ok (by rfl) ?_
      refine wp_pick_and _ _ _ rfl (ev f0) (ev f1) ?_
      exact hK _ w' (fun h => by cases h) (keep_same hS) rfl
    · intro a w' hS hO hF' hP K hK
      obtain ⟨_, f0, rfl⟩ := (hF' 7 rfl).1 23 _ rfl rfl
      refine if_ok (by rfl) ?_
      refine wp_mv _ rfl (ev f0) ?_
      exact hK _ w' (fun h => by cases h) (keep_same hS) rfl
    · intro a w' hS hO hF' hP K hK
      have ha := hO 7 (by rfl)
      obtain ⟨_, fg, rfl⟩ := (hF' 8 rfl).1 24 _ rfl rfl
      refine if_wanted (by rfl) (yield_of (by rfl) fg) ?_
      refine wp_load_row 26 (.tmp 7) rfl w1.heap.size (ev ha) _ _ (0, 0) _ hS.1 Tryz.underlying26 rfl (by kernel_rfl) ?_
      exact hK _ w' (fun h => by cases h) (keep_same hS) rfl
    · intro a w' hS hO hF' hP K hK
      have ha := hO 1 (by rfl)
      obtain ⟨_, fg, rfl⟩ := (hF' 8 rfl).1 24 _ rfl rfl
      refine if_wanted (by rfl) (yield_of (by rfl) fg) ?_
      refine wp_mv _ rfl (ev ha) ?_
      exact hK _ w' (fun h => by cases h) (keep_same hS) rfl
    · intro a w' hS hO hF' hP K hK
      have ha := hO 2 (by rfl)
      obtain ⟨_, fg, rfl⟩ := (hF' 8 rfl).1 24 _ rfl rfl
      refine if_wanted (by rfl) (yield_of (by rfl) fg) ?_
      refine wp_mv _ rfl (ev ha) ?_
      exact hK _ w' (fun h => by cases h) (keep_same hS) rfl
    · intro a w' hS hO hF' hP K hK
      obtain ⟨_, f0, rfl⟩ := (hF' 10 rfl).1 26 _ rfl rfl
      obtain ⟨_, f1, rfl⟩ := (hF' 11 rfl).1 27 _ rfl rfl
      obtain ⟨_, fg, rfl⟩ := (hF' 8 rfl).1 24 _ rfl rfl
      refine if_wanted (by rfl) (yield_of (by rfl) fg) ?_
      refine wp_calls rfl ent_of5 (args := #[.string (str bs), .bool sg]) (by simp [Act.eval, f0, f1]) ?_
      refine (HF.out w').mono ?_
      rintro e w9 ⟨A9, c9, rfl, hN9, hb9⟩
      exact ⟨_, rfl, hK _ w9 (fun h => by cases h) (keep_below hb9 hS) ⟨A9, c9, rfl, hN9.rd⟩⟩
    · intro a w' hS hO hF' hP K hK
      obtain ⟨_, f0, rfl⟩ := (hF' 9 rfl).1 25 _ rfl rfl
      obtain ⟨_, f1, A9, c9, rfl, r9⟩ := (hF' 12 rfl).1 28 _ rfl rfl
      obtain ⟨_, fg, rfl⟩ := (hF' 8 rfl).1 24 _ rfl rfl
      refine if_wanted (by rfl) (yield_of (by rfl) fg) ?_
      refine wp_calls rfl ent_same4 (args := #[.agg #[.slice A kk cc, .bool sg], .agg #[.slice A9 (ofL (str bs)).length c9, .bool sg]]) (by simp [Act.eval, f0, f1]) ?_
      refine (same_t A A9 kk (ofL (str bs)).length cc c9 sg sg (ofL (str bs)) (ofL (str bs)) w' hS.2.1 r9 (by omega) (by have := hlb.out; omega) (sameV_rfl _)).mono ?_
      rintro e w9 ⟨rfl, hb9⟩
      exact ⟨_, rfl, hK _ w9 (fun h => by cases h) (keep_below hb9 hS) rfl⟩
    · intro a w' hS hO hF' hP K hK
      obtain ⟨_, f0, rfl⟩ := (hF' 8 rfl).1 24 _ rfl rfl
      obtain ⟨_, f1, rfl⟩ := (hF' 13 rfl).1 29 _ rfl rfl
      refine if_ok (by rfl) ?_
      refine wp_pick_and _ _ _ rfl (ev f0) (ev f1) ?_
      exact hK _ w' (fun h => by cases h) (keep_same hS) rfl
    · intro a w' hS hO hF' hP K hK
      obtain ⟨_, f0, rfl⟩ := (hF' 14 rfl).1 30 _ rfl rfl
      refine if_ok (by rfl) ?_
      refine wp_val (w' := w') (q := .bool true) (by unfold execOp; simp only [Sem.run_pure, ev f0]) ?_
      exact hK _ w' (fun h => by cases h) (keep_same hS) rfl
  · intro vs u hl hS hV
    match vs, hl, hV with
    | [v0, v1, v2, v3, v4, v5, v6, v7, v8, v9, v10, v11, v12, v13, v14, v15], _, hV =>
      simp only [puts, Act.put, List.setIfInBounds_toArray, List.set_cons_zero, List.set_cons_succ]
      obtain rfl : v15 = .bool true := hV 15 _ rfl
      obtain ⟨_, _, BB⟩ := hS
      clear hV
      go_wp2
      go_ret
      exact ⟨rfl, BB⟩
set_option maxRecDepth 100000 in
set_option maxHeartbeats 2000000 in
theorem fails_any (s : List UInt8) (er : Int) (w : World) (E : Env w) (hp : prsV s 0 = (nilV, 0, er)) : Calls Tryz.prog 26 #[.string (str s), .int .i64 er] w fun e w' => e = .returned (.bool true) ∧ Below w.heap.size w w' := by
  have HP := parse_any s 0 w E
  rw [hp] at HP
  simp only at HP
  replace HP := Lib.hid HP
  have HS := Lib.hid fun (A : Option Addr) (kk cc : Nat) (u : World) (h : Rb u A kk ([] : List Int)) (hk : kk ≤ 1000) => same_t A none kk 0 cc 0 false false [] [] u h (Rb.nil u) (by omega) (by omega) (sameV_rfl _)
  have b1 : (er == er) = true := by simp
  clear hp E
  go_enter Tryz.func26, Tryz.ntmps26
  go_wp2_with (first
    | (go_at_call 15; (with_reducible refine HP.out.mono ?_); rintro e w1 ⟨A, kk, cc, rfl, hc, hk9, hN, hb⟩; have hr := (hN.rd.alloc (.cells #[.slice A kk cc, .bool false] 26)); have ON := Own.new w1 26 #[.slice A kk cc, .bool false]; have q0 := ON.cell 0; have q1 := ON.cell 1; have BB := below_new hb (.cells #[.slice A kk cc, .bool false] 26))
    | (go_at_call 16; (refine (HS.out _ _ _ _ hr hk9).mono ?_); rintro e w2 ⟨rfl, hb2⟩))
  go_ret
  exact ⟨rfl, below_step BB hb2⟩
end Go.Proofs.YtgojnpblhfbdpaaGreatDoor

namespace Go.Proofs.YtgojnpblhfbdpaaGreatDoor
open Go Go.RowKit

theorem rd_0 : prsV [50, 53] 0 = (⟨ofL (str [48, 48, 48, 48, 48, 48, 48, 48, 48, 48, 48, 48, 48, 48, 48, 48, 48, 48, 48, 48, 48, 48, 48, 48, 48, 48, 48, 49, 49, 48, 48, 49]), true⟩, (([50, 53] : List UInt8).length : Int), 0) := by kernel_rfl
theorem rd_1 : prsV [56, 39, 104, 70] 0 = (⟨ofL (str [48, 48, 48, 48, 49, 49, 49, 49]), false⟩, (([56, 39, 104, 70] : List UInt8).length : Int), 0) := by kernel_rfl
theorem rd_2 : prsV [52, 39, 98, 120, 49] 0 = (⟨ofL (str [120, 120, 120, 49]), false⟩, (([52, 39, 98, 120, 49] : List UInt8).length : Int), 0) := by kernel_rfl
theorem rd_3 : prsV [54, 39, 115, 98, 49, 95, 48, 49] 0 = (⟨ofL (str [48, 48, 48, 49, 48, 49]), true⟩, (([54, 39, 115, 98, 49, 95, 48, 49] : List UInt8).length : Int), 0) := by kernel_rfl
theorem rd_4 : prsV [51, 39, 100, 57] 0 = (⟨ofL (str [48, 48, 49]), false⟩, (([51, 39, 100, 57] : List UInt8).length : Int), 0) := by kernel_rfl
theorem rd_5 : prsV [52, 39, 100, 122] 0 = (⟨ofL (str [122, 122, 122, 122]), false⟩, (([52, 39, 100, 122] : List UInt8).length : Int), 0) := by kernel_rfl
theorem rd_6 : prsV [39, 104, 122] 0 = (⟨ofL (str [122, 122, 122, 122, 122, 122, 122, 122, 122, 122, 122, 122, 122, 122, 122, 122, 122, 122, 122, 122, 122, 122, 122, 122, 122, 122, 122, 122, 122, 122, 122, 122]), false⟩, (([39, 104, 122] : List UInt8).length : Int), 0) := by kernel_rfl
theorem rd_7 : prsV [56, 39, 104, 120, 122, 49] 0 = (⟨ofL (str [122, 122, 122, 122, 48, 48, 48, 49]), false⟩, (([56, 39, 104, 120, 122, 49] : List UInt8).length : Int), 0) := by kernel_rfl
theorem fl_0 : prsV [52, 39, 98, 49, 50] 0 = (nilV, 0, 3) := by kernel_rfl
theorem fl_1 : prsV [48, 39, 98, 49] 0 = (nilV, 0, 12) := by kernel_rfl
theorem fl_2 : prsV [52, 39] 0 = (nilV, 0, 4) := by kernel_rfl
theorem fl_3 : prsV [57, 57, 57, 57, 57, 57, 57, 57, 57, 57] 0 = (nilV, 0, 5) := by kernel_rfl
theorem fl_4 : prsV [49, 50, 97, 98] 0 = (nilV, 0, 3) := by kernel_rfl
theorem dg_b : digV ⟨ofL (str [49, 120, 48, 49]), false⟩ 98 = ([49, 120, 48, 49], 0) := by kernel_rfl
theorem dg_h : digV ⟨ofL (str [49, 120, 48, 49]), false⟩ 104 = ([88], 0) := by kernel_rfl
theorem dg_d : digV ⟨ofL (str [49, 120, 48, 49]), false⟩ 100 = ([88], 0) := by kernel_rfl
theorem fm_h : fmtV ⟨ofL (str [49, 120, 48, 49]), false⟩ 104 = ([], 8) := by kernel_rfl
theorem tm_0 : str (rpt [48] 27) ++ (⟨#[49, 49, 48, 48, 49]⟩ : ByteArray) = str [48, 48, 48, 48, 48, 48, 48, 48, 48, 48, 48, 48, 48, 48, 48, 48, 48, 48, 48, 48, 48, 48, 48, 48, 48, 48, 48, 49, 49, 48, 48, 49] := by kernel_rfl
theorem tm_z : rpt [122] 32 = [122, 122, 122, 122, 122, 122, 122, 122, 122, 122, 122, 122, 122, 122, 122, 122, 122, 122, 122, 122, 122, 122, 122, 122, 122, 122, 122, 122, 122, 122, 122, 122] := by kernel_rfl
set_option maxRecDepth 100000 in
set_option maxHeartbeats 4000000 in
theorem awake5_any (w : World) (E : Env w) : Calls Tryz.prog 13 #[] w fun e w' => e = .returned (.bool true) ∧ Below w.heap.size w w' := by
  have BB := Below.refl w.heap.size w
  have R0 := Lib.hid fun (u : World) (hu : Below w.heap.size w u) => reads_any [50, 53] [48, 48, 48, 48, 48, 48, 48, 48, 48, 48, 48, 48, 48, 48, 48, 48, 48, 48, 48, 48, 48, 48, 48, 48, 48, 48, 48, 49, 49, 48, 48, 49] true u (E.step hu) (by decide) rd_0
  have R1 := Lib.hid fun (u : World) (hu : Below w.heap.size w u) => reads_any [56, 39, 104, 70] [48, 48, 48, 48, 49, 49, 49, 49] false u (E.step hu) (by decide) rd_1
  have R2 := Lib.hid fun (u : World) (hu : Below w.heap.size w u) => reads_any [52, 39, 98, 120, 49] [120, 120, 120, 49] false u (E.step hu) (by decide) rd_2
  have R3 := Lib.hid fun (u : World) (hu : Below w.heap.size w u) => reads_any [54, 39, 115, 98, 49, 95, 48, 49] [48, 48, 48, 49, 48, 49] true u (E.step hu) (by decide) rd_3
  have R4 := Lib.hid fun (u : World) (hu : Below w.heap.size w u) => reads_any [51, 39, 100, 57] [48, 48, 49] false u (E.step hu) (by decide) rd_4
  have R5 := Lib.hid fun (u : World) (hu : Below w.heap.size w u) => reads_any [52, 39, 100, 122] [122, 122, 122, 122] false u (E.step hu) (by decide) rd_5
  have R6 := Lib.hid fun (u : World) (hu : Below w.heap.size w u) => reads_any [39, 104, 122] [122, 122, 122, 122, 122, 122, 122, 122, 122, 122, 122, 122, 122, 122, 122, 122, 122, 122, 122, 122, 122, 122, 122, 122, 122, 122, 122, 122, 122, 122, 122, 122] false u (E.step hu) (by decide) rd_6
  have R7 := Lib.hid fun (u : World) (hu : Below w.heap.size w u) => reads_any [56, 39, 104, 120, 122, 49] [122, 122, 122, 122, 48, 48, 48, 49] false u (E.step hu) (by decide) rd_7
  have F0 := Lib.hid fun (u : World) (hu : Below w.heap.size w u) => fails_any [52, 39, 98, 49, 50] 3 u (E.step hu) fl_0
  have F1 := Lib.hid fun (u : World) (hu : Below w.heap.size w u) => fails_any [48, 39, 98, 49] 12 u (E.step hu) fl_1
  have F2 := Lib.hid fun (u : World) (hu : Below w.heap.size w u) => fails_any [52, 39] 4 u (E.step hu) fl_2
  have F3 := Lib.hid fun (u : World) (hu : Below w.heap.size w u) => fails_any [57, 57, 57, 57, 57, 57, 57, 57, 57, 57] 5 u (E.step hu) fl_3
  have F4 := Lib.hid fun (u : World) (hu : Below w.heap.size w u) => fails_any [49, 50, 97, 98] 3 u (E.step hu) fl_4
  have T0 : Hid (∀ u : World, Calls Tryz.prog 24 #[.string ⟨#[48]⟩, .int .i64 27] u fun e w' => e = .returned (.string (str (rpt [48] 27))) ∧ u = w') := Lib.hid fun (u : World) => times_any [48] 27 u (by decide) (by decide)
  have T1 : Hid (∀ u : World, Calls Tryz.prog 24 #[.string ⟨#[122]⟩, .int .i64 32] u fun e w' => e = .returned (.string (str (rpt [122] 32))) ∧ u = w') := Lib.hid fun (u : World) => times_any [122] 32 u (by decide) (by decide)
  rw [tm_z] at T1
  have t0 := tm_0
  have OF := Lib.hid fun (u : World) => of5_any (str [49, 120, 48, 49]) false u (by decide)
  have DB : Hid (∀ (A : Option Addr) (n c : Nat) (u : World), Below w.heap.size w u → Rb u A n (ofL (str [49, 120, 48, 49])) → n ≤ c → Calls Tryz.prog 22 #[.agg #[.slice A n c, .bool false], .int .u8 98] u (RetS u (digV ⟨ofL (str [49, 120, 48, 49]), false⟩ 98))) := Lib.hid fun A n c u hu h hc => digits_any A n c false _ 98 u (E.step hu) h hc
  rw [dg_b] at DB
  have DH : Hid (∀ (A : Option Addr) (n c : Nat) (u : World), Below w.heap.size w u → Rb u A n (ofL (str [49, 120, 48, 49])) → n ≤ c → Calls Tryz.prog 22 #[.agg #[.slice A n c, .bool false], .int .u8 104] u (RetS u (digV ⟨ofL (str [49, 120, 48, 49]), false⟩ 104))) := Lib.hid fun A n c u hu h hc => digits_any A n c false _ 104 u (E.step hu) h hc
  rw [dg_h] at DH
  have DD : Hid (∀ (A : Option Addr) (n c : Nat) (u : World), Below w.heap.size w u → Rb u A n (ofL (str [49, 120, 48, 49])) → n ≤ c → Calls Tryz.prog 22 #[.agg #[.slice A n c, .bool false], .int .u8 100] u (RetS u (digV ⟨ofL (str [49, 120, 48, 49]), false⟩ 100))) := Lib.hid fun A n c u hu h hc => digits_any A n c false _ 100 u (E.step hu) h hc
  rw [dg_d] at DD
  have FH : Hid (∀ (A : Option Addr) (n c : Nat) (u : World), Below w.heap.size w u → Rb u A n (ofL (str [49, 120, 48, 49])) → n ≤ c → n ≤ 1000000 → Calls Tryz.prog 20 #[.agg #[.slice A n c, .bool false], .int .u8 104] u (RetS u (fmtV ⟨ofL (str [49, 120, 48, 49]), false⟩ 104))) := Lib.hid fun A n c u hu h hc hn => format_any A n c false _ 104 u (E.step hu) h hc hn
  rw [fm_h] at FH
  clear E
  go_enter Tryz.func13, Tryz.ntmps13
  go_wp2_with (first
    | (go_at_call 24; first | ((with_reducible refine (T0.out _).mono ?_); rintro e wt ⟨rfl, rfl⟩) | ((with_reducible refine (T1.out _).mono ?_); rintro e wt ⟨rfl, rfl⟩))
    | (go_at_call 25; first | ((with_reducible refine (R0.out _ BB).mono ?_); rintro e wr ⟨rfl, hb⟩; replace BB := below_step BB hb) | ((with_reducible refine (R1.out _ BB).mono ?_); rintro e wr ⟨rfl, hb⟩; replace BB := below_step BB hb) | ((with_reducible refine (R2.out _ BB).mono ?_); rintro e wr ⟨rfl, hb⟩; replace BB := below_step BB hb) | ((with_reducible refine (R3.out _ BB).mono ?_); rintro e wr ⟨rfl, hb⟩; replace BB := below_step BB hb) | ((with_reducible refine (R4.out _ BB).mono ?_); rintro e wr ⟨rfl, hb⟩; replace BB := below_step BB hb) | ((with_reducible refine (R5.out _ BB).mono ?_); rintro e wr ⟨rfl, hb⟩; replace BB := below_step BB hb) | ((with_reducible refine (R6.out _ BB).mono ?_); rintro e wr ⟨rfl, hb⟩; replace BB := below_step BB hb) | ((with_reducible refine (R7.out _ BB).mono ?_); rintro e wr ⟨rfl, hb⟩; replace BB := below_step BB hb))
    | (go_at_call 26; first | ((with_reducible refine (F0.out _ BB).mono ?_); rintro e wr ⟨rfl, hb⟩; replace BB := below_step BB hb) | ((with_reducible refine (F1.out _ BB).mono ?_); rintro e wr ⟨rfl, hb⟩; replace BB := below_step BB hb) | ((with_reducible refine (F2.out _ BB).mono ?_); rintro e wr ⟨rfl, hb⟩; replace BB := below_step BB hb) | ((with_reducible refine (F3.out _ BB).mono ?_); rintro e wr ⟨rfl, hb⟩; replace BB := below_step BB hb) | ((with_reducible refine (F4.out _ BB).mono ?_); rintro e wr ⟨rfl, hb⟩; replace BB := below_step BB hb))
    | (go_at_call 27; (refine (OF.out _).mono ?_); rintro e w1 ⟨A1, c1, rfl, hN, hb⟩; have hle := hN.le; have hln9 : (ofL (str [49, 120, 48, 49])).length ≤ 1000000 := (by decide); have hr := hN.rd.alloc (.cells #[.slice A1 (ofL (str [49, 120, 48, 49])).length c1, .bool false] 26); have ON := Own.new w1 26 #[.slice A1 (ofL (str [49, 120, 48, 49])).length c1, .bool false]; have q0 := ON.cell 0; have q1 := ON.cell 1; replace BB := below_new (below_step BB hb) (.cells #[.slice A1 (ofL (str [49, 120, 48, 49])).length c1, .bool false] 26))
    | (go_at_call 22; first | ((with_reducible refine (DB.out _ _ _ _ BB hr hle).mono ?_); rintro e wd ⟨rfl, hb⟩; replace BB := below_step BB hb; replace hr := hr.step hb; replace ON := ON.step hb; have q0 := ON.cell 0; have q1 := ON.cell 1) | ((with_reducible refine (DH.out _ _ _ _ BB hr hle).mono ?_); rintro e wd ⟨rfl, hb⟩; replace BB := below_step BB hb; replace hr := hr.step hb; replace ON := ON.step hb; have q0 := ON.cell 0; have q1 := ON.cell 1) | ((with_reducible refine (DD.out _ _ _ _ BB hr hle).mono ?_); rintro e wd ⟨rfl, hb⟩; replace BB := below_step BB hb; replace hr := hr.step hb; replace ON := ON.step hb; have q0 := ON.cell 0; have q1 := ON.cell 1))
    | (go_at_call 20; (with_reducible refine (FH.out _ _ _ _ BB hr hle hln9).mono ?_); rintro e wf ⟨rfl, hb⟩; replace BB := below_step BB hb))
  go_ret
  exact ⟨rfl, BB⟩
end Go.Proofs.YtgojnpblhfbdpaaGreatDoor

namespace Go.Proofs.YtgojnpblhfbdpaaGreatDoor
open Go Go.RowKit

theorem laid_var {P : Program} {w : World} {L : List (String × DataW Unit)} (h : laidMetH P L w) (n : String) (d : DataW Unit) (g : Nat) (t : TypeId) (f : Nat) (cs : List Value) (hx : L.find? (fun x => x.1 == n) = some (n, d))
    (hp : d.handleName?.isNone = true) (hg : P.globalNamed n = some g) (ht : (P.globals[g]?).map (·.type) = some t) (hf : flatD P f t d = some cs) : w.var? P n = some cs.toArray := by
  obtain ⟨ps, hl, _⟩ := (laidMetH_iff.1 h).1
  obtain ⟨g', t', cs', fuel, p, e1, e2, e3, e4⟩ := laidVars_mem hl (List.mem_filter.2 ⟨List.mem_of_find?_eq_some hx, hp⟩)
  obtain rfl := Option.some.inj (hg.symm.trans e1)
  obtain rfl := Option.some.inj (ht.symm.trans e2)
  rw [e3, ← flatD_trod f hf e4]
theorem laid_iface {P : Program} {w : World} {L : List (String × DataW Unit)} (h : laidMetH P L w) (n : String) (e : String) (d : DataW Unit) (g : Nat) (t : TypeId) (ms : Array (String × TypeId)) (hx : L.find? (fun x => x.1 == n) = some (n, .iface e d))
    (hp : (DataW.iface e d).handleName?.isNone = true) (hg : P.globalNamed n = some g) (ht : (P.globals[g]?).map (·.type) = some t) (hu : P.underlying t = some (.interface ms)) : ∃ v, w.cell? ⟨g, 0, none⟩ = some v ∧ (v = .nilIface ∨ ∃ u p, v = .iface u p) := by
  obtain ⟨ps, hl, _⟩ := (laidMetH_iff.1 h).1
  obtain ⟨g', t', cs', fuel, p, e1, e2, e3, e4⟩ := laidVars_mem hl (List.mem_filter.2 ⟨List.mem_of_find?_eq_some hx, hp⟩)
  obtain rfl := Option.some.inj (hg.symm.trans e1)
  obtain rfl := Option.some.inj (ht.symm.trans e2)
  obtain ⟨u, v, hcs⟩ : ∃ u v, cs'.toList = [.iface u v] := by
    obtain ⟨_, u, v, h1, _⟩ := iface_of_trod hu e4
    exact ⟨u, v, h1⟩
  refine ⟨_, ?_, .inr ⟨u, v, rfl⟩⟩
  rw [World.var?_cell e1 e3]
  have : cs' = #[.iface u v] := by
    rw [← Array.toList_inj]; exact hcs
  rw [this]
  rfl
theorem env_of {L : List (String × DataW Unit)} (h1 : L.find? (fun x => x.1 == "netlab/bit.charTable") = some ("netlab/bit.charTable", Rows.laid_netlab_bit_charTable)) (h2 : L.find? (fun x => x.1 == "internal/strconv.uint64pow10") = some ("internal/strconv.uint64pow10", Rows.laid_internal_strconv_uint64pow10)) (h3 : L.find? (fun x => x.1 == "strconv.ErrRange") = some ("strconv.ErrRange", Rows.laid_strconv_ErrRange)) {W : World} (hL : laidMetH Tryz.prog L W) (hs : W.ShapedOpen Tryz.prog) : Env W := by
  refine ⟨?_, ?_, ?_, fun k hk => ?_⟩
  · exact cell_of_shapedOpen_int (t := 3) (zero := #[.int .i64 0]) hs (of_decide_eq_true (by kernel_rfl)) (by kernel_rfl) rfl (by kernel_rfl) (by kernel_rfl) (by kernel_rfl)
  · exact laid_iface hL "strconv.ErrRange" _ _ 2 111 _ h3 rfl (by kernel_rfl) (by kernel_rfl) Tryz.underlying111
  · have := laid_var hL "internal/strconv.uint64pow10" Rows.laid_internal_strconv_uint64pow10 3 211 24 (Lib.pow10Tab.map fun z => Value.int .u64 z) h2 rfl (by kernel_rfl) (by kernel_rfl) (by kernel_rfl)
    exact this
  · rw [laid_cells hL "netlab/bit.charTable" Rows.laid_netlab_bit_charTable 0 190 24 [.int .u8 48, .int .u8 49, .int .u8 120, .int .u8 122] h1 rfl (by kernel_rfl) (by kernel_rfl) (by kernel_rfl) k]
    obtain rfl | rfl | rfl | rfl : k = 0 ∨ k = 1 ∨ k = 2 ∨ k = 3 := by omega
    all_goals rfl
/-- A text that came in is no longer than the address space. -/
theorem wt_str {H : Type} {P : Program} {ts : List TypeId} {ds : List (DataW H)} {j : Nat} {t : TypeId} {d : DataW H} {l : List UInt8} (h : ((DataW.weightsEach P ts ds).all fun x => decide (x ≤ reachBytes)) = true) (ht : ts[j]? = some t) (hd : ds[j]? = some d) (e : d = .lit (.string (str l).data.toList)) : l.length ≤ reachBytes := by
  subst e
  have h1 := DataW.weights_mem_each (P := P) ht hd l.length (by
    show l.length ∈ [(str l).data.toList.length]
    simp)
  simpa using List.all_eq_true.1 h _ h1
/-- A row's contract may use that the package-level variables hold values of their types. -/
theorem returns_shaped {H : Type} {enc : TypeId × Value → H} {a : Assume} {C : Checked} {os : Os} {f : FuncId} {fn : Func} {s : ChangeSpec} {conds : List PathCond} {apart fresh handsOn again : Bool} {X : World → Array Value → Prop}
    (hX : ∀ (w w' : World) (args : Array Value), w.heap = w'.heap → X w args → X w' args)
    (own : ownKnob C.prog.godebug = none) (started : os.Started) (noInit : C.prog.inits.idxOf? f = none) (hfn : C.prog.funcs[f]? = some fn)
    (witness : ∃ (w : World) (tape : Tape) (i : Input), w.os = os ∧ (w.forCall tape i).Shaped C.prog ∧ i.vars = [] ∧ Input.okWide C.prog (w.forCall tape i) .any w.heap.size f i ∧
      ((s.pre enc C.prog fn conds apart (w.forCall tape i).memory i.args ∧ X (w.forCall tape i).memory i.args) ∧ sizedMet enc C.prog fn (OpenSpec.ofChange s) apart (w.forCall tape i).memory i.args) ∧ a.holds C.prog (lone (Frame.enter C.prog f i.args .normal) [] (w.forCall tape i)))
    (contract : ∀ (W : World) (base : Nat) (args : Array Value) (ds gs : List (DataW H)) (before : List MemPlace),
      W.ShapedOpen C.prog → (∀ (j : Nat) t v, fn.params[j]? = some t → args[j]? = some v → Value.okWide C.prog W .any base t v) →
      DataW.Whole enc C.prog fn.params.toList s.vars apart W args.toList ds gs before →
      conds.all (PathCond.test C.prog ⟨fn.params.toList, ds, s.plain.varTypes C.prog, gs⟩) = true →
      (DataW.weightsEach C.prog (fn.params.toList ++ s.plain.varTypes C.prog) (ds ++ gs)).all (· ≤ reachBytes) = true → X W args →
      a.holds C.prog (lone (Frame.enter C.prog f args .normal) [] W) →
      Calls C.prog f args W fun e W' => ∃ v, e = .returned v ∧ s.post enc C.prog fn apart fresh handsOn again W args v W') :
    ReturnsInHanded a C os f .any (fun w args => (s.pre enc C.prog fn conds apart w args ∧ X w args) ∧ sizedMet enc C.prog fn (OpenSpec.ofChange s) apart w args) (s.post enc C.prog fn apart fresh handsOn again) := by
  refine returnsInHanded_of_calls own started noInit witness fun w tape i _ hsh _ hok hpre hholds => ?_
  obtain ⟨_, _, _, fn', hfn', _, _, _, _, hval⟩ := hok
  obtain rfl : fn' = fn := Option.some.inj (hfn'.symm.trans hfn)
  obtain ⟨⟨⟨ds, gs, before, hw, hc⟩, hx⟩, hz⟩ := hpre
  refine (contract (w.forCall tape i) w.heap.size i.args ds gs before hsh hval (DataW.Whole.of_heap (w' := w.forCall tape i) (by rfl) hw) hc (hz.weights hw) (hX _ _ _ (by rfl) hx) hholds).mono fun e W' ⟨v, he, hp⟩ => ?_
  subst he
  exact ChangeSpec.post_blind hp
end Go.Proofs.YtgojnpblhfbdpaaGreatDoor

