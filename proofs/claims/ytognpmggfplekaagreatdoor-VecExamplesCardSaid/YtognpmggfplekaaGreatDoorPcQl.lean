/-
  Contracts of the program's span, Slice. No conditions.
  Contracts of the program's Put. No conditions.
  Contracts of the program's Pow. No conditions.
-/
import Derived.Test.YtognpmggfplekaaGreatDoorPcQk
import Derived.IntWalk
import Derived.Test.YtognpmggfplekaaGreatDoorPcQh

set_option maxRecDepth 100000
namespace Go.Proofs.YtognpmggfplekaaGreatDoor
open Go Go.RowKit

def spW (hi lo : Int) : Int := if hi < lo then 0 else if 128 ≤ hi - lo then 0 else hi - lo + 1
def spE (hi lo : Int) : Int := if hi < lo then 1 else if 128 ≤ hi - lo then 12 else 0
def I64 (z : Int) : Prop := -9223372036854775808 ≤ z ∧ z ≤ 9223372036854775807
theorem dist_wrap {hi lo : Int} (hh : I64 hi) (hl : I64 lo) (h : lo ≤ hi) : IntKind.u64.wrap (IntKind.u64.wrap hi - IntKind.u64.wrap lo) = hi - lo := by
  unfold I64 at hh hl
  simp [IntKind.wrap, IntKind.signed, IntKind.bits]
  omega
theorem span_any (hi lo : Int) (w : World) (hh : I64 hi) (hl : I64 lo) : Calls Tryz.prog 137 #[.int .i64 hi, .int .i64 lo] w fun e w' => e = .returned (.tuple #[.int .i64 (spW hi lo), .int .i64 (spE hi lo)]) ∧ w = w' := by
  unfold spW spE
  by_cases h1 : hi < lo
  · rw [if_pos h1, if_pos h1]
    clear hh hl
    go_enter Tryz.func137, Tryz.ntmps137
    go_wp2
    go_ret2
    exact ⟨rfl, rfl⟩
  · rw [if_neg h1, if_neg h1]
    have hd := dist_wrap hh hl (by omega)
    clear hh hl
    have d1 : decide (hi < lo) = false := by simpa using h1
    have hD : 0 ≤ hi - lo := by omega
    clear h1
    generalize hi - lo = D at *
    by_cases h2 : 128 ≤ D
    · rw [if_pos h2, if_pos h2]
      go_enter Tryz.func137, Tryz.ntmps137
      go_wp2
      go_ret2
      exact ⟨rfl, rfl⟩
    · rw [if_neg h2, if_neg h2]
      go_enter Tryz.func137, Tryz.ntmps137
      go_wp2
      go_ret2
      exact ⟨rfl, rfl⟩
theorem spW_ok {hi lo : Int} (h : spE hi lo = 0) : ∃ k : Nat, spW hi lo = k ∧ 1 ≤ k ∧ k ≤ 128 ∧ hi = lo + k - 1 := by
  unfold spE spW at *
  by_cases h1 : hi < lo
  · rw [if_pos h1] at h; cases h
  · rw [if_neg h1] at *
    by_cases h2 : 128 ≤ hi - lo
    · rw [if_pos h2] at h; cases h
    · rw [if_neg h2]
      exact ⟨(hi - lo + 1).toNat, by omega, by omega, by omega, by omega⟩
def slF (l : List Int) (lo : Int) (i : Nat) : Int := atI l (lo + i) 2
theorem sl1_any (ga gl : Nat) (A : Option Addr) (n c i : Nat) (s : Bool) (l : List Int) (lo : Int) (w : World) (OA : Own w ga 24 #[.slice A n c, .bool s]) (OL : Own w gl 3 #[.int .i64 lo]) (h : Rb w A n l) (hn : n ≤ 1000) (hi : I64 (lo + i)) :
    Calls Tryz.prog 139 #[.int .i64 i, .pointer (some ⟨ga, 0, none⟩), .pointer (some ⟨gl, 0, none⟩)] w fun e w' => e = .returned (.int .u8 (slF l lo i)) ∧ Below w.heap.size w w' := by
  unfold slF
  unfold I64 at hi
  have HA := Lib.hid (at_any A n c s l (lo + i) 2 w h (by omega))
  have p0 := OA.cell 0
  have p1 := OA.cell 1
  have p2 := OL.cell 0
  clear h OA OL
  have l5 : IntKind.i64.wrap (lo + i) = lo + i := IntWalk.i64_in _ (by omega)
  go_enter Tryz.func139, Tryz.ntmps139
  go_wp2_with (go_at_call 140; refine HA.out.mono ?_; rintro e w1 ⟨rfl, hb1⟩)
  go_ret
  exact ⟨rfl, hb1⟩
theorem ent_sl1 : Ent 139 := enters_of Tryz.func139 (by kernel_rfl) rfl
def slV (v : V) (hi lo : Int) : V := if spE hi lo = 0 then ⟨tab (spW hi lo).toNat (slF (nrm v).l lo), false⟩ else nilV
set_option maxHeartbeats 4000000 in
theorem slice_v (A : Option Addr) (n c : Nat) (s : Bool) (l : List Int) (hi lo : Int) (w : World) (h : Rb w A n l) (hh : I64 hi) (hl : I64 lo) : Calls Tryz.prog 47 #[.agg #[.slice A n c, .bool s], .int .i64 hi, .int .i64 lo] w (RetE w (slV ⟨l, s⟩ hi lo) (spE hi lo)) := by
  have O0 := (((Own.at1 w 24 #[.slice A n c, .bool s] (g := w.heap.size) (by simp)).alloc (.cells #[.int .i64 lo] 3)).alloc (.cells #[.slice none 0 0, .bool false] 24))
  have O1 := ((Own.at1 (w.alloc (.cells #[.slice A n c, .bool s] 24)) 3 #[.int .i64 lo] (g := w.heap.size + 1) (by simp)).alloc (.cells #[.slice none 0 0, .bool false] 24))
  have O2 := (Own.at1 ((w.alloc (.cells #[.slice A n c, .bool s] 24)).alloc (.cells #[.int .i64 lo] 3)) 24 #[.slice none 0 0, .bool false] (g := w.heap.size + 1 + 1) (by simp))
  have BB := (below_new (below_new (below_new (Below.refl w.heap.size w) (.cells #[.slice A n c, .bool s] 24)) (.cells #[.int .i64 lo] 3)) (.cells #[.slice none 0 0, .bool false] 24))
  have HS := Lib.hid (fun (u : World) => span_any hi lo u hh hl)
  have HA := Lib.hid (operand_any A n c s l _ (h.step BB))
  have hlen := nrm_len ⟨l, s⟩
  have hnn := nrm_nn (v := ⟨l, s⟩) h.nn
  unfold slV
  generalize nrm ⟨l, s⟩ = x at *
  obtain ⟨lx, sx⟩ := x
  simp only at *
  obtain ⟨N, hN⟩ : ∃ N, lx.length = N := ⟨_, rfl⟩
  rw [hN] at hlen
  have bl0 := O1.cell 0
  have qr0 := O2.cell 0
  have qr1 := O2.cell 1
  have fr0 := O2.free 0
  have fr1 := O2.free 1
  by_cases he : spE hi lo = 0
  · rw [if_pos he]
    obtain ⟨k, hk, hk1, hk2, hk3⟩ := spW_ok he
    rw [he, hk] at HS
    rw [he, hk, Int.toNat_natCast]
    have HK := Lib.hid (fun (u : World) (A1 : Option Addr) (c1 : Nat) (hb : Below w.heap.size w u) (r1 : Rb u A1 N lx) (P0 : Own u w.heap.size 24 #[.slice A1 N c1, .bool sx]) (P1 : Own u (w.heap.size + 1) 3 #[.int .i64 lo]) =>
      build_any k false 139 #[.pointer (some ⟨w.heap.size, 0, none⟩), .pointer (some ⟨w.heap.size + 1, 0, none⟩)] (slF lx lo) u (by omega) ent_sl1
        (fun W i hi' hW => sl1_any _ _ A1 N c1 i sx lx lo W (P0.step hW) (P1.step hW) (r1.step hW) (by omega) (by unfold I64 at *; omega)) (fun i _ => by unfold slF atI; split; exact hnn.nth _; decide))
    replace hN := Lib.hid hN
    clear h hh hl hlen he hk hk3
    go_enter Tryz.func47, Tryz.ntmps47
    go_wp2_with (first
      | (go_at_call 137; refine (HS.out _).mono ?_; rintro e w0 ⟨rfl, rfl⟩)
      | (go_at_call 117; refine HA.out.mono ?_; rintro e w1 ⟨A1, c1, rfl, r1, hb1⟩; simp only [hN.out] at r1 ⊢; replace BB := below_step BB hb1; replace O0 := O0.step hb1; replace O1 := O1.step hb1; replace O2 := O2.step hb1; have qO00 := O0.cell 0; have qO01 := O0.cell 1; have fO00 := O0.free 0; have fO01 := O0.free 1; have B1 := below_set2 BB (Nat.le_refl _) (.slice A1 N c1) (.bool sx); have U0 := O0.put2 (.slice A1 N c1) (.bool sx); have U1 := O1.far2 (Nat.succ_ne_self _) (.slice A1 N c1) (.bool sx); have U2 := O2.far2 (g := w.heap.size) (by omega) (.slice A1 N c1) (.bool sx); have r2 := r1.set2 O0 (.slice A1 N c1) (.bool sx))
      | (go_at_call 138; refine (HK.out _ A1 c1 B1 r2 U0 U1).mono ?_; rintro e w9 ⟨A9, c9, rfl, n9, hb9⟩; simp only [tab_len] at n9 ⊢; have L1 := U2.lt; have W2 := U2.step hb9; have qW20 := W2.cell 0; have qW21 := W2.cell 1; have fW20 := W2.free 0; have fW21 := W2.free 1))
    exact ret_vecE Tryz.results47 rfl rfl rfl (W2.put2 _ _) (RetE.mk' (v := ⟨tab k (slF lx lo), false⟩) ((n9.far2 L1 _ _).mono B1.size) (below_set2 (below_step B1 hb9) (by omega) _ _))
  · rw [if_neg he]
    have he' : (spE hi lo != 0) = true := by simpa using he
    generalize spE hi lo = er at *
    generalize spW hi lo = wd at *
    clear h hh hl hlen he
    go_enter Tryz.func47, Tryz.ntmps47
    go_wp2_with (go_at_call 137; refine (HS.out _).mono ?_; rintro e w0 ⟨rfl, rfl⟩)
    exact ret_vecE Tryz.results47 rfl rfl rfl O2 (RetE.mk' (v := nilV) (Nb.nil _ _) BB)
end Go.Proofs.YtognpmggfplekaaGreatDoor

namespace Go.Proofs.YtognpmggfplekaaGreatDoor
open Go Go.RowKit

def ptF (x y : List Int) (hi lo : Int) (i : Nat) : Int := if i < lo ∨ hi < i then nth x i else nth y (i - lo).toNat
set_option maxHeartbeats 2000000 in
theorem pt1_any (ga gb gh gl : Nat) (A B : Option Addr) (n c m d i : Nat) (s t : Bool) (l k : List Int) (hi lo : Int) (w : World) (OL : Own w gl 3 #[.int .i64 lo]) (OH : Own w gh 3 #[.int .i64 hi]) (OA : Own w ga 24 #[.slice A n c, .bool s]) (OB : Own w gb 24 #[.slice B m d, .bool t])
    (h : Rb w A n l) (h' : Rb w B m k) (hn : n ≤ 1000) (hm : m ≤ 1000) (hin : i < n) (hw : hi = lo + m - 1) (_hl : I64 lo) (_hh : I64 hi) :
    Calls Tryz.prog 142 #[.int .i64 i, .pointer (some ⟨gl, 0, none⟩), .pointer (some ⟨gh, 0, none⟩), .pointer (some ⟨ga, 0, none⟩), .pointer (some ⟨gb, 0, none⟩)] w fun e w' => e = .returned (.int .u8 (ptF l k hi lo i)) ∧ Below w.heap.size w w' := by
  unfold ptF
  unfold I64 at _hl _hh
  have p0 := OA.cell 0
  have p1 := OB.cell 0
  have p2 := OL.cell 0
  have p3 := OH.cell 0
  clear OA OB OL OH
  by_cases h1 : (i : Int) < lo
  · rw [if_pos (.inl h1)]
    obtain ⟨b, o, rfl, hb, hc⟩ := h.at_ hin
    clear h h' hw
    have d1 : decide ((i : Int) < lo) = true := by simpa using h1
    go_enter Tryz.func142, Tryz.ntmps142
    go_wp2
    go_ret
    exact ⟨rfl, Below.refl _ _⟩
  · have d1 : decide ((i : Int) < lo) = false := by simpa using h1
    by_cases h2 : hi < i
    · rw [if_pos (.inr h2)]
      obtain ⟨b, o, rfl, hb, hc⟩ := h.at_ hin
      clear h h' hw
      have d2 : decide (hi < (i : Int)) = true := by simpa using h2
      go_enter Tryz.func142, Tryz.ntmps142
      go_wp2
      go_ret
      exact ⟨rfl, Below.refl _ _⟩
    · rw [if_neg (fun e => by rcases e with e | e <;> omega)]
      have d2 : decide (hi < (i : Int)) = false := by simpa using h2
      obtain ⟨j, hj⟩ : ∃ j : Nat, (i : Int) - lo = j := ⟨((i : Int) - lo).toNat, by omega⟩
      have hjm : j < m := by omega
      obtain ⟨b, o, rfl, hb, hc⟩ := h'.at_ hjm
      rw [hj, Int.toNat_natCast]
      have l5 : IntKind.i64.wrap ((i : Int) - lo) = j := by rw [hj]; exact IntWalk.i64_in _ (by omega)
      have l6 : (0 : Int) ≤ j := by omega
      have l7 : (j : Int) < m := by omega
      clear h h' hw
      replace hj := hj
      go_enter Tryz.func142, Tryz.ntmps142
      go_wp2
      go_ret
      exact ⟨rfl, Below.refl _ _⟩
theorem ent_pt1 : Ent 142 := enters_of Tryz.func142 (by kernel_rfl) rfl
def putV (a : V) (hi lo : Int) (b : V) : V := if spE hi lo = 0 then ⟨tab (nrm a).l.length (ptF (nrm a).l (fitV (nrm b) (spW hi lo).toNat).l hi lo), (nrm a).s⟩ else nilV
set_option maxHeartbeats 8000000 in
theorem put_v (A Y : Option Addr) (n m c d : Nat) (s t : Bool) (l k : List Int) (hi lo : Int) (w : World) (h : Rb w A n l) (h' : Rb w Y m k) (hh : I64 hi) (hl : I64 lo) : Calls Tryz.prog 49 #[.agg #[.slice A n c, .bool s], .int .i64 hi, .int .i64 lo, .agg #[.slice Y m d, .bool t]] w (RetE w (putV ⟨l, s⟩ hi lo ⟨k, t⟩) (spE hi lo)) := by
  have O0 := (((((Own.at1 w 24 #[.slice A n c, .bool s] (g := w.heap.size) (by simp)).alloc (.cells #[.int .i64 hi] 3)).alloc (.cells #[.int .i64 lo] 3)).alloc (.cells #[.slice Y m d, .bool t] 24)).alloc (.cells #[.slice none 0 0, .bool false] 24))
  have O1 := ((((Own.at1 (w.alloc (.cells #[.slice A n c, .bool s] 24)) 3 #[.int .i64 hi] (g := w.heap.size + 1) (by simp)).alloc (.cells #[.int .i64 lo] 3)).alloc (.cells #[.slice Y m d, .bool t] 24)).alloc (.cells #[.slice none 0 0, .bool false] 24))
  have O2 := (((Own.at1 ((w.alloc (.cells #[.slice A n c, .bool s] 24)).alloc (.cells #[.int .i64 hi] 3)) 3 #[.int .i64 lo] (g := w.heap.size + 1 + 1) (by simp)).alloc (.cells #[.slice Y m d, .bool t] 24)).alloc (.cells #[.slice none 0 0, .bool false] 24))
  have O3 := ((Own.at1 (((w.alloc (.cells #[.slice A n c, .bool s] 24)).alloc (.cells #[.int .i64 hi] 3)).alloc (.cells #[.int .i64 lo] 3)) 24 #[.slice Y m d, .bool t] (g := w.heap.size + 1 + 1 + 1) (by simp)).alloc (.cells #[.slice none 0 0, .bool false] 24))
  have O4 := (Own.at1 ((((w.alloc (.cells #[.slice A n c, .bool s] 24)).alloc (.cells #[.int .i64 hi] 3)).alloc (.cells #[.int .i64 lo] 3)).alloc (.cells #[.slice Y m d, .bool t] 24)) 24 #[.slice none 0 0, .bool false] (g := w.heap.size + 1 + 1 + 1 + 1) (by simp))
  have BB := (below_new (below_new (below_new (below_new (below_new (Below.refl w.heap.size w) (.cells #[.slice A n c, .bool s] 24)) (.cells #[.int .i64 hi] 3)) (.cells #[.int .i64 lo] 3)) (.cells #[.slice Y m d, .bool t] 24)) (.cells #[.slice none 0 0, .bool false] 24))
  have HS := Lib.hid (fun (u : World) => span_any hi lo u hh hl)
  have HA := Lib.hid (fun (u : World) (hb : Below w.heap.size w u) => operand_any A n c s l u (h.step hb))
  have HB := Lib.hid (fun (u : World) (hb : Below w.heap.size w u) => operand_any Y m d t k u (h'.step hb))
  have hlx := nrm_len ⟨l, s⟩
  have hly := nrm_len ⟨k, t⟩
  have hnx := nrm_nn (v := ⟨l, s⟩) h.nn
  have hny := nrm_nn (v := ⟨k, t⟩) h'.nn
  unfold putV
  generalize nrm ⟨l, s⟩ = x at *
  generalize nrm ⟨k, t⟩ = y at *
  obtain ⟨N, hN⟩ : ∃ N, x.l.length = N := ⟨_, rfl⟩
  rw [hN] at hlx ⊢
  have ph0 := O1.cell 0
  have pl0 := O2.cell 0
  have qr0 := O4.cell 0
  have qr1 := O4.cell 1
  have fr0 := O4.free 0
  have fr1 := O4.free 1
  by_cases he : spE hi lo = 0
  · rw [if_pos he]
    obtain ⟨q, hq, hq1, hq2, hq3⟩ := spW_ok he
    rw [he, hq] at HS
    rw [he, hq, Int.toNat_natCast]
    have HF := Lib.hid (fun (u : World) (A1 : Option Addr) (c1 : Nat) (r : Rb u A1 y.l.length y.l) => fit_any A1 _ c1 y.s y.l q u r (by omega) hly.1 (by omega))
    have hy0 : (⟨y.l, y.s⟩ : V) = y := rfl
    rw [hy0] at HF
    have hvl : (fitV y q).l.length = q := tab_len _ _
    have hvn : nnL (fitV y q).l := fit_nn hny
    generalize fitV y q = v at *
    have HK := Lib.hid (fun (u : World) (A1 : Option Addr) (c1 : Nat) (A2 : Option Addr) (c2 : Nat) (r1 : Rb u A1 N x.l) (r2 : Rb u A2 q v.l) (P0 : Own u w.heap.size 24 #[.slice A1 N c1, .bool x.s]) (P3 : Own u (w.heap.size + 1 + 1 + 1) 24 #[.slice A2 q c2, .bool v.s]) (P1 : Own u (w.heap.size + 1) 3 #[.int .i64 hi]) (P2 : Own u (w.heap.size + 1 + 1) 3 #[.int .i64 lo]) =>
      build_any N x.s 142 #[.pointer (some ⟨w.heap.size + 1 + 1, 0, none⟩), .pointer (some ⟨w.heap.size + 1, 0, none⟩), .pointer (some ⟨w.heap.size, 0, none⟩), .pointer (some ⟨w.heap.size + 1 + 1 + 1, 0, none⟩)] (ptF x.l v.l hi lo) u (by omega) ent_pt1
        (fun W i hi' hW => pt1_any _ _ _ _ A1 A2 N c1 q c2 i x.s v.s x.l v.l hi lo W (P2.step hW) (P1.step hW) (P0.step hW) (P3.step hW) (r1.step hW) (r2.step hW) (by omega) (by omega) hi' hq3 hl hh) (fun i _ => by unfold ptF; split; exact hnx.nth _; exact hvn.nth _))
    have hNx := Lib.hid hN
    have hNv := Lib.hid hvl
    clear h h' hh hl he hq hy0 hvl hN hq3
    go_enter Tryz.func49, Tryz.ntmps49
    go_wp2_with (go_at_call 137; refine (HS.out _).mono ?_; rintro e w0 ⟨rfl, rfl⟩)
    haveI : Over w w.heap.size := ⟨Nat.le_refl _⟩
    haveI : Over w (w.heap.size + 1 + 1 + 1) := ⟨by omega⟩
    haveI : Apart w.heap.size (w.heap.size + 1) := ⟨by omega⟩
    haveI : Apart w.heap.size (w.heap.size + 1 + 1) := ⟨by omega⟩
    haveI : Apart w.heap.size (w.heap.size + 1 + 1 + 1) := ⟨by omega⟩
    haveI : Apart w.heap.size (w.heap.size + 1 + 1 + 1 + 1) := ⟨by omega⟩
    haveI : Apart (w.heap.size + 1 + 1 + 1) w.heap.size := ⟨by omega⟩
    haveI : Apart (w.heap.size + 1 + 1 + 1) (w.heap.size + 1) := ⟨by omega⟩
    haveI : Apart (w.heap.size + 1 + 1 + 1) (w.heap.size + 1 + 1) := ⟨by omega⟩
    haveI : Apart (w.heap.size + 1 + 1 + 1) (w.heap.size + 1 + 1 + 1 + 1) := ⟨by omega⟩
    refine region_w (by kernel_rfl) (fun u => blw w u ∧ (ownT (w.heap.size + 1) 3 #[.int .i64 hi] u ∧ (ownT (w.heap.size + 1 + 1) 3 #[.int .i64 lo] u ∧ owns (w.heap.size + 1 + 1 + 1 + 1) #[.slice none 0 0, .bool false] u))) [tru, tru, tru, tru, tru, tru, owns w.heap.size #[.slice A n c, .bool s], owns (w.heap.size + 1 + 1 + 1) #[.slice Y m d, .bool t]] [isV (.agg #[.slice A n c, .bool s]), isR x, isV (.agg #[.slice Y m d, .bool t]), isR y, isV (.int .i64 (q : Nat)), isR v, did w.heap.size x, did (w.heap.size + 1 + 1 + 1) v] [some 23, some 24, some 25, some 26, some 27, some 28, none, none] [[], [0], [], [2, 1], [], [3, 4, 3], [1, 5, 0, 1], [5, 6, 0, 1, 2, 3, 4, 5, 6]] (by kernel_rfl) (by kernel_rfl) rfl (by kernel_rfl) (by kernel_rfl) (by kernel_rfl) ⟨below_drew BB, O1.drew, O2.drew, O4.drew⟩ (by
      intro U hU
      simp only [List.mem_cons, List.not_mem_nil, or_false] at hU
      rcases hU with rfl | rfl | rfl | rfl | rfl | rfl | rfl | rfl
      all_goals first | trivial | exact O0.drew | exact O3.drew) ?_ ?_
    · refine ⟨?_, ?_, ?_, ?_, ?_, ?_, ?_, ?_, trivial⟩
      · intro a w' hS hO hF' hP K hK; have ha := hO 4 (by rfl); refine if_ok (by rfl) ?_; refine wp_load_row 24 (.tmp 4) rfl w.heap.size (ev ha) _ _ (0, 0) _ (hP 6 _ rfl rfl) Tryz.underlying24 rfl (by kernel_rfl) ?_; exact hK _ w' nofun (keep_same hS) rfl
      · intro a w' hS hO hF' hP K hK; obtain ⟨_, f0, rfl⟩ := (hF' 0 rfl).1 23 _ rfl rfl; refine if_ok (by rfl) ?_; refine wp_calls rfl (enters_of Tryz.func117 (by kernel_rfl) rfl) (args := #[.agg #[.slice A n c, .bool s]]) (by simp [Act.eval, f0]) ?_; refine (HA.out _ hS.1).mono ?_; rintro e w2 ⟨A1, c1, rfl, r1, hb⟩; exact ⟨_, rfl, hK _ w2 nofun (keep_below hb hS) ⟨A1, c1, rfl, r1⟩⟩
      · intro a w' hS hO hF' hP K hK; have ha := hO 7 (by rfl); refine if_ok (by rfl) ?_; refine wp_load_row 24 (.tmp 7) rfl (w.heap.size + 1 + 1 + 1) (ev ha) _ _ (0, 0) _ (hP 7 _ rfl rfl) Tryz.underlying24 rfl (by kernel_rfl) ?_; exact hK _ w' nofun (keep_same hS) rfl
      · intro a w' hS hO hF' hP K hK; obtain ⟨_, f0, rfl⟩ := (hF' 2 rfl).1 25 _ rfl rfl; refine if_ok (by rfl) ?_; refine wp_calls rfl (enters_of Tryz.func117 (by kernel_rfl) rfl) (args := #[.agg #[.slice Y m d, .bool t]]) (by simp [Act.eval, f0]) ?_; refine (HB.out _ hS.1).mono ?_; rintro e w2 ⟨A1, c1, rfl, r1, hb⟩; exact ⟨_, rfl, hK _ w2 nofun (keep_below hb hS) ⟨A1, c1, rfl, r1⟩⟩
      · intro a w' hS hO hF' hP K hK; have ha := hO 10 (by rfl); refine if_ok (by rfl) ?_; unfold Oper.wp execOp; simp only [Sem.run_pure, ev ha]; exact hK _ w' nofun (keep_same hS) rfl
      · intro a w' hS hO hF' hP K hK; obtain ⟨_, f0, A1, c1, rfl, r1⟩ := (hF' 3 rfl).1 26 _ rfl rfl; obtain ⟨_, f1, rfl⟩ := (hF' 4 rfl).1 27 _ rfl rfl; refine if_ok (by rfl) ?_; refine wp_calls rfl (enters_of Tryz.func113 (by kernel_rfl) rfl) (args := #[.agg #[.slice A1 y.l.length c1, .bool y.s], .int .i64 (q : Nat)]) (by simp [Act.eval, f0, f1]) ?_; refine (HF.out _ A1 c1 r1).mono ?_; rintro e w2 ⟨A2, c2, rfl, n2, hb⟩; exact ⟨_, rfl, hK _ w2 nofun (keep_below hb hS) ⟨A2, c2, rfl, n2.rd⟩⟩
      · intro a w' hS hO hF' hP K hK; have O := hP 6 _ rfl rfl; have ha := hO 4 (by rfl); obtain ⟨_, f1, A1, c1, rfl, r1⟩ := (hF' 1 rfl).1 24 _ rfl rfl; refine if_ok (by rfl) ?_; refine wp_store_row _ _ _ rfl w.heap.size _ (ev ha) (ev f1) _ _ O vec_size rfl (by simp [Value.oneCell']) ?_; exact hK _ _ (fun _ => rfl) (keep_store O inferInstance ⟨inferInstance, inferInstance, inferInstance, inferInstance, inferInstance, inferInstance, inferInstance, trivial⟩ ⟨inferInstance, inferInstance, inferInstance, inferInstance, inferInstance, inferInstance, inferInstance, trivial⟩ hS) ⟨A1, c1, Own.row O, r1.row O⟩
      · intro a w' hS hO hF' hP K hK; have O := hP 7 _ rfl rfl; have ha := hO 7 (by rfl); obtain ⟨_, f1, A1, c1, rfl, r1⟩ := (hF' 5 rfl).1 28 _ rfl rfl; refine if_ok (by rfl) ?_; refine wp_store_row _ _ _ rfl (w.heap.size + 1 + 1 + 1) _ (ev ha) (ev f1) _ _ O vec_size rfl (by simp [Value.oneCell']) ?_; exact hK _ _ (fun _ => rfl) (keep_store O inferInstance ⟨inferInstance, inferInstance, inferInstance, inferInstance, inferInstance, inferInstance, inferInstance, trivial⟩ ⟨inferInstance, inferInstance, inferInstance, inferInstance, inferInstance, inferInstance, inferInstance, trivial⟩ hS) ⟨A1, c1, Own.row O, r1.row O⟩
    · intro vs u hl hS hV
      match vs, hl, hV with
      | [v0, v1, v2, v3, v4, v5, v6, v7], _, hV =>
        simp only [puts, Act.put, List.setIfInBounds_toArray, List.set_cons_zero, List.set_cons_succ]
        obtain ⟨A1, c1, P0, r1⟩ := hV 6 _ rfl
        obtain ⟨A2, c2, P3, r2⟩ := hV 7 _ rfl
        obtain ⟨C4, P1, P2, P4⟩ := hS
        replace C4 : Below w.heap.size w u := C4
        replace P1 : Own u (w.heap.size + 1) 3 #[.int .i64 hi] := P1
        replace P2 : Own u (w.heap.size + 1 + 1) 3 #[.int .i64 lo] := P2
        replace P4 : Own u (w.heap.size + 1 + 1 + 1 + 1) 24 #[.slice none 0 0, .bool false] := P4
        simp only [hNx.out, hNv.out] at P0 r1 P3 r2
        have qP00 := P0.cell 0
        have qP01 := P0.cell 1
        have fP00 := P0.free 0
        have fP01 := P0.free 1
        clear hV
        go_wp2_with (go_at_call 138; refine (HK.out _ A1 c1 A2 c2 r1 r2 P0 P3 P1 P2).mono ?_; rintro e w9 ⟨A9, c9, rfl, n9, hb9⟩; simp only [tab_len] at n9 ⊢; have L1 := P4.lt; have W2 := P4.step hb9; have qW20 := W2.cell 0; have qW21 := W2.cell 1; have fW20 := W2.free 0; have fW21 := W2.free 1)
        exact ret_vecE Tryz.results49 rfl rfl rfl (W2.put2 _ _) (RetE.mk' (v := ⟨tab N (ptF x.l v.l hi lo), x.s⟩) ((n9.far2 L1 _ _).mono C4.size) (below_set2 (below_step C4 hb9) (by omega) _ _))
  · rw [if_neg he]
    have he' : (spE hi lo != 0) = true := by simpa using he
    generalize spE hi lo = er at *
    generalize spW hi lo = wd at *
    clear h h' hh hl he
    go_enter Tryz.func49, Tryz.ntmps49
    go_wp2_with (go_at_call 137; refine (HS.out _).mono ?_; rintro e w0 ⟨rfl, rfl⟩)
    exact ret_vecE Tryz.results49 rfl rfl rfl O4 (RetE.mk' (v := nilV) (Nb.nil _ _) BB)
end Go.Proofs.YtognpmggfplekaaGreatDoor

namespace Go.Proofs.YtognpmggfplekaaGreatDoor
open Go Go.RowKit

theorem iVal_no {v : V} (h : iOk v = false) : iVal v = 0 := by
  unfold iOk at h
  unfold iVal
  cases hk : kn v
  · rfl
  · rw [hk] at h
    simp only [Bool.true_and] at h
    rw [if_pos rfl]
    unfold B.iOk at h
    unfold B.iVal
    rw [if_neg (by simpa using h)]
def powZ (ok : Bool) (z : Int) (N : Nat) (S : Bool) (p : Nat) : V := if ok = true ∧ z = 0 then allV 2 N S else if z ≠ 1 ∧ z ≠ -1 then allV 0 N S else ⟨frN N p, S⟩
def powV (a b : V) : V := if knL (nrm a).l && knL (nrm b).l then (if fill (nrm b) == 1 then powZ (iOk (nrm a)) (iVal (nrm a)) (nrm a).l.length (nrm a).s ((num (nrm a).l ^ num (nrm b).l) % 2 ^ (nrm a).l.length) else ⟨frN (nrm a).l.length ((num (nrm a).l ^ num (nrm b).l) % 2 ^ (nrm a).l.length), (nrm a).s⟩) else allV 2 (nrm a).l.length (nrm a).s
theorem pw1_any (i : Int) (w : World) : Calls Tryz.prog 155 #[.int .i64 i] w fun e w' => e = .returned (.int .u8 0) ∧ Below w.heap.size w w' := by
  go_enter Tryz.func155, Tryz.ntmps155
  go_wp2
  go_ret
  exact ⟨rfl, Below.refl _ _⟩
theorem ent_pw1 : Ent 155 := enters_of Tryz.func155 (by kernel_rfl) rfl
set_option maxHeartbeats 8000000 in
theorem pow_v (A Y : Option Addr) (n m c d : Nat) (s t : Bool) (l k : List Int) (w : World) (h : Rb w A n l) (h' : Rb w Y m k) : Calls Tryz.prog 61 #[.agg #[.slice A n c, .bool s], .agg #[.slice Y m d, .bool t]] w (RetV w (powV ⟨l, s⟩ ⟨k, t⟩)) := by
  have O0 := (((Own.at1 w 24 #[.slice A n c, .bool s] (g := w.heap.size) (by simp)).alloc (.cells #[.slice Y m d, .bool t] 24)).alloc (.cells #[.slice none 0 0, .bool false] 24))
  have O1 := ((Own.at1 (w.alloc (.cells #[.slice A n c, .bool s] 24)) 24 #[.slice Y m d, .bool t] (g := w.heap.size + 1) (by simp)).alloc (.cells #[.slice none 0 0, .bool false] 24))
  have O2 := (Own.at1 ((w.alloc (.cells #[.slice A n c, .bool s] 24)).alloc (.cells #[.slice Y m d, .bool t] 24)) 24 #[.slice none 0 0, .bool false] (g := w.heap.size + 1 + 1) (by simp))
  have BB := (below_new (below_new (below_new (Below.refl w.heap.size w) (.cells #[.slice A n c, .bool s] 24)) (.cells #[.slice Y m d, .bool t] 24)) (.cells #[.slice none 0 0, .bool false] 24))
  have HA := Lib.hid (fun (u : World) (hb : Below w.heap.size w u) => operand_any A n c s l u (h.step hb))
  have HB := Lib.hid (fun (u : World) (hb : Below w.heap.size w u) => operand_any Y m d t k u (h'.step hb))
  have b1 := nrm_len ⟨l, s⟩
  have b2 := nrm_len ⟨k, t⟩
  have okx := nrm_ok ⟨l, s⟩
  have oky := nrm_ok ⟨k, t⟩
  unfold powV
  generalize nrm ⟨l, s⟩ = x at *
  generalize nrm ⟨k, t⟩ = y at *
  obtain ⟨lx, sx⟩ := x
  obtain ⟨ly, sy⟩ := y
  simp only at *
  obtain ⟨N, hN⟩ : ∃ N, lx.length = N := ⟨_, rfl⟩
  obtain ⟨M, hM⟩ : ∃ M, ly.length = M := ⟨_, rfl⟩
  rw [hN] at b1 ⊢
  rw [hM] at b2
  have kx := kn_ok (s := sx) okx
  have ky := kn_ok (s := sy) oky
  have HX := Lib.hid (fun (u : World) (A1 : Option Addr) (c1 : Nat) (r : Rb u A1 N lx) => kx ▸ known_v A1 N c1 sx lx u r)
  have HY := Lib.hid (fun (u : World) (A1 : Option Addr) (c1 : Nat) (r : Rb u A1 M ly) => ky ▸ known_v A1 M c1 sy ly u r)
  have HL := Lib.hid (fun (u : World) (A1 : Option Addr) (c1 : Nat) (r : Rb u A1 M ly) => filler_any A1 M c1 sy ly u r (by omega) b2.1)
  have HI := Lib.hid (fun (u : World) (A1 : Option Addr) (c1 : Nat) (r : Rb u A1 N lx) => int_v A1 N c1 sx lx u r)
  clear h h' kx ky okx oky
  replace hN := Lib.hid hN
  replace hM := Lib.hid hM
  cases hx : knL lx
  · rw [hx] at HX
    simp only [Bool.false_and, Bool.false_eq_true, if_false]
    clear hx HY HL HI
    go_enter Tryz.func61, Tryz.ntmps61
    go_wp2
    haveI : Over w w.heap.size := ⟨Nat.le_refl _⟩
    haveI : Over w (w.heap.size + 1) := ⟨by omega⟩
    haveI : Apart w.heap.size (w.heap.size + 1 + 1) := ⟨by omega⟩
    haveI : Apart (w.heap.size + 1) (w.heap.size + 1 + 1) := ⟨by omega⟩
    refine pair_region (x := ⟨lx, sx⟩) (y := ⟨ly, sy⟩) (fun u => blw w u ∧ owns (w.heap.size + 1 + 1) #[.slice none 0 0, .bool false] u) _ _ _ _ _ _ rfl ⟨rfl, rfl⟩ ⟨rfl, rfl⟩ ⟨rfl, rfl⟩ ⟨rfl, rfl⟩ ⟨rfl, rfl⟩ ⟨rfl, rfl⟩ rfl (by kernel_rfl) (by kernel_rfl) (by kernel_rfl) ⟨by kernel_rfl, by kernel_rfl⟩ (by kernel_rfl) rfl rfl (by omega) ent_operand ent_operand ⟨below_drew BB, O2.drew⟩ O0 O1 (fun u hS => HA.out u hS.1) (fun u hS => HB.out u hS.1) ?_
    intro v0 v1 v2 v3 u A1 c1 A2 c2 hS P0 r1 P1 r2
    simp only [Act.put, List.setIfInBounds_toArray, List.set_cons_zero, List.set_cons_succ]
    obtain ⟨hb, P2⟩ := hS
    replace hb : Below w.heap.size w u := hb
    replace P2 : Own u (w.heap.size + 1 + 1) 24 #[.slice none 0 0, .bool false] := P2
    simp only [hN.out, hM.out] at r1 r2 P0 P1
    clear HA HB O0 O1 O2 BB
    have qP00 := P0.cell 0; have qP01 := P0.cell 1; have fP00 := P0.free 0; have fP01 := P0.free 1; have qP10 := P1.cell 0; have qP11 := P1.cell 1; have fP10 := P1.free 0; have fP11 := P1.free 1
    have l0 := P0.lt
    go_wp2_with (first
      | (go_at_call 31; refine (HX.out _ A1 c1 r1).mono ?_; rintro e w2 ⟨rfl, hb2⟩; clear HX; replace hb := below_step hb hb2; replace P2 := P2.step hb2; replace P0 := P0.step hb2; replace P1 := P1.step hb2; replace r1 := r1.step hb2; replace r2 := r2.step hb2; clear qP00 qP01 qP10 qP11 fP00 fP01 fP10 fP11; have qP00 := P0.cell 0; have qP01 := P0.cell 1; have fP00 := P0.free 0; have fP01 := P0.free 1; have qP10 := P1.cell 0; have qP11 := P1.cell 1; have fP10 := P1.free 0; have fP11 := P1.free 1)
      | (go_at_call 133; refine (unknown_any N sx _ (by omega)).mono ?_; rintro e w9 ⟨A9, c9, rfl, n9, hb9⟩; simp only [allV, tab_len] at n9 ⊢; have L1 := P2.lt; have W2 := P2.step hb9; have qW20 := W2.cell 0; have qW21 := W2.cell 1; have fW20 := W2.free 0; have fW21 := W2.free 1))
    exact ret_vec Tryz.results61 rfl rfl (W2.put2 _ _) (RetV.mk' (v := allV 2 N sx) ((n9.far2 L1 _ _).mono hb.size) (below_set2 (below_step hb hb9) (by omega) _ _))
  · rw [hx] at HX
    cases hy : knL ly
    · rw [hy] at HY
      simp only [Bool.and_false, Bool.false_eq_true, if_false]
      clear hx hy HL HI
      go_enter Tryz.func61, Tryz.ntmps61
      go_wp2
      haveI : Over w w.heap.size := ⟨Nat.le_refl _⟩
      haveI : Over w (w.heap.size + 1) := ⟨by omega⟩
      haveI : Apart w.heap.size (w.heap.size + 1 + 1) := ⟨by omega⟩
      haveI : Apart (w.heap.size + 1) (w.heap.size + 1 + 1) := ⟨by omega⟩
      refine pair_region (x := ⟨lx, sx⟩) (y := ⟨ly, sy⟩) (fun u => blw w u ∧ owns (w.heap.size + 1 + 1) #[.slice none 0 0, .bool false] u) _ _ _ _ _ _ rfl ⟨rfl, rfl⟩ ⟨rfl, rfl⟩ ⟨rfl, rfl⟩ ⟨rfl, rfl⟩ ⟨rfl, rfl⟩ ⟨rfl, rfl⟩ rfl (by kernel_rfl) (by kernel_rfl) (by kernel_rfl) ⟨by kernel_rfl, by kernel_rfl⟩ (by kernel_rfl) rfl rfl (by omega) ent_operand ent_operand ⟨below_drew BB, O2.drew⟩ O0 O1 (fun u hS => HA.out u hS.1) (fun u hS => HB.out u hS.1) ?_
      intro v0 v1 v2 v3 u A1 c1 A2 c2 hS P0 r1 P1 r2
      simp only [Act.put, List.setIfInBounds_toArray, List.set_cons_zero, List.set_cons_succ]
      obtain ⟨hb, P2⟩ := hS
      replace hb : Below w.heap.size w u := hb
      replace P2 : Own u (w.heap.size + 1 + 1) 24 #[.slice none 0 0, .bool false] := P2
      simp only [hN.out, hM.out] at r1 r2 P0 P1
      clear HA HB O0 O1 O2 BB
      have qP00 := P0.cell 0; have qP01 := P0.cell 1; have fP00 := P0.free 0; have fP01 := P0.free 1; have qP10 := P1.cell 0; have qP11 := P1.cell 1; have fP10 := P1.free 0; have fP11 := P1.free 1
      have l0 := P0.lt
      go_wp2_with (first
        | (go_at_call 31; refine (HX.out _ A1 c1 r1).mono ?_; rintro e w2 ⟨rfl, hb2⟩; clear HX; replace hb := below_step hb hb2; replace P2 := P2.step hb2; replace P0 := P0.step hb2; replace P1 := P1.step hb2; replace r1 := r1.step hb2; replace r2 := r2.step hb2; clear qP00 qP01 qP10 qP11 fP00 fP01 fP10 fP11; have qP00 := P0.cell 0; have qP01 := P0.cell 1; have fP00 := P0.free 0; have fP01 := P0.free 1; have qP10 := P1.cell 0; have qP11 := P1.cell 1; have fP10 := P1.free 0; have fP11 := P1.free 1)
        | (go_at_call 31; refine (HY.out _ A2 c2 r2).mono ?_; rintro e w3 ⟨rfl, hb3⟩; replace hb := below_step hb hb3; replace P2 := P2.step hb3; replace P0 := P0.step hb3; replace P1 := P1.step hb3; replace r1 := r1.step hb3; replace r2 := r2.step hb3; clear qP00 qP01 qP10 qP11 fP00 fP01 fP10 fP11; have qP00 := P0.cell 0; have qP01 := P0.cell 1; have fP00 := P0.free 0; have fP01 := P0.free 1; have qP10 := P1.cell 0; have qP11 := P1.cell 1; have fP10 := P1.free 0; have fP11 := P1.free 1)
        | (go_at_call 133; refine (unknown_any N sx _ (by omega)).mono ?_; rintro e w9 ⟨A9, c9, rfl, n9, hb9⟩; simp only [allV, tab_len] at n9 ⊢; have L1 := P2.lt; have W2 := P2.step hb9; have qW20 := W2.cell 0; have qW21 := W2.cell 1; have fW20 := W2.free 0; have fW21 := W2.free 1))
      exact ret_vec Tryz.results61 rfl rfl (W2.put2 _ _) (RetV.mk' (v := allV 2 N sx) ((n9.far2 L1 _ _).mono hb.size) (below_set2 (below_step hb hb9) (by omega) _ _))
    · rw [hy] at HY
      simp only [Bool.and_true, if_true]
      clear hx hy
      generalize fill ⟨ly, sy⟩ = F at *
      cases hF : (F == 1)
      · simp only [Bool.false_eq_true, if_false]
        clear HI
        go_enter Tryz.func61, Tryz.ntmps61
        go_wp2
        haveI : Over w w.heap.size := ⟨Nat.le_refl _⟩
        haveI : Over w (w.heap.size + 1) := ⟨by omega⟩
        haveI : Apart w.heap.size (w.heap.size + 1 + 1) := ⟨by omega⟩
        haveI : Apart (w.heap.size + 1) (w.heap.size + 1 + 1) := ⟨by omega⟩
        refine pair_region (x := ⟨lx, sx⟩) (y := ⟨ly, sy⟩) (fun u => blw w u ∧ owns (w.heap.size + 1 + 1) #[.slice none 0 0, .bool false] u) _ _ _ _ _ _ rfl ⟨rfl, rfl⟩ ⟨rfl, rfl⟩ ⟨rfl, rfl⟩ ⟨rfl, rfl⟩ ⟨rfl, rfl⟩ ⟨rfl, rfl⟩ rfl (by kernel_rfl) (by kernel_rfl) (by kernel_rfl) ⟨by kernel_rfl, by kernel_rfl⟩ (by kernel_rfl) rfl rfl (by omega) ent_operand ent_operand ⟨below_drew BB, O2.drew⟩ O0 O1 (fun u hS => HA.out u hS.1) (fun u hS => HB.out u hS.1) ?_
        intro v0 v1 v2 v3 u A1 c1 A2 c2 hS P0 r1 P1 r2
        simp only [Act.put, List.setIfInBounds_toArray, List.set_cons_zero, List.set_cons_succ]
        obtain ⟨hb, P2⟩ := hS
        replace hb : Below w.heap.size w u := hb
        replace P2 : Own u (w.heap.size + 1 + 1) 24 #[.slice none 0 0, .bool false] := P2
        simp only [hN.out, hM.out] at r1 r2 P0 P1
        clear HA HB O0 O1 O2 BB
        have qP00 := P0.cell 0; have qP01 := P0.cell 1; have fP00 := P0.free 0; have fP01 := P0.free 1; have qP10 := P1.cell 0; have qP11 := P1.cell 1; have fP10 := P1.free 0; have fP11 := P1.free 1
        have l0 := P0.lt
        go_wp2_with (first
          | (go_at_call 31; refine (HX.out _ A1 c1 r1).mono ?_; rintro e w2 ⟨rfl, hb2⟩; clear HX; replace hb := below_step hb hb2; replace P2 := P2.step hb2; replace P0 := P0.step hb2; replace P1 := P1.step hb2; replace r1 := r1.step hb2; replace r2 := r2.step hb2; clear qP00 qP01 qP10 qP11 fP00 fP01 fP10 fP11; have qP00 := P0.cell 0; have qP01 := P0.cell 1; have fP00 := P0.free 0; have fP01 := P0.free 1; have qP10 := P1.cell 0; have qP11 := P1.cell 1; have fP10 := P1.free 0; have fP11 := P1.free 1)
          | (go_at_call 31; refine (HY.out _ A2 c2 r2).mono ?_; rintro e w3 ⟨rfl, hb3⟩; replace hb := below_step hb hb3; replace P2 := P2.step hb3; replace P0 := P0.step hb3; replace P1 := P1.step hb3; replace r1 := r1.step hb3; replace r2 := r2.step hb3; clear qP00 qP01 qP10 qP11 fP00 fP01 fP10 fP11; have qP00 := P0.cell 0; have qP01 := P0.cell 1; have fP00 := P0.free 0; have fP01 := P0.free 1; have qP10 := P1.cell 0; have qP11 := P1.cell 1; have fP10 := P1.free 0; have fP11 := P1.free 1)
          | (go_at_call 154; refine (HL.out _ A2 c2 r2).mono ?_; rintro e w4 ⟨rfl, hb4⟩; replace hb := below_step hb hb4; replace P2 := P2.step hb4; replace P0 := P0.step hb4; replace P1 := P1.step hb4; replace r1 := r1.step hb4; replace r2 := r2.step hb4; clear qP00 qP01 qP10 qP11 fP00 fP01 fP10 fP11; have qP00 := P0.cell 0; have qP01 := P0.cell 1; have fP00 := P0.free 0; have fP01 := P0.free 1; have qP10 := P1.cell 0; have qP11 := P1.cell 1; have fP10 := P1.free 0; have fP11 := P1.free 1))
        haveI : Over w (w.heap.size + 1 + 1) := ⟨by omega⟩
        haveI : Apart (w.heap.size + 1 + 1) w.heap.size := ⟨by omega⟩
        haveI : Apart (w.heap.size + 1 + 1) (w.heap.size + 1) := ⟨by omega⟩
        refine region_w (by kernel_rfl) (fun u => blw w u ∧ (owns w.heap.size #[.slice A1 N c1, .bool sx] u ∧ (owns (w.heap.size + 1) #[.slice A2 M c2, .bool sy] u ∧ (rds A1 N lx u ∧ rds A2 M ly u)))) [tru, tru, tru, tru, tru, tru, tru, tru, owns (w.heap.size + 1 + 1) #[.slice none 0 0, .bool false]] [isV (.agg #[.slice A1 N c1, .bool sx]), isNum N (num lx), isV (.agg #[.slice A2 M c2, .bool sy]), isNum M (num ly), isNum N ((num lx ^ num ly) % 2 ^ N), isV (.pointer (some ⟨w.heap.size, 1, none⟩)), isV (.bool sx), isN w.heap.size ⟨frN N ((num lx ^ num ly) % 2 ^ N), sx⟩, didN w.heap.size (w.heap.size + 1 + 1) ⟨frN N ((num lx ^ num ly) % 2 ^ N), sx⟩] [some 56, some 57, some 58, some 59, some 60, some 61, some 62, some 63, none] [[], [0], [], [2, 1], [1, 3, 3], [], [5], [4, 6, 4], [7, 7, 0, 1, 2, 3, 4, 5, 6, 7]] (by kernel_rfl) (by kernel_rfl) rfl (by kernel_rfl) (by kernel_rfl) (by kernel_rfl) ⟨below_drew hb, P0.drew, P1.drew, r1.drew, r2.drew⟩ (by
          intro U hU
          simp only [List.mem_cons, List.not_mem_nil, or_false] at hU
          rcases hU with rfl | rfl | rfl | rfl | rfl | rfl | rfl | rfl | rfl
          all_goals first | trivial | exact P2.drew) ?_ ?_
        · refine ⟨?_, ?_, ?_, ?_, ?_, ?_, ?_, ?_, ?_, trivial⟩
          · intro a w' hS hO hF' hP K hK; have ha := hO 2 (by rfl); refine if_ok (by rfl) ?_; refine wp_load_row 24 (.tmp 2) rfl w.heap.size (ev ha) _ _ (0, 0) _ hS.2.1 Tryz.underlying24 rfl (by kernel_rfl) ?_; exact hK _ w' nofun (keep_same hS) rfl
          · intro a w' hS hO hF' hP K hK; obtain ⟨_, f0, rfl⟩ := (hF' 0 rfl).1 56 _ rfl rfl; refine if_ok (by rfl) ?_; refine wp_calls rfl (enters_of Tryz.func112 (by kernel_rfl) rfl) (args := #[.agg #[.slice A1 N c1, .bool sx]]) (by simp [Act.eval, f0]) ?_; refine (number_any A1 N c1 sx lx _ hS.2.2.2.1 (by omega)).mono ?_; rintro e w2 ⟨X1, x1, rfl, nn1, hb⟩; exact ⟨_, rfl, hK _ w2 nofun (keep_below hb hS) ⟨X1, x1, rfl, B.Nw.mono nn1 (Nat.zero_le _)⟩⟩
          · intro a w' hS hO hF' hP K hK; have ha := hO 3 (by rfl); refine if_ok (by rfl) ?_; refine wp_load_row 24 (.tmp 3) rfl (w.heap.size + 1) (ev ha) _ _ (0, 0) _ hS.2.2.1 Tryz.underlying24 rfl (by kernel_rfl) ?_; exact hK _ w' nofun (keep_same hS) rfl
          · intro a w' hS hO hF' hP K hK; obtain ⟨_, f0, rfl⟩ := (hF' 2 rfl).1 58 _ rfl rfl; refine if_ok (by rfl) ?_; refine wp_calls rfl (enters_of Tryz.func112 (by kernel_rfl) rfl) (args := #[.agg #[.slice A2 M c2, .bool sy]]) (by simp [Act.eval, f0]) ?_; refine (number_any A2 M c2 sy ly _ hS.2.2.2.2 (by omega)).mono ?_; rintro e w2 ⟨X1, x1, rfl, nn1, hb⟩; exact ⟨_, rfl, hK _ w2 nofun (keep_below hb hS) ⟨X1, x1, rfl, B.Nw.mono nn1 (Nat.zero_le _)⟩⟩
          · intro a w' hS hO hF' hP K hK; obtain ⟨_, f1, X1, x1, rfl, nn1⟩ := (hF' 1 rfl).1 57 _ rfl rfl; obtain ⟨_, f2, X2, x2, rfl, nn2⟩ := (hF' 3 rfl).1 59 _ rfl rfl; refine if_ok (by rfl) ?_; refine wp_calls rfl (enters_of Tryz.func156 (by kernel_rfl) rfl) (args := #[.slice X1 N x1, .slice X2 M x2]) (by simp [Act.eval, f1, f2]) ?_; refine (B.pow_any X1 X2 N x1 (num lx) M x2 (num ly) _ nn1.rd nn2.rd (by omega) (by omega)).mono ?_; rintro e w2 ⟨X3, x3, rfl, nn3, hb⟩; exact ⟨_, rfl, hK _ _ nofun (keep_below hb hS) ⟨X3, x3, rfl, B.Nw.mono nn3 (Nat.zero_le _)⟩⟩
          · intro a w' hS hO hF' hP K hK; have ha := hO 2 (by rfl); refine if_ok (by rfl) ?_; have ha' : a.tmps[2]? = some (.pointer (some ⟨w.heap.size, 0, none⟩)) := ha; go_simp; exact hK _ w' nofun (keep_same hS) rfl
          · intro a w' hS hO hF' hP K hK; obtain ⟨_, f0, rfl⟩ := (hF' 5 rfl).1 61 _ rfl rfl; have q1 : w'.cell? ⟨w.heap.size, 1, none⟩ = some (.bool sx) := Own.cell hS.2.1 1; refine if_ok (by rfl) ?_; go_simp; exact hK _ w' nofun (keep_same hS) rfl
          · intro a w' hS hO hF' hP K hK; obtain ⟨_, f1, X1, x1, rfl, nn1⟩ := (hF' 4 rfl).1 60 _ rfl rfl; obtain ⟨_, f2, rfl⟩ := (hF' 6 rfl).1 62 _ rfl rfl; refine if_ok (by rfl) ?_; refine wp_calls rfl (enters_of Tryz.func130 (by kernel_rfl) rfl) (args := #[.slice X1 N x1, .bool sx]) (by simp [Act.eval, f1, f2]) ?_; refine (fromNumber_any X1 N x1 _ sx _ nn1.rd (by omega)).mono ?_; rintro e w2 ⟨A9, c9, rfl, n9, hb⟩; exact ⟨_, rfl, hK _ _ nofun (keep_below hb hS) ⟨A9, c9, rfl, n9.mono hS.1.size⟩⟩
          · intro a w' hS hO hF' hP K hK; have O := hP 8 _ rfl rfl; have ha := hO 4 (by rfl); obtain ⟨_, f1, A9, c9, rfl, n9⟩ := (hF' 7 rfl).1 63 _ rfl rfl; refine if_ok (by rfl) ?_; refine wp_store_row _ _ _ rfl (w.heap.size + 1 + 1) _ (ev ha) (ev f1) _ _ O vec_size rfl (by simp [Value.oneCell']) ?_; exact hK _ _ (fun _ => rfl) (keep_store O inferInstance ⟨inferInstance, inferInstance, inferInstance, inferInstance, inferInstance, inferInstance, inferInstance, inferInstance, trivial⟩ ⟨inferInstance, inferInstance, inferInstance, inferInstance, inferInstance, inferInstance, inferInstance, inferInstance, trivial⟩ hS) ⟨A9, c9, Own.row O, n9.row O⟩
        · intro vs u hl hS hV
          match vs, hl, hV with
          | [v0, v1, v2, v3, v4, v5, v6, v7, v8], _, hV =>
            simp only [puts, Act.put, List.setIfInBounds_toArray, List.set_cons_zero, List.set_cons_succ]
            obtain ⟨A9, c9, W2, n9⟩ := hV 8 _ rfl
            go_wp2
            exact ret_vec Tryz.results61 rfl rfl W2 (RetV.mk' (v := ⟨frN N ((num lx ^ num ly) % 2 ^ N), sx⟩) n9 hS.1)
      · obtain rfl : F = 1 := by simpa using hF
        simp only [if_true]
        clear hF
        have hno := iVal_no (v := ⟨lx, sx⟩)
        generalize iOk ⟨lx, sx⟩ = ok at *
        generalize iVal ⟨lx, sx⟩ = zv at *
        cases ok
        · obtain rfl := hno rfl
          rw [show powZ false 0 N sx ((num lx ^ num ly) % 2 ^ N) = allV 0 N sx from rfl]
          clear hno
          go_enter Tryz.func61, Tryz.ntmps61
          go_wp2
          haveI : Over w w.heap.size := ⟨Nat.le_refl _⟩
          haveI : Over w (w.heap.size + 1) := ⟨by omega⟩
          haveI : Apart w.heap.size (w.heap.size + 1 + 1) := ⟨by omega⟩
          haveI : Apart (w.heap.size + 1) (w.heap.size + 1 + 1) := ⟨by omega⟩
          refine pair_region (x := ⟨lx, sx⟩) (y := ⟨ly, sy⟩) (fun u => blw w u ∧ owns (w.heap.size + 1 + 1) #[.slice none 0 0, .bool false] u) _ _ _ _ _ _ rfl ⟨rfl, rfl⟩ ⟨rfl, rfl⟩ ⟨rfl, rfl⟩ ⟨rfl, rfl⟩ ⟨rfl, rfl⟩ ⟨rfl, rfl⟩ rfl (by kernel_rfl) (by kernel_rfl) (by kernel_rfl) ⟨by kernel_rfl, by kernel_rfl⟩ (by kernel_rfl) rfl rfl (by omega) ent_operand ent_operand ⟨below_drew BB, O2.drew⟩ O0 O1 (fun u hS => HA.out u hS.1) (fun u hS => HB.out u hS.1) ?_
          intro v0 v1 v2 v3 u A1 c1 A2 c2 hS P0 r1 P1 r2
          simp only [Act.put, List.setIfInBounds_toArray, List.set_cons_zero, List.set_cons_succ]
          obtain ⟨hb, P2⟩ := hS
          replace hb : Below w.heap.size w u := hb
          replace P2 : Own u (w.heap.size + 1 + 1) 24 #[.slice none 0 0, .bool false] := P2
          simp only [hN.out, hM.out] at r1 r2 P0 P1
          clear HA HB O0 O1 O2 BB
          have qP00 := P0.cell 0; have qP01 := P0.cell 1; have fP00 := P0.free 0; have fP01 := P0.free 1; have qP10 := P1.cell 0; have qP11 := P1.cell 1; have fP10 := P1.free 0; have fP11 := P1.free 1
          have l0 := P0.lt
          go_wp2_with (first
            | (go_at_call 31; refine (HX.out _ A1 c1 r1).mono ?_; rintro e w2 ⟨rfl, hb2⟩; clear HX; replace hb := below_step hb hb2; replace P2 := P2.step hb2; replace P0 := P0.step hb2; replace P1 := P1.step hb2; replace r1 := r1.step hb2; replace r2 := r2.step hb2; clear qP00 qP01 qP10 qP11 fP00 fP01 fP10 fP11; have qP00 := P0.cell 0; have qP01 := P0.cell 1; have fP00 := P0.free 0; have fP01 := P0.free 1; have qP10 := P1.cell 0; have qP11 := P1.cell 1; have fP10 := P1.free 0; have fP11 := P1.free 1)
            | (go_at_call 31; refine (HY.out _ A2 c2 r2).mono ?_; rintro e w3 ⟨rfl, hb3⟩; replace hb := below_step hb hb3; replace P2 := P2.step hb3; replace P0 := P0.step hb3; replace P1 := P1.step hb3; replace r1 := r1.step hb3; replace r2 := r2.step hb3; clear qP00 qP01 qP10 qP11 fP00 fP01 fP10 fP11; have qP00 := P0.cell 0; have qP01 := P0.cell 1; have fP00 := P0.free 0; have fP01 := P0.free 1; have qP10 := P1.cell 0; have qP11 := P1.cell 1; have fP10 := P1.free 0; have fP11 := P1.free 1)
            | (go_at_call 154; refine (HL.out _ A2 c2 r2).mono ?_; rintro e w4 ⟨rfl, hb4⟩; replace hb := below_step hb hb4; replace P2 := P2.step hb4; replace P0 := P0.step hb4; replace P1 := P1.step hb4; replace r1 := r1.step hb4; replace r2 := r2.step hb4; clear qP00 qP01 qP10 qP11 fP00 fP01 fP10 fP11; have qP00 := P0.cell 0; have qP01 := P0.cell 1; have fP00 := P0.free 0; have fP01 := P0.free 1; have qP10 := P1.cell 0; have qP11 := P1.cell 1; have fP10 := P1.free 0; have fP11 := P1.free 1)
            | (go_at_call 24; refine (HI.out _ A1 c1 r1).mono ?_; rintro e w5 ⟨rfl, hb5⟩; replace hb := below_step hb hb5; replace P2 := P2.step hb5; replace P0 := P0.step hb5; replace P1 := P1.step hb5; replace r1 := r1.step hb5; replace r2 := r2.step hb5; clear qP00 qP01 qP10 qP11 fP00 fP01 fP10 fP11; have qP00 := P0.cell 0; have qP01 := P0.cell 1; have fP00 := P0.free 0; have fP01 := P0.free 1; have qP10 := P1.cell 0; have qP11 := P1.cell 1; have fP10 := P1.free 0; have fP11 := P1.free 1)
            | (go_at_call 138; refine (build_any N sx 155 #[] (fun _ => 0) _ (by omega) ent_pw1 (fun W i hi hW => pw1_any i W) (fun i _ => by decide)).mono ?_; rintro e w9 ⟨A9, c9, rfl, n9, hb9⟩; simp only [tab_len] at n9 ⊢; have L1 := P2.lt; have W2 := P2.step hb9; have qW20 := W2.cell 0; have qW21 := W2.cell 1; have fW20 := W2.free 0; have fW21 := W2.free 1))
          exact ret_vec Tryz.results61 rfl rfl (W2.put2 _ _) (RetV.mk' (v := allV 0 N sx) ((n9.far2 L1 _ _).mono hb.size) (below_set2 (below_step hb hb9) (by omega) _ _))
        · clear hno
          by_cases z0 : zv = 0
          · subst z0
            rw [show powZ true 0 N sx ((num lx ^ num ly) % 2 ^ N) = allV 2 N sx from rfl]
            go_enter Tryz.func61, Tryz.ntmps61
            go_wp2
            haveI : Over w w.heap.size := ⟨Nat.le_refl _⟩
            haveI : Over w (w.heap.size + 1) := ⟨by omega⟩
            haveI : Apart w.heap.size (w.heap.size + 1 + 1) := ⟨by omega⟩
            haveI : Apart (w.heap.size + 1) (w.heap.size + 1 + 1) := ⟨by omega⟩
            refine pair_region (x := ⟨lx, sx⟩) (y := ⟨ly, sy⟩) (fun u => blw w u ∧ owns (w.heap.size + 1 + 1) #[.slice none 0 0, .bool false] u) _ _ _ _ _ _ rfl ⟨rfl, rfl⟩ ⟨rfl, rfl⟩ ⟨rfl, rfl⟩ ⟨rfl, rfl⟩ ⟨rfl, rfl⟩ ⟨rfl, rfl⟩ rfl (by kernel_rfl) (by kernel_rfl) (by kernel_rfl) ⟨by kernel_rfl, by kernel_rfl⟩ (by kernel_rfl) rfl rfl (by omega) ent_operand ent_operand ⟨below_drew BB, O2.drew⟩ O0 O1 (fun u hS => HA.out u hS.1) (fun u hS => HB.out u hS.1) ?_
            intro v0 v1 v2 v3 u A1 c1 A2 c2 hS P0 r1 P1 r2
            simp only [Act.put, List.setIfInBounds_toArray, List.set_cons_zero, List.set_cons_succ]
            obtain ⟨hb, P2⟩ := hS
            replace hb : Below w.heap.size w u := hb
            replace P2 : Own u (w.heap.size + 1 + 1) 24 #[.slice none 0 0, .bool false] := P2
            simp only [hN.out, hM.out] at r1 r2 P0 P1
            clear HA HB O0 O1 O2 BB
            have qP00 := P0.cell 0; have qP01 := P0.cell 1; have fP00 := P0.free 0; have fP01 := P0.free 1; have qP10 := P1.cell 0; have qP11 := P1.cell 1; have fP10 := P1.free 0; have fP11 := P1.free 1
            have l0 := P0.lt
            go_wp2_with (first
              | (go_at_call 31; refine (HX.out _ A1 c1 r1).mono ?_; rintro e w2 ⟨rfl, hb2⟩; clear HX; replace hb := below_step hb hb2; replace P2 := P2.step hb2; replace P0 := P0.step hb2; replace P1 := P1.step hb2; replace r1 := r1.step hb2; replace r2 := r2.step hb2; clear qP00 qP01 qP10 qP11 fP00 fP01 fP10 fP11; have qP00 := P0.cell 0; have qP01 := P0.cell 1; have fP00 := P0.free 0; have fP01 := P0.free 1; have qP10 := P1.cell 0; have qP11 := P1.cell 1; have fP10 := P1.free 0; have fP11 := P1.free 1)
              | (go_at_call 31; refine (HY.out _ A2 c2 r2).mono ?_; rintro e w3 ⟨rfl, hb3⟩; replace hb := below_step hb hb3; replace P2 := P2.step hb3; replace P0 := P0.step hb3; replace P1 := P1.step hb3; replace r1 := r1.step hb3; replace r2 := r2.step hb3; clear qP00 qP01 qP10 qP11 fP00 fP01 fP10 fP11; have qP00 := P0.cell 0; have qP01 := P0.cell 1; have fP00 := P0.free 0; have fP01 := P0.free 1; have qP10 := P1.cell 0; have qP11 := P1.cell 1; have fP10 := P1.free 0; have fP11 := P1.free 1)
              | (go_at_call 154; refine (HL.out _ A2 c2 r2).mono ?_; rintro e w4 ⟨rfl, hb4⟩; replace hb := below_step hb hb4; replace P2 := P2.step hb4; replace P0 := P0.step hb4; replace P1 := P1.step hb4; replace r1 := r1.step hb4; replace r2 := r2.step hb4; clear qP00 qP01 qP10 qP11 fP00 fP01 fP10 fP11; have qP00 := P0.cell 0; have qP01 := P0.cell 1; have fP00 := P0.free 0; have fP01 := P0.free 1; have qP10 := P1.cell 0; have qP11 := P1.cell 1; have fP10 := P1.free 0; have fP11 := P1.free 1)
              | (go_at_call 24; refine (HI.out _ A1 c1 r1).mono ?_; rintro e w5 ⟨rfl, hb5⟩; replace hb := below_step hb hb5; replace P2 := P2.step hb5; replace P0 := P0.step hb5; replace P1 := P1.step hb5; replace r1 := r1.step hb5; replace r2 := r2.step hb5; clear qP00 qP01 qP10 qP11 fP00 fP01 fP10 fP11; have qP00 := P0.cell 0; have qP01 := P0.cell 1; have fP00 := P0.free 0; have fP01 := P0.free 1; have qP10 := P1.cell 0; have qP11 := P1.cell 1; have fP10 := P1.free 0; have fP11 := P1.free 1)
              | (go_at_call 133; refine (unknown_any N sx _ (by omega)).mono ?_; rintro e w9 ⟨A9, c9, rfl, n9, hb9⟩; simp only [allV, tab_len] at n9 ⊢; have L1 := P2.lt; have W2 := P2.step hb9; have qW20 := W2.cell 0; have qW21 := W2.cell 1; have fW20 := W2.free 0; have fW21 := W2.free 1))
            exact ret_vec Tryz.results61 rfl rfl (W2.put2 _ _) (RetV.mk' (v := allV 2 N sx) ((n9.far2 L1 _ _).mono hb.size) (below_set2 (below_step hb hb9) (by omega) _ _))
          · by_cases z1 : zv = 1
            · subst z1
              rw [show powZ true 1 N sx ((num lx ^ num ly) % 2 ^ N) = ⟨frN N ((num lx ^ num ly) % 2 ^ N), sx⟩ from rfl]
              clear z0
              go_enter Tryz.func61, Tryz.ntmps61
              go_wp2
              haveI : Over w w.heap.size := ⟨Nat.le_refl _⟩
              haveI : Over w (w.heap.size + 1) := ⟨by omega⟩
              haveI : Apart w.heap.size (w.heap.size + 1 + 1) := ⟨by omega⟩
              haveI : Apart (w.heap.size + 1) (w.heap.size + 1 + 1) := ⟨by omega⟩
              refine pair_region (x := ⟨lx, sx⟩) (y := ⟨ly, sy⟩) (fun u => blw w u ∧ owns (w.heap.size + 1 + 1) #[.slice none 0 0, .bool false] u) _ _ _ _ _ _ rfl ⟨rfl, rfl⟩ ⟨rfl, rfl⟩ ⟨rfl, rfl⟩ ⟨rfl, rfl⟩ ⟨rfl, rfl⟩ ⟨rfl, rfl⟩ rfl (by kernel_rfl) (by kernel_rfl) (by kernel_rfl) ⟨by kernel_rfl, by kernel_rfl⟩ (by kernel_rfl) rfl rfl (by omega) ent_operand ent_operand ⟨below_drew BB, O2.drew⟩ O0 O1 (fun u hS => HA.out u hS.1) (fun u hS => HB.out u hS.1) ?_
              intro v0 v1 v2 v3 u A1 c1 A2 c2 hS P0 r1 P1 r2
              simp only [Act.put, List.setIfInBounds_toArray, List.set_cons_zero, List.set_cons_succ]
              obtain ⟨hb, P2⟩ := hS
              replace hb : Below w.heap.size w u := hb
              replace P2 : Own u (w.heap.size + 1 + 1) 24 #[.slice none 0 0, .bool false] := P2
              simp only [hN.out, hM.out] at r1 r2 P0 P1
              clear HA HB O0 O1 O2 BB
              have qP00 := P0.cell 0; have qP01 := P0.cell 1; have fP00 := P0.free 0; have fP01 := P0.free 1; have qP10 := P1.cell 0; have qP11 := P1.cell 1; have fP10 := P1.free 0; have fP11 := P1.free 1
              have l0 := P0.lt
              go_wp2_with (first
                | (go_at_call 31; refine (HX.out _ A1 c1 r1).mono ?_; rintro e w2 ⟨rfl, hb2⟩; clear HX; replace hb := below_step hb hb2; replace P2 := P2.step hb2; replace P0 := P0.step hb2; replace P1 := P1.step hb2; replace r1 := r1.step hb2; replace r2 := r2.step hb2; clear qP00 qP01 qP10 qP11 fP00 fP01 fP10 fP11; have qP00 := P0.cell 0; have qP01 := P0.cell 1; have fP00 := P0.free 0; have fP01 := P0.free 1; have qP10 := P1.cell 0; have qP11 := P1.cell 1; have fP10 := P1.free 0; have fP11 := P1.free 1)
                | (go_at_call 31; refine (HY.out _ A2 c2 r2).mono ?_; rintro e w3 ⟨rfl, hb3⟩; replace hb := below_step hb hb3; replace P2 := P2.step hb3; replace P0 := P0.step hb3; replace P1 := P1.step hb3; replace r1 := r1.step hb3; replace r2 := r2.step hb3; clear qP00 qP01 qP10 qP11 fP00 fP01 fP10 fP11; have qP00 := P0.cell 0; have qP01 := P0.cell 1; have fP00 := P0.free 0; have fP01 := P0.free 1; have qP10 := P1.cell 0; have qP11 := P1.cell 1; have fP10 := P1.free 0; have fP11 := P1.free 1)
                | (go_at_call 154; refine (HL.out _ A2 c2 r2).mono ?_; rintro e w4 ⟨rfl, hb4⟩; replace hb := below_step hb hb4; replace P2 := P2.step hb4; replace P0 := P0.step hb4; replace P1 := P1.step hb4; replace r1 := r1.step hb4; replace r2 := r2.step hb4; clear qP00 qP01 qP10 qP11 fP00 fP01 fP10 fP11; have qP00 := P0.cell 0; have qP01 := P0.cell 1; have fP00 := P0.free 0; have fP01 := P0.free 1; have qP10 := P1.cell 0; have qP11 := P1.cell 1; have fP10 := P1.free 0; have fP11 := P1.free 1)
                | (go_at_call 24; refine (HI.out _ A1 c1 r1).mono ?_; rintro e w5 ⟨rfl, hb5⟩; replace hb := below_step hb hb5; replace P2 := P2.step hb5; replace P0 := P0.step hb5; replace P1 := P1.step hb5; replace r1 := r1.step hb5; replace r2 := r2.step hb5; clear qP00 qP01 qP10 qP11 fP00 fP01 fP10 fP11; have qP00 := P0.cell 0; have qP01 := P0.cell 1; have fP00 := P0.free 0; have fP01 := P0.free 1; have qP10 := P1.cell 0; have qP11 := P1.cell 1; have fP10 := P1.free 0; have fP11 := P1.free 1))
              haveI : Over w (w.heap.size + 1 + 1) := ⟨by omega⟩
              haveI : Apart (w.heap.size + 1 + 1) w.heap.size := ⟨by omega⟩
              haveI : Apart (w.heap.size + 1 + 1) (w.heap.size + 1) := ⟨by omega⟩
              refine region_w (by kernel_rfl) (fun u => blw w u ∧ (owns w.heap.size #[.slice A1 N c1, .bool sx] u ∧ (owns (w.heap.size + 1) #[.slice A2 M c2, .bool sy] u ∧ (rds A1 N lx u ∧ rds A2 M ly u)))) [tru, tru, tru, tru, tru, tru, tru, tru, owns (w.heap.size + 1 + 1) #[.slice none 0 0, .bool false]] [isV (.agg #[.slice A1 N c1, .bool sx]), isNum N (num lx), isV (.agg #[.slice A2 M c2, .bool sy]), isNum M (num ly), isNum N ((num lx ^ num ly) % 2 ^ N), isV (.pointer (some ⟨w.heap.size, 1, none⟩)), isV (.bool sx), isN w.heap.size ⟨frN N ((num lx ^ num ly) % 2 ^ N), sx⟩, didN w.heap.size (w.heap.size + 1 + 1) ⟨frN N ((num lx ^ num ly) % 2 ^ N), sx⟩] [some 56, some 57, some 58, some 59, some 60, some 61, some 62, some 63, none] [[], [0], [], [2, 1], [1, 3, 3], [], [5], [4, 6, 4], [7, 7, 0, 1, 2, 3, 4, 5, 6, 7]] (by kernel_rfl) (by kernel_rfl) rfl (by kernel_rfl) (by kernel_rfl) (by kernel_rfl) ⟨below_drew hb, P0.drew, P1.drew, r1.drew, r2.drew⟩ (by
                intro U hU
                simp only [List.mem_cons, List.not_mem_nil, or_false] at hU
                rcases hU with rfl | rfl | rfl | rfl | rfl | rfl | rfl | rfl | rfl
                all_goals first | trivial | exact P2.drew) ?_ ?_
              · refine ⟨?_, ?_, ?_, ?_, ?_, ?_, ?_, ?_, ?_, trivial⟩
                · intro a w' hS hO hF' hP K hK; have ha := hO 2 (by rfl); refine if_ok (by rfl) ?_; refine wp_load_row 24 (.tmp 2) rfl w.heap.size (ev ha) _ _ (0, 0) _ hS.2.1 Tryz.underlying24 rfl (by kernel_rfl) ?_; exact hK _ w' nofun (keep_same hS) rfl
                · intro a w' hS hO hF' hP K hK; obtain ⟨_, f0, rfl⟩ := (hF' 0 rfl).1 56 _ rfl rfl; refine if_ok (by rfl) ?_; refine wp_calls rfl (enters_of Tryz.func112 (by kernel_rfl) rfl) (args := #[.agg #[.slice A1 N c1, .bool sx]]) (by simp [Act.eval, f0]) ?_; refine (number_any A1 N c1 sx lx _ hS.2.2.2.1 (by omega)).mono ?_; rintro e w2 ⟨X1, x1, rfl, nn1, hb⟩; exact ⟨_, rfl, hK _ w2 nofun (keep_below hb hS) ⟨X1, x1, rfl, B.Nw.mono nn1 (Nat.zero_le _)⟩⟩
                · intro a w' hS hO hF' hP K hK; have ha := hO 3 (by rfl); refine if_ok (by rfl) ?_; refine wp_load_row 24 (.tmp 3) rfl (w.heap.size + 1) (ev ha) _ _ (0, 0) _ hS.2.2.1 Tryz.underlying24 rfl (by kernel_rfl) ?_; exact hK _ w' nofun (keep_same hS) rfl
                · intro a w' hS hO hF' hP K hK; obtain ⟨_, f0, rfl⟩ := (hF' 2 rfl).1 58 _ rfl rfl; refine if_ok (by rfl) ?_; refine wp_calls rfl (enters_of Tryz.func112 (by kernel_rfl) rfl) (args := #[.agg #[.slice A2 M c2, .bool sy]]) (by simp [Act.eval, f0]) ?_; refine (number_any A2 M c2 sy ly _ hS.2.2.2.2 (by omega)).mono ?_; rintro e w2 ⟨X1, x1, rfl, nn1, hb⟩; exact ⟨_, rfl, hK _ w2 nofun (keep_below hb hS) ⟨X1, x1, rfl, B.Nw.mono nn1 (Nat.zero_le _)⟩⟩
                · intro a w' hS hO hF' hP K hK; obtain ⟨_, f1, X1, x1, rfl, nn1⟩ := (hF' 1 rfl).1 57 _ rfl rfl; obtain ⟨_, f2, X2, x2, rfl, nn2⟩ := (hF' 3 rfl).1 59 _ rfl rfl; refine if_ok (by rfl) ?_; refine wp_calls rfl (enters_of Tryz.func156 (by kernel_rfl) rfl) (args := #[.slice X1 N x1, .slice X2 M x2]) (by simp [Act.eval, f1, f2]) ?_; refine (B.pow_any X1 X2 N x1 (num lx) M x2 (num ly) _ nn1.rd nn2.rd (by omega) (by omega)).mono ?_; rintro e w2 ⟨X3, x3, rfl, nn3, hb⟩; exact ⟨_, rfl, hK _ _ nofun (keep_below hb hS) ⟨X3, x3, rfl, B.Nw.mono nn3 (Nat.zero_le _)⟩⟩
                · intro a w' hS hO hF' hP K hK; have ha := hO 2 (by rfl); refine if_ok (by rfl) ?_; have ha' : a.tmps[2]? = some (.pointer (some ⟨w.heap.size, 0, none⟩)) := ha; go_simp; exact hK _ w' nofun (keep_same hS) rfl
                · intro a w' hS hO hF' hP K hK; obtain ⟨_, f0, rfl⟩ := (hF' 5 rfl).1 61 _ rfl rfl; have q1 : w'.cell? ⟨w.heap.size, 1, none⟩ = some (.bool sx) := Own.cell hS.2.1 1; refine if_ok (by rfl) ?_; go_simp; exact hK _ w' nofun (keep_same hS) rfl
                · intro a w' hS hO hF' hP K hK; obtain ⟨_, f1, X1, x1, rfl, nn1⟩ := (hF' 4 rfl).1 60 _ rfl rfl; obtain ⟨_, f2, rfl⟩ := (hF' 6 rfl).1 62 _ rfl rfl; refine if_ok (by rfl) ?_; refine wp_calls rfl (enters_of Tryz.func130 (by kernel_rfl) rfl) (args := #[.slice X1 N x1, .bool sx]) (by simp [Act.eval, f1, f2]) ?_; refine (fromNumber_any X1 N x1 _ sx _ nn1.rd (by omega)).mono ?_; rintro e w2 ⟨A9, c9, rfl, n9, hb⟩; exact ⟨_, rfl, hK _ _ nofun (keep_below hb hS) ⟨A9, c9, rfl, n9.mono hS.1.size⟩⟩
                · intro a w' hS hO hF' hP K hK; have O := hP 8 _ rfl rfl; have ha := hO 4 (by rfl); obtain ⟨_, f1, A9, c9, rfl, n9⟩ := (hF' 7 rfl).1 63 _ rfl rfl; refine if_ok (by rfl) ?_; refine wp_store_row _ _ _ rfl (w.heap.size + 1 + 1) _ (ev ha) (ev f1) _ _ O vec_size rfl (by simp [Value.oneCell']) ?_; exact hK _ _ (fun _ => rfl) (keep_store O inferInstance ⟨inferInstance, inferInstance, inferInstance, inferInstance, inferInstance, inferInstance, inferInstance, inferInstance, trivial⟩ ⟨inferInstance, inferInstance, inferInstance, inferInstance, inferInstance, inferInstance, inferInstance, inferInstance, trivial⟩ hS) ⟨A9, c9, Own.row O, n9.row O⟩
              · intro vs u hl hS hV
                match vs, hl, hV with
                | [v0, v1, v2, v3, v4, v5, v6, v7, v8], _, hV =>
                  simp only [puts, Act.put, List.setIfInBounds_toArray, List.set_cons_zero, List.set_cons_succ]
                  obtain ⟨A9, c9, W2, n9⟩ := hV 8 _ rfl
                  go_wp2
                  exact ret_vec Tryz.results61 rfl rfl W2 (RetV.mk' (v := ⟨frN N ((num lx ^ num ly) % 2 ^ N), sx⟩) n9 hS.1)
            · by_cases z2 : zv = -1
              · subst z2
                rw [show powZ true (-1) N sx ((num lx ^ num ly) % 2 ^ N) = ⟨frN N ((num lx ^ num ly) % 2 ^ N), sx⟩ from rfl]
                clear z0 z1
                go_enter Tryz.func61, Tryz.ntmps61
                go_wp2
                haveI : Over w w.heap.size := ⟨Nat.le_refl _⟩
                haveI : Over w (w.heap.size + 1) := ⟨by omega⟩
                haveI : Apart w.heap.size (w.heap.size + 1 + 1) := ⟨by omega⟩
                haveI : Apart (w.heap.size + 1) (w.heap.size + 1 + 1) := ⟨by omega⟩
                refine pair_region (x := ⟨lx, sx⟩) (y := ⟨ly, sy⟩) (fun u => blw w u ∧ owns (w.heap.size + 1 + 1) #[.slice none 0 0, .bool false] u) _ _ _ _ _ _ rfl ⟨rfl, rfl⟩ ⟨rfl, rfl⟩ ⟨rfl, rfl⟩ ⟨rfl, rfl⟩ ⟨rfl, rfl⟩ ⟨rfl, rfl⟩ rfl (by kernel_rfl) (by kernel_rfl) (by kernel_rfl) ⟨by kernel_rfl, by kernel_rfl⟩ (by kernel_rfl) rfl rfl (by omega) ent_operand ent_operand ⟨below_drew BB, O2.drew⟩ O0 O1 (fun u hS => HA.out u hS.1) (fun u hS => HB.out u hS.1) ?_
                intro v0 v1 v2 v3 u A1 c1 A2 c2 hS P0 r1 P1 r2
                simp only [Act.put, List.setIfInBounds_toArray, List.set_cons_zero, List.set_cons_succ]
                obtain ⟨hb, P2⟩ := hS
                replace hb : Below w.heap.size w u := hb
                replace P2 : Own u (w.heap.size + 1 + 1) 24 #[.slice none 0 0, .bool false] := P2
                simp only [hN.out, hM.out] at r1 r2 P0 P1
                clear HA HB O0 O1 O2 BB
                have qP00 := P0.cell 0; have qP01 := P0.cell 1; have fP00 := P0.free 0; have fP01 := P0.free 1; have qP10 := P1.cell 0; have qP11 := P1.cell 1; have fP10 := P1.free 0; have fP11 := P1.free 1
                have l0 := P0.lt
                go_wp2_with (first
                  | (go_at_call 31; refine (HX.out _ A1 c1 r1).mono ?_; rintro e w2 ⟨rfl, hb2⟩; clear HX; replace hb := below_step hb hb2; replace P2 := P2.step hb2; replace P0 := P0.step hb2; replace P1 := P1.step hb2; replace r1 := r1.step hb2; replace r2 := r2.step hb2; clear qP00 qP01 qP10 qP11 fP00 fP01 fP10 fP11; have qP00 := P0.cell 0; have qP01 := P0.cell 1; have fP00 := P0.free 0; have fP01 := P0.free 1; have qP10 := P1.cell 0; have qP11 := P1.cell 1; have fP10 := P1.free 0; have fP11 := P1.free 1)
                  | (go_at_call 31; refine (HY.out _ A2 c2 r2).mono ?_; rintro e w3 ⟨rfl, hb3⟩; replace hb := below_step hb hb3; replace P2 := P2.step hb3; replace P0 := P0.step hb3; replace P1 := P1.step hb3; replace r1 := r1.step hb3; replace r2 := r2.step hb3; clear qP00 qP01 qP10 qP11 fP00 fP01 fP10 fP11; have qP00 := P0.cell 0; have qP01 := P0.cell 1; have fP00 := P0.free 0; have fP01 := P0.free 1; have qP10 := P1.cell 0; have qP11 := P1.cell 1; have fP10 := P1.free 0; have fP11 := P1.free 1)
                  | (go_at_call 154; refine (HL.out _ A2 c2 r2).mono ?_; rintro e w4 ⟨rfl, hb4⟩; replace hb := below_step hb hb4; replace P2 := P2.step hb4; replace P0 := P0.step hb4; replace P1 := P1.step hb4; replace r1 := r1.step hb4; replace r2 := r2.step hb4; clear qP00 qP01 qP10 qP11 fP00 fP01 fP10 fP11; have qP00 := P0.cell 0; have qP01 := P0.cell 1; have fP00 := P0.free 0; have fP01 := P0.free 1; have qP10 := P1.cell 0; have qP11 := P1.cell 1; have fP10 := P1.free 0; have fP11 := P1.free 1)
                  | (go_at_call 24; refine (HI.out _ A1 c1 r1).mono ?_; rintro e w5 ⟨rfl, hb5⟩; replace hb := below_step hb hb5; replace P2 := P2.step hb5; replace P0 := P0.step hb5; replace P1 := P1.step hb5; replace r1 := r1.step hb5; replace r2 := r2.step hb5; clear qP00 qP01 qP10 qP11 fP00 fP01 fP10 fP11; have qP00 := P0.cell 0; have qP01 := P0.cell 1; have fP00 := P0.free 0; have fP01 := P0.free 1; have qP10 := P1.cell 0; have qP11 := P1.cell 1; have fP10 := P1.free 0; have fP11 := P1.free 1))
                haveI : Over w (w.heap.size + 1 + 1) := ⟨by omega⟩
                haveI : Apart (w.heap.size + 1 + 1) w.heap.size := ⟨by omega⟩
                haveI : Apart (w.heap.size + 1 + 1) (w.heap.size + 1) := ⟨by omega⟩
                refine region_w (by kernel_rfl) (fun u => blw w u ∧ (owns w.heap.size #[.slice A1 N c1, .bool sx] u ∧ (owns (w.heap.size + 1) #[.slice A2 M c2, .bool sy] u ∧ (rds A1 N lx u ∧ rds A2 M ly u)))) [tru, tru, tru, tru, tru, tru, tru, tru, owns (w.heap.size + 1 + 1) #[.slice none 0 0, .bool false]] [isV (.agg #[.slice A1 N c1, .bool sx]), isNum N (num lx), isV (.agg #[.slice A2 M c2, .bool sy]), isNum M (num ly), isNum N ((num lx ^ num ly) % 2 ^ N), isV (.pointer (some ⟨w.heap.size, 1, none⟩)), isV (.bool sx), isN w.heap.size ⟨frN N ((num lx ^ num ly) % 2 ^ N), sx⟩, didN w.heap.size (w.heap.size + 1 + 1) ⟨frN N ((num lx ^ num ly) % 2 ^ N), sx⟩] [some 56, some 57, some 58, some 59, some 60, some 61, some 62, some 63, none] [[], [0], [], [2, 1], [1, 3, 3], [], [5], [4, 6, 4], [7, 7, 0, 1, 2, 3, 4, 5, 6, 7]] (by kernel_rfl) (by kernel_rfl) rfl (by kernel_rfl) (by kernel_rfl) (by kernel_rfl) ⟨below_drew hb, P0.drew, P1.drew, r1.drew, r2.drew⟩ (by
                  intro U hU
                  simp only [List.mem_cons, List.not_mem_nil, or_false] at hU
                  rcases hU with rfl | rfl | rfl | rfl | rfl | rfl | rfl | rfl | rfl
                  all_goals first | trivial | exact P2.drew) ?_ ?_
                · refine ⟨?_, ?_, ?_, ?_, ?_, ?_, ?_, ?_, ?_, trivial⟩
                  · intro a w' hS hO hF' hP K hK; have ha := hO 2 (by rfl); refine if_ok (by rfl) ?_; refine wp_load_row 24 (.tmp 2) rfl w.heap.size (ev ha) _ _ (0, 0) _ hS.2.1 Tryz.underlying24 rfl (by kernel_rfl) ?_; exact hK _ w' nofun (keep_same hS) rfl
                  · intro a w' hS hO hF' hP K hK; obtain ⟨_, f0, rfl⟩ := (hF' 0 rfl).1 56 _ rfl rfl; refine if_ok (by rfl) ?_; refine wp_calls rfl (enters_of Tryz.func112 (by kernel_rfl) rfl) (args := #[.agg #[.slice A1 N c1, .bool sx]]) (by simp [Act.eval, f0]) ?_; refine (number_any A1 N c1 sx lx _ hS.2.2.2.1 (by omega)).mono ?_; rintro e w2 ⟨X1, x1, rfl, nn1, hb⟩; exact ⟨_, rfl, hK _ w2 nofun (keep_below hb hS) ⟨X1, x1, rfl, B.Nw.mono nn1 (Nat.zero_le _)⟩⟩
                  · intro a w' hS hO hF' hP K hK; have ha := hO 3 (by rfl); refine if_ok (by rfl) ?_; refine wp_load_row 24 (.tmp 3) rfl (w.heap.size + 1) (ev ha) _ _ (0, 0) _ hS.2.2.1 Tryz.underlying24 rfl (by kernel_rfl) ?_; exact hK _ w' nofun (keep_same hS) rfl
                  · intro a w' hS hO hF' hP K hK; obtain ⟨_, f0, rfl⟩ := (hF' 2 rfl).1 58 _ rfl rfl; refine if_ok (by rfl) ?_; refine wp_calls rfl (enters_of Tryz.func112 (by kernel_rfl) rfl) (args := #[.agg #[.slice A2 M c2, .bool sy]]) (by simp [Act.eval, f0]) ?_; refine (number_any A2 M c2 sy ly _ hS.2.2.2.2 (by omega)).mono ?_; rintro e w2 ⟨X1, x1, rfl, nn1, hb⟩; exact ⟨_, rfl, hK _ w2 nofun (keep_below hb hS) ⟨X1, x1, rfl, B.Nw.mono nn1 (Nat.zero_le _)⟩⟩
                  · intro a w' hS hO hF' hP K hK; obtain ⟨_, f1, X1, x1, rfl, nn1⟩ := (hF' 1 rfl).1 57 _ rfl rfl; obtain ⟨_, f2, X2, x2, rfl, nn2⟩ := (hF' 3 rfl).1 59 _ rfl rfl; refine if_ok (by rfl) ?_; refine wp_calls rfl (enters_of Tryz.func156 (by kernel_rfl) rfl) (args := #[.slice X1 N x1, .slice X2 M x2]) (by simp [Act.eval, f1, f2]) ?_; refine (B.pow_any X1 X2 N x1 (num lx) M x2 (num ly) _ nn1.rd nn2.rd (by omega) (by omega)).mono ?_; rintro e w2 ⟨X3, x3, rfl, nn3, hb⟩; exact ⟨_, rfl, hK _ _ nofun (keep_below hb hS) ⟨X3, x3, rfl, B.Nw.mono nn3 (Nat.zero_le _)⟩⟩
                  · intro a w' hS hO hF' hP K hK; have ha := hO 2 (by rfl); refine if_ok (by rfl) ?_; have ha' : a.tmps[2]? = some (.pointer (some ⟨w.heap.size, 0, none⟩)) := ha; go_simp; exact hK _ w' nofun (keep_same hS) rfl
                  · intro a w' hS hO hF' hP K hK; obtain ⟨_, f0, rfl⟩ := (hF' 5 rfl).1 61 _ rfl rfl; have q1 : w'.cell? ⟨w.heap.size, 1, none⟩ = some (.bool sx) := Own.cell hS.2.1 1; refine if_ok (by rfl) ?_; go_simp; exact hK _ w' nofun (keep_same hS) rfl
                  · intro a w' hS hO hF' hP K hK; obtain ⟨_, f1, X1, x1, rfl, nn1⟩ := (hF' 4 rfl).1 60 _ rfl rfl; obtain ⟨_, f2, rfl⟩ := (hF' 6 rfl).1 62 _ rfl rfl; refine if_ok (by rfl) ?_; refine wp_calls rfl (enters_of Tryz.func130 (by kernel_rfl) rfl) (args := #[.slice X1 N x1, .bool sx]) (by simp [Act.eval, f1, f2]) ?_; refine (fromNumber_any X1 N x1 _ sx _ nn1.rd (by omega)).mono ?_; rintro e w2 ⟨A9, c9, rfl, n9, hb⟩; exact ⟨_, rfl, hK _ _ nofun (keep_below hb hS) ⟨A9, c9, rfl, n9.mono hS.1.size⟩⟩
                  · intro a w' hS hO hF' hP K hK; have O := hP 8 _ rfl rfl; have ha := hO 4 (by rfl); obtain ⟨_, f1, A9, c9, rfl, n9⟩ := (hF' 7 rfl).1 63 _ rfl rfl; refine if_ok (by rfl) ?_; refine wp_store_row _ _ _ rfl (w.heap.size + 1 + 1) _ (ev ha) (ev f1) _ _ O vec_size rfl (by simp [Value.oneCell']) ?_; exact hK _ _ (fun _ => rfl) (keep_store O inferInstance ⟨inferInstance, inferInstance, inferInstance, inferInstance, inferInstance, inferInstance, inferInstance, inferInstance, trivial⟩ ⟨inferInstance, inferInstance, inferInstance, inferInstance, inferInstance, inferInstance, inferInstance, inferInstance, trivial⟩ hS) ⟨A9, c9, Own.row O, n9.row O⟩
                · intro vs u hl hS hV
                  match vs, hl, hV with
                  | [v0, v1, v2, v3, v4, v5, v6, v7, v8], _, hV =>
                    simp only [puts, Act.put, List.setIfInBounds_toArray, List.set_cons_zero, List.set_cons_succ]
                    obtain ⟨A9, c9, W2, n9⟩ := hV 8 _ rfl
                    go_wp2
                    exact ret_vec Tryz.results61 rfl rfl W2 (RetV.mk' (v := ⟨frN N ((num lx ^ num ly) % 2 ^ N), sx⟩) n9 hS.1)
              · rw [show powZ true zv N sx ((num lx ^ num ly) % 2 ^ N) = allV 0 N sx from by unfold powZ; rw [if_neg (fun e => z0 e.2), if_pos ⟨z1, z2⟩]]
                have e0 : (zv == 0) = false := by simpa using z0
                have e1 : (zv != 1) = true := by simpa using z1
                have e2 : (zv != -1) = true := by simpa using z2
                clear z0 z1 z2
                go_enter Tryz.func61, Tryz.ntmps61
                go_wp2
                haveI : Over w w.heap.size := ⟨Nat.le_refl _⟩
                haveI : Over w (w.heap.size + 1) := ⟨by omega⟩
                haveI : Apart w.heap.size (w.heap.size + 1 + 1) := ⟨by omega⟩
                haveI : Apart (w.heap.size + 1) (w.heap.size + 1 + 1) := ⟨by omega⟩
                refine pair_region (x := ⟨lx, sx⟩) (y := ⟨ly, sy⟩) (fun u => blw w u ∧ owns (w.heap.size + 1 + 1) #[.slice none 0 0, .bool false] u) _ _ _ _ _ _ rfl ⟨rfl, rfl⟩ ⟨rfl, rfl⟩ ⟨rfl, rfl⟩ ⟨rfl, rfl⟩ ⟨rfl, rfl⟩ ⟨rfl, rfl⟩ rfl (by kernel_rfl) (by kernel_rfl) (by kernel_rfl) ⟨by kernel_rfl, by kernel_rfl⟩ (by kernel_rfl) rfl rfl (by omega) ent_operand ent_operand ⟨below_drew BB, O2.drew⟩ O0 O1 (fun u hS => HA.out u hS.1) (fun u hS => HB.out u hS.1) ?_
                intro v0 v1 v2 v3 u A1 c1 A2 c2 hS P0 r1 P1 r2
                simp only [Act.put, List.setIfInBounds_toArray, List.set_cons_zero, List.set_cons_succ]
                obtain ⟨hb, P2⟩ := hS
                replace hb : Below w.heap.size w u := hb
                replace P2 : Own u (w.heap.size + 1 + 1) 24 #[.slice none 0 0, .bool false] := P2
                simp only [hN.out, hM.out] at r1 r2 P0 P1
                clear HA HB O0 O1 O2 BB
                have qP00 := P0.cell 0; have qP01 := P0.cell 1; have fP00 := P0.free 0; have fP01 := P0.free 1; have qP10 := P1.cell 0; have qP11 := P1.cell 1; have fP10 := P1.free 0; have fP11 := P1.free 1
                have l0 := P0.lt
                go_wp2_with (first
                  | (go_at_call 31; refine (HX.out _ A1 c1 r1).mono ?_; rintro e w2 ⟨rfl, hb2⟩; clear HX; replace hb := below_step hb hb2; replace P2 := P2.step hb2; replace P0 := P0.step hb2; replace P1 := P1.step hb2; replace r1 := r1.step hb2; replace r2 := r2.step hb2; clear qP00 qP01 qP10 qP11 fP00 fP01 fP10 fP11; have qP00 := P0.cell 0; have qP01 := P0.cell 1; have fP00 := P0.free 0; have fP01 := P0.free 1; have qP10 := P1.cell 0; have qP11 := P1.cell 1; have fP10 := P1.free 0; have fP11 := P1.free 1)
                  | (go_at_call 31; refine (HY.out _ A2 c2 r2).mono ?_; rintro e w3 ⟨rfl, hb3⟩; replace hb := below_step hb hb3; replace P2 := P2.step hb3; replace P0 := P0.step hb3; replace P1 := P1.step hb3; replace r1 := r1.step hb3; replace r2 := r2.step hb3; clear qP00 qP01 qP10 qP11 fP00 fP01 fP10 fP11; have qP00 := P0.cell 0; have qP01 := P0.cell 1; have fP00 := P0.free 0; have fP01 := P0.free 1; have qP10 := P1.cell 0; have qP11 := P1.cell 1; have fP10 := P1.free 0; have fP11 := P1.free 1)
                  | (go_at_call 154; refine (HL.out _ A2 c2 r2).mono ?_; rintro e w4 ⟨rfl, hb4⟩; replace hb := below_step hb hb4; replace P2 := P2.step hb4; replace P0 := P0.step hb4; replace P1 := P1.step hb4; replace r1 := r1.step hb4; replace r2 := r2.step hb4; clear qP00 qP01 qP10 qP11 fP00 fP01 fP10 fP11; have qP00 := P0.cell 0; have qP01 := P0.cell 1; have fP00 := P0.free 0; have fP01 := P0.free 1; have qP10 := P1.cell 0; have qP11 := P1.cell 1; have fP10 := P1.free 0; have fP11 := P1.free 1)
                  | (go_at_call 24; refine (HI.out _ A1 c1 r1).mono ?_; rintro e w5 ⟨rfl, hb5⟩; replace hb := below_step hb hb5; replace P2 := P2.step hb5; replace P0 := P0.step hb5; replace P1 := P1.step hb5; replace r1 := r1.step hb5; replace r2 := r2.step hb5; clear qP00 qP01 qP10 qP11 fP00 fP01 fP10 fP11; have qP00 := P0.cell 0; have qP01 := P0.cell 1; have fP00 := P0.free 0; have fP01 := P0.free 1; have qP10 := P1.cell 0; have qP11 := P1.cell 1; have fP10 := P1.free 0; have fP11 := P1.free 1)
                  | (go_at_call 138; refine (build_any N sx 155 #[] (fun _ => 0) _ (by omega) ent_pw1 (fun W i hi hW => pw1_any i W) (fun i _ => by decide)).mono ?_; rintro e w9 ⟨A9, c9, rfl, n9, hb9⟩; simp only [tab_len] at n9 ⊢; have L1 := P2.lt; have W2 := P2.step hb9; have qW20 := W2.cell 0; have qW21 := W2.cell 1; have fW20 := W2.free 0; have fW21 := W2.free 1))
                exact ret_vec Tryz.results61 rfl rfl (W2.put2 _ _) (RetV.mk' (v := allV 0 N sx) ((n9.far2 L1 _ _).mono hb.size) (below_set2 (below_step hb hb9) (by omega) _ _))
end Go.Proofs.YtognpmggfplekaaGreatDoor
