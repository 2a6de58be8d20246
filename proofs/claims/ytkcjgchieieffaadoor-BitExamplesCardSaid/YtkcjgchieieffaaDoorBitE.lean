/-
  The walk of the statement 'BitExamples' over the seat's translation. Conditions: the tables read as the program lays them.
-/
import Derived.Test.YtkcjgchieieffaaDoorBitB
import Derived.WalkSmall
import Derived.Laws.Tables
import Derived.LoopTactic
import Derived.Outline
namespace Go.Proofs.YtkcjgchieieffaaDoor
open Go Go.RowKit

/-- A whole array stored into a block that was just made. -/
theorem store_new {P : Program} {ops : Array Oper} {rest : List Oper} {o : Oper} {a : Act} {w0 : World} {Q : Exit → Act → World → Prop} (hgd : o.guard = none) (ty : TypeId) (x y : Operand) (ho : o.op = .store ty x y)
    (hd : o.dst = none) (t : TypeId) (old cells : Array Value) (hx : a.eval x = .pointer (some ⟨w0.heap.size, 0, none⟩)) (hy : a.eval y = .agg cells)
    (hi : (P.info? ty).map (·.size) = some cells.size) (hold : old.size = cells.size) (h1 : cells.all (·.oneCell') = true)
    (h : wpList P ops Q rest a (w0.alloc (.cells cells t))) : wpList P ops Q (o :: rest) a (w0.alloc (.cells old t)) := by
  refine wpList_store_row hgd ty x y ho w0.heap.size cells hx hy t old (by show (w0.heap.push _)[w0.heap.size]? = _; simp) hi hold h1 ?_
  have e : (w0.alloc (.cells old t)).setRow w0.heap.size cells = w0.alloc (.cells cells t) := by
    have e' : (w0.heap.push (.cells old t)).modify w0.heap.size (fun | .cells _ e f => .cells cells e f | o => o) = w0.heap.push (.cells cells t) := by
      apply Array.ext_getElem?
      intro i
      rw [Array.getElem?_modify]
      by_cases hi : w0.heap.size = i
      · subst hi; simp
      · rw [if_neg hi]
        by_cases hl : i < w0.heap.size
        · rw [Array.getElem?_push_lt hl, Array.getElem?_push_lt hl]
        · rw [Array.getElem?_eq_none (by simp; omega), Array.getElem?_eq_none (by simp; omega)]
    unfold World.setRow
    unfold World.alloc
    exact congrArg (fun h => { w0 with heap := h }) e'
  rw [hd, e]
  exact h

/-- A quiet callee behind draws already made. -/
theorem quiet_more {P : Program} {f : FuncId} {args : Array Value} {w : World} {a n : Nat} {v : Value} (h : Calls P f args (w.drewN (a + n)) fun e w' => e = .returned v ∧ ∃ m, w' = (w.drewN (a + n)).drewN m) :
    Calls P f args (w.drewN (a + n)) fun e w'' => e = .returned v ∧ ∃ m, w'' = w.drewN (a + m) :=
  h.mono fun _ _ ⟨he, m, hm⟩ => ⟨he, n + m, by rw [hm, World.drewN_drewN, Nat.add_assoc]⟩
theorem cell_lt {w : World} {p : Addr} {v : Value} (h : w.cell? p = some v) : p.block < w.heap.size := by
  rcases Nat.lt_or_ge p.block w.heap.size with h1 | h1
  · exact h1
  · simp [World.cell?, Array.getElem?_eq_none h1] at h
instance {w : World} [T : TNot w] (o : Obj) : TNot (w.alloc o) := ⟨fun k h => by rw [World.cell?_alloc_lt _ _ _ (cell_lt (T.not k h))]; exact T.not k h⟩
instance {w : World} [T : TBuf w] (o : Obj) : TBuf (w.alloc o) := ⟨fun k h => by rw [World.cell?_alloc_lt _ _ _ (cell_lt (T.buf k h))]; exact T.buf k h⟩
instance {w : World} [T : TChr w] (o : Obj) : TChr (w.alloc o) := ⟨fun k h => by rw [World.cell?_alloc_lt _ _ _ (cell_lt (T.chr k h))]; exact T.chr k h⟩
instance {w : World} [T : TAnd w] (o : Obj) : TAnd (w.alloc o) := ⟨fun k h => by rw [World.cell?_alloc_lt _ _ _ (cell_lt (T.and k h))]; exact T.and k h⟩
instance {w : World} [T : TOr w] (o : Obj) : TOr (w.alloc o) := ⟨fun k h => by rw [World.cell?_alloc_lt _ _ _ (cell_lt (T.or k h))]; exact T.or k h⟩
instance {w : World} [T : TXor w] (o : Obj) : TXor (w.alloc o) := ⟨fun k h => by rw [World.cell?_alloc_lt _ _ _ (cell_lt (T.xor k h))]; exact T.xor k h⟩
instance {w : World} [T : TCom w] (o : Obj) : TCom (w.alloc o) := ⟨fun k h => by rw [World.cell?_alloc_lt _ _ _ (cell_lt (T.com k h))]; exact T.com k h⟩

def wantI : List Int := [0, 0, 0, 0, 1, 1, 0, 2, 2, 0, 2, 2, 0, 1, 1, 1, 1, 0, 2, 1, 2, 2, 1, 2, 0, 2, 2, 2, 1, 2, 2, 2, 2, 2, 2, 2, 0, 2, 2, 2, 1, 2, 2, 2, 2, 2, 2, 2]
theorem want_get (w : World) (t : TypeId) (k : Nat) (h : k < 48) : (w.alloc (.cells (wantI.map (Value.int .u8)).toArray t)).cell? ⟨w.heap.size, k, none⟩ = some (.int .u8 (tabI wantI k)) := by
  have hl : wantI.length = 48 := rfl
  have e : (w.alloc (.cells (wantI.map (Value.int .u8)).toArray t)).heap[w.heap.size]? = some (.cells (wantI.map (Value.int .u8)).toArray t) := by show (w.heap.push _)[w.heap.size]? = _; simp
  unfold World.cell?
  rw [e]
  simp [tabI, hl, h]

set_option maxRecDepth 100000 in
set_option maxHeartbeats 4000000 in
theorem walk_BitExamples (w : World) [TAnd w] [TOr w] [TXor w] [TBuf w] [TCom w] [TNot w] [TChr w] : Calls Tryd.prog 5 #[] w fun e w' => e = .returned (.bool true) ∧ Below w.heap.size w w' := by
  go_enter Tryd.func5, Tryd.ntmps5
  go_wp2_with (first
    | (go_at_call 34; refine (awake_any _).mono ?_; rintro e w' ⟨rfl, m, rfl⟩)
    | (with_reducible refine store_new rfl 37 (.tmp 1) (.tmp 40) rfl rfl 37 _ (wantI.map (Value.int .u8)).toArray rfl rfl (by kernel_rfl) (by kernel_rfl) (by kernel_rfl) ?_))
  rename_i m _ _
  have hc := want_get (w.drewN m) 37
  have hB : Below w.heap.size w ((w.drewN m).alloc (.cells (wantI.map (Value.int .u8)).toArray 37)) := (below_drewN (Below.refl _ _) m).alloc (Nat.le_refl _) _
  have hsz : (w.drewN m).heap.size = w.heap.size := rfl
  haveI iA : TAnd ((w.drewN m).alloc (.cells (wantI.map (Value.int .u8)).toArray 37)) := inferInstance
  haveI iO : TOr ((w.drewN m).alloc (.cells (wantI.map (Value.int .u8)).toArray 37)) := inferInstance
  haveI iX : TXor ((w.drewN m).alloc (.cells (wantI.map (Value.int .u8)).toArray 37)) := inferInstance
  haveI iB : TBuf ((w.drewN m).alloc (.cells (wantI.map (Value.int .u8)).toArray 37)) := inferInstance
  haveI iN : TNot ((w.drewN m).alloc (.cells (wantI.map (Value.int .u8)).toArray 37)) := inferInstance
  haveI iC : TChr ((w.drewN m).alloc (.cells (wantI.map (Value.int .u8)).toArray 37)) := inferInstance
  generalize (w.drewN m).alloc (.cells (wantI.map (Value.int .u8)).toArray 37) = w2 at *
  rw [hsz] at *
  have HC := Lib.hid hc
  have HB := Lib.hid hB
  clear hc hB
  go_loopw [2] (fun i wr => (i = .int .i64 0 ∨ i = .int .i64 1 ∨ i = .int .i64 2 ∨ i = .int .i64 3 ∨ i = .int .i64 4) ∧ ∃ n, wr = w2.drewN n) (fun i _ => 4 - (intOf i).toNat)
  case atStart => exact ⟨Or.inl rfl, 0, rfl⟩
  case round =>
    obtain ⟨hi, n, rfl⟩ := hrel
    rcases hi with rfl | rfl | rfl | rfl | rfl
    · go_wp2
      go_loopw [3] (fun i wr => (i = .int .i64 0 ∨ i = .int .i64 1 ∨ i = .int .i64 2 ∨ i = .int .i64 3 ∨ i = .int .i64 4) ∧ ∃ n, wr = w2.drewN n) (fun i _ => 4 - (intOf i).toNat)
      case atStart => exact ⟨Or.inl rfl, _, rfl⟩
      case round =>
        obtain ⟨hi, n, rfl⟩ := hrel
        rcases hi with rfl | rfl | rfl | rfl | rfl
        · have c0 := HC.out 0 (by decide)
          have c1 := HC.out 1 (by decide)
          have c2 := HC.out 2 (by decide)
          rw [show tabI wantI ((0 : Nat) : Int) = 0 from by decide] at c0
          rw [show tabI wantI ((1 : Nat) : Int) = 0 from by decide] at c1
          rw [show tabI wantI ((2 : Nat) : Int) = 0 from by decide] at c2
          have e0 : andI 0 0 = 0 := by decide
          have e1 : orI 0 0 = 0 := by decide
          have e2 : xorI 0 0 = 0 := by decide
          go_wp2
          go_quiet ((first | (go_at_call 20; exact quiet_more (and_any _ _ _)) | (go_at_call 22; exact quiet_more (or_any _ _ _)) | (go_at_call 24; exact quiet_more (xor_any _ _ _))))
          go_wp2
          go_roundw
          case rel => exact ⟨Or.inr (Or.inl rfl), _, rfl⟩
          case measure => simp [intOf]
        · have c0 := HC.out 3 (by decide)
          have c1 := HC.out 4 (by decide)
          have c2 := HC.out 5 (by decide)
          rw [show tabI wantI ((3 : Nat) : Int) = 0 from by decide] at c0
          rw [show tabI wantI ((4 : Nat) : Int) = 1 from by decide] at c1
          rw [show tabI wantI ((5 : Nat) : Int) = 1 from by decide] at c2
          have e0 : andI 0 1 = 0 := by decide
          have e1 : orI 0 1 = 1 := by decide
          have e2 : xorI 0 1 = 1 := by decide
          go_wp2
          go_quiet ((first | (go_at_call 20; exact quiet_more (and_any _ _ _)) | (go_at_call 22; exact quiet_more (or_any _ _ _)) | (go_at_call 24; exact quiet_more (xor_any _ _ _))))
          go_wp2
          go_roundw
          case rel => exact ⟨Or.inr (Or.inr (Or.inl rfl)), _, rfl⟩
          case measure => simp [intOf]
        · have c0 := HC.out 6 (by decide)
          have c1 := HC.out 7 (by decide)
          have c2 := HC.out 8 (by decide)
          rw [show tabI wantI ((6 : Nat) : Int) = 0 from by decide] at c0
          rw [show tabI wantI ((7 : Nat) : Int) = 2 from by decide] at c1
          rw [show tabI wantI ((8 : Nat) : Int) = 2 from by decide] at c2
          have e0 : andI 0 2 = 0 := by decide
          have e1 : orI 0 2 = 2 := by decide
          have e2 : xorI 0 2 = 2 := by decide
          go_wp2
          go_quiet ((first | (go_at_call 20; exact quiet_more (and_any _ _ _)) | (go_at_call 22; exact quiet_more (or_any _ _ _)) | (go_at_call 24; exact quiet_more (xor_any _ _ _))))
          go_wp2
          go_roundw
          case rel => exact ⟨Or.inr (Or.inr (Or.inr (Or.inl rfl))), _, rfl⟩
          case measure => simp [intOf]
        · have c0 := HC.out 9 (by decide)
          have c1 := HC.out 10 (by decide)
          have c2 := HC.out 11 (by decide)
          rw [show tabI wantI ((9 : Nat) : Int) = 0 from by decide] at c0
          rw [show tabI wantI ((10 : Nat) : Int) = 2 from by decide] at c1
          rw [show tabI wantI ((11 : Nat) : Int) = 2 from by decide] at c2
          have e0 : andI 0 3 = 0 := by decide
          have e1 : orI 0 3 = 2 := by decide
          have e2 : xorI 0 3 = 2 := by decide
          go_wp2
          go_quiet ((first | (go_at_call 20; exact quiet_more (and_any _ _ _)) | (go_at_call 22; exact quiet_more (or_any _ _ _)) | (go_at_call 24; exact quiet_more (xor_any _ _ _))))
          go_wp2
          go_roundw
          case rel => exact ⟨Or.inr (Or.inr (Or.inr (Or.inr (rfl)))), _, rfl⟩
          case measure => simp [intOf]
        · go_wp2
          go_roundw
          case rel => exact ⟨Or.inr (Or.inl rfl), _, rfl⟩
          case measure => simp [intOf]
    · go_wp2
      go_loopw [3] (fun i wr => (i = .int .i64 0 ∨ i = .int .i64 1 ∨ i = .int .i64 2 ∨ i = .int .i64 3 ∨ i = .int .i64 4) ∧ ∃ n, wr = w2.drewN n) (fun i _ => 4 - (intOf i).toNat)
      case atStart => exact ⟨Or.inl rfl, _, rfl⟩
      case round =>
        obtain ⟨hi, n, rfl⟩ := hrel
        rcases hi with rfl | rfl | rfl | rfl | rfl
        · have c0 := HC.out 12 (by decide)
          have c1 := HC.out 13 (by decide)
          have c2 := HC.out 14 (by decide)
          rw [show tabI wantI ((12 : Nat) : Int) = 0 from by decide] at c0
          rw [show tabI wantI ((13 : Nat) : Int) = 1 from by decide] at c1
          rw [show tabI wantI ((14 : Nat) : Int) = 1 from by decide] at c2
          have e0 : andI 1 0 = 0 := by decide
          have e1 : orI 1 0 = 1 := by decide
          have e2 : xorI 1 0 = 1 := by decide
          go_wp2
          go_quiet ((first | (go_at_call 20; exact quiet_more (and_any _ _ _)) | (go_at_call 22; exact quiet_more (or_any _ _ _)) | (go_at_call 24; exact quiet_more (xor_any _ _ _))))
          go_wp2
          go_roundw
          case rel => exact ⟨Or.inr (Or.inl rfl), _, rfl⟩
          case measure => simp [intOf]
        · have c0 := HC.out 15 (by decide)
          have c1 := HC.out 16 (by decide)
          have c2 := HC.out 17 (by decide)
          rw [show tabI wantI ((15 : Nat) : Int) = 1 from by decide] at c0
          rw [show tabI wantI ((16 : Nat) : Int) = 1 from by decide] at c1
          rw [show tabI wantI ((17 : Nat) : Int) = 0 from by decide] at c2
          have e0 : andI 1 1 = 1 := by decide
          have e1 : orI 1 1 = 1 := by decide
          have e2 : xorI 1 1 = 0 := by decide
          go_wp2
          go_quiet ((first | (go_at_call 20; exact quiet_more (and_any _ _ _)) | (go_at_call 22; exact quiet_more (or_any _ _ _)) | (go_at_call 24; exact quiet_more (xor_any _ _ _))))
          go_wp2
          go_roundw
          case rel => exact ⟨Or.inr (Or.inr (Or.inl rfl)), _, rfl⟩
          case measure => simp [intOf]
        · have c0 := HC.out 18 (by decide)
          have c1 := HC.out 19 (by decide)
          have c2 := HC.out 20 (by decide)
          rw [show tabI wantI ((18 : Nat) : Int) = 2 from by decide] at c0
          rw [show tabI wantI ((19 : Nat) : Int) = 1 from by decide] at c1
          rw [show tabI wantI ((20 : Nat) : Int) = 2 from by decide] at c2
          have e0 : andI 1 2 = 2 := by decide
          have e1 : orI 1 2 = 1 := by decide
          have e2 : xorI 1 2 = 2 := by decide
          go_wp2
          go_quiet ((first | (go_at_call 20; exact quiet_more (and_any _ _ _)) | (go_at_call 22; exact quiet_more (or_any _ _ _)) | (go_at_call 24; exact quiet_more (xor_any _ _ _))))
          go_wp2
          go_roundw
          case rel => exact ⟨Or.inr (Or.inr (Or.inr (Or.inl rfl))), _, rfl⟩
          case measure => simp [intOf]
        · have c0 := HC.out 21 (by decide)
          have c1 := HC.out 22 (by decide)
          have c2 := HC.out 23 (by decide)
          rw [show tabI wantI ((21 : Nat) : Int) = 2 from by decide] at c0
          rw [show tabI wantI ((22 : Nat) : Int) = 1 from by decide] at c1
          rw [show tabI wantI ((23 : Nat) : Int) = 2 from by decide] at c2
          have e0 : andI 1 3 = 2 := by decide
          have e1 : orI 1 3 = 1 := by decide
          have e2 : xorI 1 3 = 2 := by decide
          go_wp2
          go_quiet ((first | (go_at_call 20; exact quiet_more (and_any _ _ _)) | (go_at_call 22; exact quiet_more (or_any _ _ _)) | (go_at_call 24; exact quiet_more (xor_any _ _ _))))
          go_wp2
          go_roundw
          case rel => exact ⟨Or.inr (Or.inr (Or.inr (Or.inr (rfl)))), _, rfl⟩
          case measure => simp [intOf]
        · go_wp2
          go_roundw
          case rel => exact ⟨Or.inr (Or.inr (Or.inl rfl)), _, rfl⟩
          case measure => simp [intOf]
    · go_wp2
      go_loopw [3] (fun i wr => (i = .int .i64 0 ∨ i = .int .i64 1 ∨ i = .int .i64 2 ∨ i = .int .i64 3 ∨ i = .int .i64 4) ∧ ∃ n, wr = w2.drewN n) (fun i _ => 4 - (intOf i).toNat)
      case atStart => exact ⟨Or.inl rfl, _, rfl⟩
      case round =>
        obtain ⟨hi, n, rfl⟩ := hrel
        rcases hi with rfl | rfl | rfl | rfl | rfl
        · have c0 := HC.out 24 (by decide)
          have c1 := HC.out 25 (by decide)
          have c2 := HC.out 26 (by decide)
          rw [show tabI wantI ((24 : Nat) : Int) = 0 from by decide] at c0
          rw [show tabI wantI ((25 : Nat) : Int) = 2 from by decide] at c1
          rw [show tabI wantI ((26 : Nat) : Int) = 2 from by decide] at c2
          have e0 : andI 2 0 = 0 := by decide
          have e1 : orI 2 0 = 2 := by decide
          have e2 : xorI 2 0 = 2 := by decide
          go_wp2
          go_quiet ((first | (go_at_call 20; exact quiet_more (and_any _ _ _)) | (go_at_call 22; exact quiet_more (or_any _ _ _)) | (go_at_call 24; exact quiet_more (xor_any _ _ _))))
          go_wp2
          go_roundw
          case rel => exact ⟨Or.inr (Or.inl rfl), _, rfl⟩
          case measure => simp [intOf]
        · have c0 := HC.out 27 (by decide)
          have c1 := HC.out 28 (by decide)
          have c2 := HC.out 29 (by decide)
          rw [show tabI wantI ((27 : Nat) : Int) = 2 from by decide] at c0
          rw [show tabI wantI ((28 : Nat) : Int) = 1 from by decide] at c1
          rw [show tabI wantI ((29 : Nat) : Int) = 2 from by decide] at c2
          have e0 : andI 2 1 = 2 := by decide
          have e1 : orI 2 1 = 1 := by decide
          have e2 : xorI 2 1 = 2 := by decide
          go_wp2
          go_quiet ((first | (go_at_call 20; exact quiet_more (and_any _ _ _)) | (go_at_call 22; exact quiet_more (or_any _ _ _)) | (go_at_call 24; exact quiet_more (xor_any _ _ _))))
          go_wp2
          go_roundw
          case rel => exact ⟨Or.inr (Or.inr (Or.inl rfl)), _, rfl⟩
          case measure => simp [intOf]
        · have c0 := HC.out 30 (by decide)
          have c1 := HC.out 31 (by decide)
          have c2 := HC.out 32 (by decide)
          rw [show tabI wantI ((30 : Nat) : Int) = 2 from by decide] at c0
          rw [show tabI wantI ((31 : Nat) : Int) = 2 from by decide] at c1
          rw [show tabI wantI ((32 : Nat) : Int) = 2 from by decide] at c2
          have e0 : andI 2 2 = 2 := by decide
          have e1 : orI 2 2 = 2 := by decide
          have e2 : xorI 2 2 = 2 := by decide
          go_wp2
          go_quiet ((first | (go_at_call 20; exact quiet_more (and_any _ _ _)) | (go_at_call 22; exact quiet_more (or_any _ _ _)) | (go_at_call 24; exact quiet_more (xor_any _ _ _))))
          go_wp2
          go_roundw
          case rel => exact ⟨Or.inr (Or.inr (Or.inr (Or.inl rfl))), _, rfl⟩
          case measure => simp [intOf]
        · have c0 := HC.out 33 (by decide)
          have c1 := HC.out 34 (by decide)
          have c2 := HC.out 35 (by decide)
          rw [show tabI wantI ((33 : Nat) : Int) = 2 from by decide] at c0
          rw [show tabI wantI ((34 : Nat) : Int) = 2 from by decide] at c1
          rw [show tabI wantI ((35 : Nat) : Int) = 2 from by decide] at c2
          have e0 : andI 2 3 = 2 := by decide
          have e1 : orI 2 3 = 2 := by decide
          have e2 : xorI 2 3 = 2 := by decide
          go_wp2
          go_quiet ((first | (go_at_call 20; exact quiet_more (and_any _ _ _)) | (go_at_call 22; exact quiet_more (or_any _ _ _)) | (go_at_call 24; exact quiet_more (xor_any _ _ _))))
          go_wp2
          go_roundw
          case rel => exact ⟨Or.inr (Or.inr (Or.inr (Or.inr (rfl)))), _, rfl⟩
          case measure => simp [intOf]
        · go_wp2
          go_roundw
          case rel => exact ⟨Or.inr (Or.inr (Or.inr (Or.inl rfl))), _, rfl⟩
          case measure => simp [intOf]
    · go_wp2
      go_loopw [3] (fun i wr => (i = .int .i64 0 ∨ i = .int .i64 1 ∨ i = .int .i64 2 ∨ i = .int .i64 3 ∨ i = .int .i64 4) ∧ ∃ n, wr = w2.drewN n) (fun i _ => 4 - (intOf i).toNat)
      case atStart => exact ⟨Or.inl rfl, _, rfl⟩
      case round =>
        obtain ⟨hi, n, rfl⟩ := hrel
        rcases hi with rfl | rfl | rfl | rfl | rfl
        · have c0 := HC.out 36 (by decide)
          have c1 := HC.out 37 (by decide)
          have c2 := HC.out 38 (by decide)
          rw [show tabI wantI ((36 : Nat) : Int) = 0 from by decide] at c0
          rw [show tabI wantI ((37 : Nat) : Int) = 2 from by decide] at c1
          rw [show tabI wantI ((38 : Nat) : Int) = 2 from by decide] at c2
          have e0 : andI 3 0 = 0 := by decide
          have e1 : orI 3 0 = 2 := by decide
          have e2 : xorI 3 0 = 2 := by decide
          go_wp2
          go_quiet ((first | (go_at_call 20; exact quiet_more (and_any _ _ _)) | (go_at_call 22; exact quiet_more (or_any _ _ _)) | (go_at_call 24; exact quiet_more (xor_any _ _ _))))
          go_wp2
          go_roundw
          case rel => exact ⟨Or.inr (Or.inl rfl), _, rfl⟩
          case measure => simp [intOf]
        · have c0 := HC.out 39 (by decide)
          have c1 := HC.out 40 (by decide)
          have c2 := HC.out 41 (by decide)
          rw [show tabI wantI ((39 : Nat) : Int) = 2 from by decide] at c0
          rw [show tabI wantI ((40 : Nat) : Int) = 1 from by decide] at c1
          rw [show tabI wantI ((41 : Nat) : Int) = 2 from by decide] at c2
          have e0 : andI 3 1 = 2 := by decide
          have e1 : orI 3 1 = 1 := by decide
          have e2 : xorI 3 1 = 2 := by decide
          go_wp2
          go_quiet ((first | (go_at_call 20; exact quiet_more (and_any _ _ _)) | (go_at_call 22; exact quiet_more (or_any _ _ _)) | (go_at_call 24; exact quiet_more (xor_any _ _ _))))
          go_wp2
          go_roundw
          case rel => exact ⟨Or.inr (Or.inr (Or.inl rfl)), _, rfl⟩
          case measure => simp [intOf]
        · have c0 := HC.out 42 (by decide)
          have c1 := HC.out 43 (by decide)
          have c2 := HC.out 44 (by decide)
          rw [show tabI wantI ((42 : Nat) : Int) = 2 from by decide] at c0
          rw [show tabI wantI ((43 : Nat) : Int) = 2 from by decide] at c1
          rw [show tabI wantI ((44 : Nat) : Int) = 2 from by decide] at c2
          have e0 : andI 3 2 = 2 := by decide
          have e1 : orI 3 2 = 2 := by decide
          have e2 : xorI 3 2 = 2 := by decide
          go_wp2
          go_quiet ((first | (go_at_call 20; exact quiet_more (and_any _ _ _)) | (go_at_call 22; exact quiet_more (or_any _ _ _)) | (go_at_call 24; exact quiet_more (xor_any _ _ _))))
          go_wp2
          go_roundw
          case rel => exact ⟨Or.inr (Or.inr (Or.inr (Or.inl rfl))), _, rfl⟩
          case measure => simp [intOf]
        · have c0 := HC.out 45 (by decide)
          have c1 := HC.out 46 (by decide)
          have c2 := HC.out 47 (by decide)
          rw [show tabI wantI ((45 : Nat) : Int) = 2 from by decide] at c0
          rw [show tabI wantI ((46 : Nat) : Int) = 2 from by decide] at c1
          rw [show tabI wantI ((47 : Nat) : Int) = 2 from by decide] at c2
          have e0 : andI 3 3 = 2 := by decide
          have e1 : orI 3 3 = 2 := by decide
          have e2 : xorI 3 3 = 2 := by decide
          go_wp2
          go_quiet ((first | (go_at_call 20; exact quiet_more (and_any _ _ _)) | (go_at_call 22; exact quiet_more (or_any _ _ _)) | (go_at_call 24; exact quiet_more (xor_any _ _ _))))
          go_wp2
          go_roundw
          case rel => exact ⟨Or.inr (Or.inr (Or.inr (Or.inr (rfl)))), _, rfl⟩
          case measure => simp [intOf]
        · go_wp2
          go_roundw
          case rel => exact ⟨Or.inr (Or.inr (Or.inr (Or.inr (rfl)))), _, rfl⟩
          case measure => simp [intOf]
    · have e0 : validB 4 = false := by decide
      have e1 : knownB 255 = false := by decide
      have e2 : andI 9 1 = 2 := by decide
      have e3 : orI 9 1 = 1 := by decide
      have e4 : sameB 9 2 = true := by decide
      have e5 : sameB 2 3 = false := by decide
      have e6 : leqB 9 0 = true := by decide
      have e7 : leqB 0 2 = false := by decide
      have e8 : chrI 9 = 120 := by decide
      have e9 : chrI 3 = 122 := by decide
      have e10 : parI 50 = 0 := by decide
      have e11 : parB 50 = false := by decide
      have e12 : parI 88 = 2 := by decide
      have e13 : parB 88 = true := by decide
      have e14 : bufI 3 = 2 := by decide
      have e15 : notI 3 = 2 := by decide
      go_wp2_with (first
        | (go_at_call 20; refine (and_any _ _ _).mono ?_; rintro e w' ⟨rfl, m, rfl⟩)
        | (go_at_call 22; refine (or_any _ _ _).mono ?_; rintro e w' ⟨rfl, m, rfl⟩)
        | (go_at_call 11; refine (valid_any _ _).mono ?_; rintro e w' ⟨rfl, m, rfl⟩)
        | (go_at_call 12; refine (known_any _ _).mono ?_; rintro e w' ⟨rfl, m, rfl⟩)
        | (go_at_call 28; refine (same_any _ _ _).mono ?_; rintro e w' ⟨rfl, m, rfl⟩)
        | (go_at_call 30; refine (leq_any _ _ _).mono ?_; rintro e w' ⟨rfl, m, rfl⟩)
        | (go_at_call 18; refine (chr_any _ _).mono ?_; rintro e w' ⟨rfl, m, rfl⟩)
        | (go_at_call 35; refine (parse_any _ _).mono ?_; rintro e w' ⟨rfl, m, rfl⟩)
        | (go_at_call 16; refine (buf_any _ _).mono ?_; rintro e w' ⟨rfl, m, rfl⟩)
        | (go_at_call 14; refine (not_any _ _).mono ?_; rintro e w' ⟨rfl, m, rfl⟩))
      go_ret
      exact ⟨rfl, HB.out.trans (by repeat (first | exact Below.refl _ _ | apply below_drewN))⟩
end Go.Proofs.YtkcjgchieieffaaDoor
