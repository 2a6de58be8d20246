/-
  A call through a function value inside a region whose order is open. No conditions.
  Contracts of the program's number, fromNumber, unknown. Widths up to a million.
  Contracts of the program's bitwise operators. No conditions.
  Contracts of the program's Known, Clone, WithSign, reduce, Truth, and the operators of one bit over them. No conditions.
  Contracts of the program's reduce, Truth and the operators of one bit over them. No conditions.
  Contracts of the program's Truth, Not and the operators of one bit. No conditions.
-/
import Derived.Test.YtognpmggfplekaaGreatDoorPcQd
import Derived.Test.YtognpmggfplekaaGreatDoorPcQe
import Derived.WalkSpells

set_option maxRecDepth 100000
namespace Go.Proofs.YtognpmggfplekaaGreatDoor
open Go Go.RowKit
theorem wp_callv {P : Program} {Q : Exit → Act → World → Prop} {o : Oper} {a : Act} {w : World} {K : Act → World → Prop} {F : FuncId} {lb : Array Value} {x : Operand} {xs : Array Operand} {ats : Array TypeId} {args : Array Value} (ho : o.op = .call { callee := .value x, args := xs, argTypes := ats })
    (hv : a.eval x = .func (.func F) #[] lb) (hin : ∀ args u, (callFunc F args).run P u = .ok (.enter F args) u) (hx : xs.map a.eval = args) (h : Calls P F (args ++ lb) w fun e w' => ∃ v, e = .returned v ∧ K (a.put o.dst v) w') : o.wp P a w K Q := by
  have e : (execOp a.eval o).run P w = .ok (.enter F (args ++ lb)) w := by
    obtain ⟨dst, op, ty, pos, after, guard⟩ := o
    simp only at ho
    subst ho
    rw [← hin]
    simp [execOp, resolve, invoke, hv, hx, Deferred.ofValue]
  unfold Oper.wp
  rw [e, Oper.upon_enter]
  refine h.mono ?_
  rintro e w' ⟨v, rfl, hk⟩
  exact hk
def isNum (n x : Nat) : Value → World → Prop := fun v u => ∃ X c, v = .slice X n c ∧ B.Nw u 0 X n c x
instance (n x : Nat) : StV (isNum n x) := ⟨fun _ _ _ hb ⟨A, c, h1, h2⟩ => ⟨A, c, h1, B.Nw.step h2 hb⟩⟩
theorem nw_row {w : World} {g n B0 c x : Nat} {A X : Option Addr} {a b : Nat} {s : Bool} {cs : Array Value} (h : B.Nw w B0 A n c x) (O : Own w g 24 #[.slice X a b, .bool s]) : B.Nw (w.setRow g cs) B0 A n c x :=
  ⟨h.1, h.2.1, h.2.2.imp id fun ⟨g', cap, cur, h1, h2, h3, h4⟩ => ⟨g', cap, cur, h1, h2, Own.rowFar h3 (fun e => by
    subst e
    have h5 : w.heap[g]? = _ := h3
    have h6 : w.heap[g]? = _ := O
    rw [h5] at h6
    simp at h6), h4⟩⟩
instance (g n x : Nat) : SsV g (isNum n x) := ⟨fun _ _ _ _ _ _ _ O ⟨A, c, h1, h2⟩ => ⟨A, c, h1, nw_row h2 O⟩⟩
def ownT (g : Nat) (T : TypeId) (cs : Array Value) : World → Prop := fun u => Own u g T cs
instance (g : Nat) (T : TypeId) (cs : Array Value) : Stb (ownT g T cs) := ⟨fun _ _ hb h => Own.step h hb⟩
instance (g h : Nat) (T : TypeId) (cs : Array Value) [A : Apart g h] : Sst g (ownT h T cs) := ⟨fun _ _ _ _ _ _ _ O => Own.rowFar O A.ne⟩
end Go.Proofs.YtognpmggfplekaaGreatDoor

namespace Go.Proofs.YtognpmggfplekaaGreatDoor
open Go Go.RowKit

theorem num_lt' {l : List Int} {n : Nat} (h : l.length = n) : num l < 2 ^ n := h ▸ num_lt l
theorem num_next {l : List Int} {n k : Nat} (_h : l.length = n) (_hk : k < n) : setb (num l % 2 ^ k) k (nth l k == 1) = num l % 2 ^ (k + 1) := by
  rw [setb_new (mod_lt' _ _), mod_step, num_bit]
set_option maxHeartbeats 1000000 in
theorem number_any (A : Option Addr) (n c : Nat) (s : Bool) (l : List Int) (w : World) (h : Rb w A n l) (hn : n ≤ 1000000) :
    Calls Tryz.prog 112 #[.agg #[.slice A n c, .bool s]] w (B.RetN w n (num l)) := by
  have hl := h.len
  have hmk := fun W => B.run_makeB n hn W
  have O0 := ((Own.at1 w 24 #[.slice A n c, .bool s] (g := w.heap.size) (by simp)).alloc (.cells (B.ba n 0) 4))
  have O1 := (Own.at1 (w.alloc (.cells #[.slice A n c, .bool s] 24)) 4 (B.ba n 0) (g := w.heap.size + 1) (by simp))
  have BB := (below_new (below_new (Below.refl w.heap.size w) (.cells #[.slice A n c, .bool s] 24)) (.cells (B.ba n 0) 4))
  replace h := Lib.hid h
  go_enter Tryz.func112, Tryz.ntmps112
  go_wp2
  go_loopw [13] (fun i wr => ∃ k : Nat, k ≤ n ∧ i = .int .i64 k ∧ Hid (Own wr (w.heap.size + 1) 4 (B.ba n (num l % 2 ^ k))) ∧ Hid (Below w.heap.size w wr)) (fun i _ => n - (intOf i).toNat)
  case atStart => exact ⟨0, Nat.zero_le _, rfl, Lib.hid (by simpa [Nat.mod_one] using O1), Lib.hid BB⟩
  case round =>
    obtain ⟨k, hk, rfl, Q, HB⟩ := hrel
    clear O0 O1 BB hmk
    by_cases hlt : k < n
    · obtain ⟨b, o, rfl, hb, hc⟩ := (h.out.step HB.out).at_ hlt
      have q0 := (Q.out.cell k).trans (B.ba_get _ _ _ hlt)
      have f0 := Q.out.free k
      have hnext := Lib.hid (num_next hl hlt)
      replace hl := Lib.hid hl
      generalize hy : nth l k = y at hc hnext
      generalize hz : (num l % 2 ^ k).testBit k = z at q0
      clear hy hz
      cases hv : (y == 1)
      all_goals
        rw [hv] at hnext
        go_wp2
        go_roundw
        case rel =>
          refine ⟨k + 1, by omega, by go_num, Lib.hid ?_, Lib.hid (below_set HB.out (by simp) _)⟩
          · rw [← hnext.out, ← B.ba_set _ hlt]
            first | exact Q.out.put k _ | (simpa [hv] using Q.out.put k _)
        case measure => simp [intOf]; omega
    · obtain rfl : k = n := by omega
      have Q1 := Q.out
      have hlt2 := num_lt' hl
      rw [Nat.mod_eq_of_lt hlt2] at Q1
      clear Q hl
      go_wp2
      go_ret
      exact ⟨_, _, rfl, B.Nw.of_own Q1 hlt2 (by simp) (by unfold maxLen; omega), HB.out⟩

theorem fromN1_any (g : Nat) (A : Option Addr) (n c x i : Nat) (w : World) (O : Own w g 90 #[.slice A n c]) (h : B.Rd w A n x) (hi : i < n) (_hn : n ≤ 1000000) :
    Calls Tryz.prog 196 #[.int .i64 i, .pointer (some ⟨g, 0, none⟩)] w fun e w' => e = .returned (.int .u8 (fromI (x.testBit i))) ∧ Below w.heap.size w w' := by
  obtain ⟨b, o, rfl, hb, hc⟩ := h.at_ hi
  have q0 := O.cell 0
  clear O h
  generalize x.testBit i = z at *
  go_enter Tryz.func196, Tryz.ntmps196
  go_wp2_with (go_at_call 92; refine (from_any _ _).mono ?_; rintro e w' ⟨rfl, m, rfl⟩)
  go_ret
  exact ⟨rfl, below_drewN (Below.refl _ _) m⟩
theorem ent_fromN1 : Ent 196 := enters_of Tryz.func196 (by kernel_rfl) rfl
set_option maxHeartbeats 1000000 in
theorem fromNumber_any (A : Option Addr) (n c x : Nat) (s : Bool) (w : World) (h : B.Rd w A n x) (hn : n ≤ 1000000) :
    Calls Tryz.prog 130 #[.slice A n c, .bool s] w (RetV w ⟨frN n x, s⟩) := by
  have O0 := ((Own.at1 w 90 #[.slice A n c] (g := w.heap.size) (by simp)).alloc (.cells #[.slice none 0 0, .bool false] 24))
  have O1 := (Own.at1 (w.alloc (.cells #[.slice A n c] 90)) 24 #[.slice none 0 0, .bool false] (g := w.heap.size + 1) (by simp))
  have BB := (below_new (below_new (Below.refl w.heap.size w) (.cells #[.slice A n c] 90)) (.cells #[.slice none 0 0, .bool false] 24))
  have hr := B.Rd.step h BB
  have HB := Lib.hid (build_any n s 196 #[.pointer (some ⟨w.heap.size, 0, none⟩)] (fun i => fromI (x.testBit i)) _ hn ent_fromN1 (fun W i hi hb => fromN1_any w.heap.size A n c x i W (O0.step hb) (B.Rd.step hr hb) hi hn) (fun i _ => (fromI_bd _).1))
  clear h hr O0
  go_enter Tryz.func130, Tryz.ntmps130
  go_wp2_with (go_at_call 138; refine HB.out.mono ?_; rintro e w1 ⟨A1, c1, rfl, hN, hb1⟩; have B1 := below_step BB hb1; have Q1 := O1.step hb1; have q0 := Q1.cell 0; have q1 := Q1.cell 1; have f0 := Q1.free 0; have f1 := Q1.free 1)
  exact ret_vec Tryz.results130 rfl rfl (Q1.put2 _ _) (RetV.mk' (v := ⟨frN n x, s⟩) ((hN.far2 (by simp) _ _).mono (by simp; omega)) (below_set2 B1 (by simp) _ _))
theorem unk1_any (i : Int) (w : World) : Calls Tryz.prog 197 #[.int .i64 i] w fun e w' => e = .returned (.int .u8 2) ∧ Below w.heap.size w w' := by
  go_enter Tryz.func197, Tryz.ntmps197
  go_wp2
  go_ret
  exact ⟨rfl, Below.refl _ _⟩
theorem ent_unk1 : Ent 197 := enters_of Tryz.func197 (by kernel_rfl) rfl
theorem unknown_any (n : Nat) (s : Bool) (w : World) (hn : n ≤ 1000000) :
    Calls Tryz.prog 133 #[.int .i64 n, .bool s] w (RetV w (allV 2 n s)) := by
  have O0 := (Own.at1 w 24 #[.slice none 0 0, .bool false] (g := w.heap.size) (by simp))
  have BB := (below_new (Below.refl w.heap.size w) (.cells #[.slice none 0 0, .bool false] 24))
  have HB := Lib.hid (build_any n s 197 #[] (fun _ => 2) (w.alloc (.cells #[.slice none 0 0, .bool false] 24)) hn ent_unk1 (fun W i _ _ => unk1_any i W) (fun i _ => by decide))
  go_enter Tryz.func133, Tryz.ntmps133
  go_wp2_with (go_at_call 138; refine HB.out.mono ?_; rintro e w1 ⟨A1, c1, rfl, hN, hb1⟩; have B1 := below_step BB hb1; have Q1 := O0.step hb1; have q0 := Q1.cell 0; have q1 := Q1.cell 1; have f0 := Q1.free 0; have f1 := Q1.free 1)
  exact ret_vec Tryz.results133 rfl rfl (Q1.put2 _ _) (RetV.mk' (v := allV 2 n s) ((hN.far2 (by simp) _ _).mono (by simp)) (below_set2 B1 (by simp) _ _))
end Go.Proofs.YtognpmggfplekaaGreatDoor

namespace Go.Proofs.YtognpmggfplekaaGreatDoor
open Go Go.RowKit

set_option maxHeartbeats 2000000 in
theorem bw1_any (g : Nat) (lb : Array Value) (f : Int → Int → Int) (gf ga gb : Nat) (A B : Option Addr) (n c m d i : Nat) (s t : Bool) (l k : List Int) (w w0 : World) (eg : Ent g) (hf : Fn2 w0 g lb f) (h0 : Below w0.heap.size w0 w)
    (OF : Own w gf 82 #[.func (.func g) #[] lb]) (OA : Own w ga 24 #[.slice A n c, .bool s]) (OB : Own w gb 24 #[.slice B m d, .bool t])
    (h : Rb w A n l) (h' : Rb w B m k) (hi : i < n) (hj : i < m) (_hn : n ≤ 1000000) (_hm : m ≤ 1000000) :
    Calls Tryz.prog 200 #[.int .i64 i, .pointer (some ⟨gf, 0, none⟩), .pointer (some ⟨ga, 0, none⟩), .pointer (some ⟨gb, 0, none⟩)] w fun e w' => e = .returned (.int .u8 (f (nth l i) (nth k i))) ∧ Below w.heap.size w w' := by
  unfold Ent at eg
  have HC := Lib.hid (hf w.drew (nth l i) (nth k i) (below_drew h0) (h.nn.nth i) (h'.nn.nth i))
  obtain ⟨ba, oa, rfl, hba, hca⟩ := h.at_ hi
  obtain ⟨bb, ob, rfl, hbb, hcb⟩ := h'.at_ hj
  have q0 := OF.cell 0
  have q1 := OA.cell 0
  have q2 := OB.cell 0
  simp only [List.getElem?_toArray, List.getElem?_cons_zero] at q0 q1 q2
  clear h h' hf h0 OF OA OB
  generalize nth l i = y at *
  generalize nth k i = z at *
  have i0 : (0 : Int) ≤ i := by omega
  have i1 : (i : Int) < n := by omega
  have i2 : (i : Int) < m := by omega
  go_enter Tryz.func200, Tryz.ntmps200
  go_wp2
  go_region_held3 (fun u => u.cell? ⟨gf, 0, none⟩ = some (.func (.func g) #[] lb) ∧ u.cell? ⟨ga, 0, none⟩ = some (.slice (some ⟨ba, oa, none⟩) n c) ∧ u.cell? ⟨gb, 0, none⟩ = some (.slice (some ⟨bb, ob, none⟩) m d) ∧ u.cell? ⟨ba, oa + i, none⟩ = some (.int .u8 y) ∧ u.cell? ⟨bb, ob + i, none⟩ = some (.int .u8 z)) (first | exact ⟨q0, q1, q2, hca, hcb⟩ | exact ⟨cell_step hb1 q0, cell_step hb1 q1, cell_step hb1 q2, cell_step hb1 hca, cell_step hb1 hcb⟩) ((go_at_fn g; refine HC.out.mono ?_; rintro e w1 ⟨rfl, hb1⟩))
  all_goals go_wp2
  all_goals go_ret
  all_goals exact ⟨rfl, below_of_drew hb1⟩
theorem ent_bw1 : Ent 200 := enters_of Tryz.func200 (by kernel_rfl) rfl
def RetQ (w : World) (N : Nat) (S : Bool) (x y : List Int) (e : Ending) (w' : World) : Prop := ∃ A1 c1 A2 c2, e = .returned (.tuple #[.agg #[.slice A1 N c1, .bool S], .agg #[.slice A2 N c2, .bool S]]) ∧ Nb w' w.heap.size A1 N c1 x ∧ Nb w' w.heap.size A2 N c2 y ∧ Below w.heap.size w w'
theorem RetP.retQ {w w' : World} {a b : V} {e : Ending} (h : RetP w (balL a b) (balR a b) e w') : RetQ w (balN a b) (balS a b) (balL a b).l (balR a b).l e w' := by
  obtain ⟨A1, c1, A2, c2, h1, h2, h3, h4⟩ := h
  rw [(bal_len a b).1] at h1 h2
  rw [(bal_len a b).2] at h1 h3
  exact ⟨A1, c1, A2, c2, h1, h2, h3, h4⟩
theorem balance_q (A B : Option Addr) (n m c d : Nat) (s t : Bool) (l k : List Int) (w : World) (h : Rb w A n l) (h' : Rb w B m k) :
    Calls Tryz.prog 190 #[.agg #[.slice A n c, .bool s], .agg #[.slice B m d, .bool t]] w (RetQ w (balN ⟨l, s⟩ ⟨k, t⟩) (balS ⟨l, s⟩ ⟨k, t⟩) (balL ⟨l, s⟩ ⟨k, t⟩).l (balR ⟨l, s⟩ ⟨k, t⟩).l) :=
  (balance_any A B n m c d s t l k w h h').mono fun _ _ h => h.retQ
set_option maxHeartbeats 2000000 in
theorem bitwise_any (g : Nat) (lb : Array Value) (f : Int → Int → Int) (A B : Option Addr) (n m c d : Nat) (s t : Bool) (l k : List Int) (w : World) (eg : Ent g) (hf : Fn2 w g lb f) (hnn : ∀ a b, 0 ≤ a → 0 ≤ b → 0 ≤ f a b) (h : Rb w A n l) (h' : Rb w B m k) :
    Calls Tryz.prog 143 #[.agg #[.slice A n c, .bool s], .agg #[.slice B m d, .bool t], .func (.func g) #[] lb] w (RetV w (bwV f ⟨l, s⟩ ⟨k, t⟩)) := by
  have O0 := ((((Own.at1 w 24 #[.slice A n c, .bool s] (g := w.heap.size) (by simp)).alloc (.cells #[.slice B m d, .bool t] 24)).alloc (.cells #[.func (.func g) #[] lb] 82)).alloc (.cells #[.slice none 0 0, .bool false] 24))
  have O1 := (((Own.at1 (w.alloc (.cells #[.slice A n c, .bool s] 24)) 24 #[.slice B m d, .bool t] (g := w.heap.size + 1) (by simp)).alloc (.cells #[.func (.func g) #[] lb] 82)).alloc (.cells #[.slice none 0 0, .bool false] 24))
  have O2 := ((Own.at1 ((w.alloc (.cells #[.slice A n c, .bool s] 24)).alloc (.cells #[.slice B m d, .bool t] 24)) 82 #[.func (.func g) #[] lb] (g := w.heap.size + 1 + 1) (by simp)).alloc (.cells #[.slice none 0 0, .bool false] 24))
  have O3 := (Own.at1 (((w.alloc (.cells #[.slice A n c, .bool s] 24)).alloc (.cells #[.slice B m d, .bool t] 24)).alloc (.cells #[.func (.func g) #[] lb] 82)) 24 #[.slice none 0 0, .bool false] (g := w.heap.size + 1 + 1 + 1) (by simp))
  have BB := (below_new (below_new (below_new (below_new (Below.refl w.heap.size w) (.cells #[.slice A n c, .bool s] 24)) (.cells #[.slice B m d, .bool t] 24)) (.cells #[.func (.func g) #[] lb] 82)) (.cells #[.slice none 0 0, .bool false] 24))
  have HB := Lib.hid (balance_q A B n m c d s t l k _ (h.step BB) (h'.step BB))
  have hbd := balN_bd ⟨l, s⟩ ⟨k, t⟩
  unfold bwV
  generalize (balL ⟨l, s⟩ ⟨k, t⟩).l = lx at *
  generalize (balR ⟨l, s⟩ ⟨k, t⟩).l = ly at *
  generalize balN ⟨l, s⟩ ⟨k, t⟩ = N at *
  generalize balS ⟨l, s⟩ ⟨k, t⟩ = sy at *
  clear h h'
  have HK := Lib.hid (fun (u : World) (A1 : Option Addr) (c1 : Nat) (A2 : Option Addr) (c2 : Nat) (hb : Below w.heap.size w u) (r1 : Rb u A1 N lx) (r2 : Rb u A2 N ly) (P0 : Own u w.heap.size 24 #[.slice A1 N c1, .bool sy]) (P1 : Own u (w.heap.size + 1) 24 #[.slice A2 N c2, .bool sy]) (P2 : Own u (w.heap.size + 1 + 1) 82 #[.func (.func g) #[] lb]) =>
    build_any N sy 200 #[.pointer (some ⟨w.heap.size + 1 + 1, 0, none⟩), .pointer (some ⟨w.heap.size, 0, none⟩), .pointer (some ⟨w.heap.size + 1, 0, none⟩)] (fun i => f (nth lx i) (nth ly i)) u (by omega) ent_bw1
      (fun W i hi hW => bw1_any g lb f _ _ _ A1 A2 N c1 N c2 i sy sy lx ly W w eg hf (below_step hb hW) (P2.step hW) (P0.step hW) (P1.step hW) (r1.step hW) (r2.step hW) hi hi (by omega) (by omega)) (fun i _ => hnn _ _ (r1.nn.nth i) (r2.nn.nth i)))
  have Z := BB.size
  simp only [World.size_alloc] at Z
  clear hf eg hbd
  go_enter Tryz.func143, Tryz.ntmps143
  go_wp2_with (first
    | (go_at_call 190; refine HB.out.mono ?_; rintro e w1 ⟨A1, c1, A2, c2, rfl, n1, n2, hb1⟩; replace BB := below_step BB hb1; replace O0 := O0.step hb1; replace O1 := O1.step hb1; replace O2 := O2.step hb1; replace O3 := O3.step hb1; have qO00 := O0.cell 0; have qO01 := O0.cell 1; have fO00 := O0.free 0; have fO01 := O0.free 1; have qO10 := O1.cell 0; have qO11 := O1.cell 1; have fO10 := O1.free 0; have fO11 := O1.free 1; have C1 := below_set2 (below_set2 BB (Nat.le_refl _) (.slice A1 N c1) (.bool sy)) (Nat.le_succ _) (.slice A2 N c2) (.bool sy); have U0 := (O0.put2 (.slice A1 N c1) (.bool sy)).far2 (Nat.ne_of_lt (Nat.lt_succ_self _)) (.slice A2 N c2) (.bool sy); have U1 := (O1.far2 (Nat.succ_ne_self _) (.slice A1 N c1) (.bool sy)).put2 (.slice A2 N c2) (.bool sy); have U2 := (O2.far2 (g := w.heap.size) (by omega) (.slice A1 N c1) (.bool sy)).far2 (g := w.heap.size + 1) (by omega) (.slice A2 N c2) (.bool sy); have U3 := (O3.far2 (g := w.heap.size) (by omega) (.slice A1 N c1) (.bool sy)).far2 (g := w.heap.size + 1) (by omega) (.slice A2 N c2) (.bool sy); have r1 := (n1.rd.set2 O0 (.slice A1 N c1) (.bool sy)).set2 (O1.far2 (Nat.succ_ne_self _) (.slice A1 N c1) (.bool sy)) (.slice A2 N c2) (.bool sy); have r2 := (n2.rd.set2 O0 (.slice A1 N c1) (.bool sy)).set2 (O1.far2 (Nat.succ_ne_self _) (.slice A1 N c1) (.bool sy)) (.slice A2 N c2) (.bool sy); have qU00 := U0.cell 0; have qU01 := U0.cell 1)
    | (go_at_call 138; refine (HK.out _ A1 c1 A2 c2 ?_ ?_ ?_ ?_ ?_ ?_).mono ?_; exact C1; exact r1; exact r2; exact U0; exact U1; exact U2; rintro e w2 ⟨A3, c3, rfl, n3, hb2⟩; simp only [tab_len] at n3 ⊢; have W3 := U3.step hb2; have D2 := below_step C1 hb2; have qW30 := W3.cell 0; have qW31 := W3.cell 1; have fW30 := W3.free 0; have fW31 := W3.free 1))
  exact ret_vec Tryz.results143 rfl rfl (W3.put2 _ _) (RetV.mk' (v := ⟨tab N fun i => f (nth lx i) (nth ly i), sy⟩) ((n3.far2 U3.lt _ _).mono C1.size) (below_set2 D2 (by omega) _ _))
end Go.Proofs.YtognpmggfplekaaGreatDoor

namespace Go.Proofs.YtognpmggfplekaaGreatDoor
open Go Go.RowKit

theorem field0 (A : Option Addr) (n c : Nat) (y : Value) (W : World) : (Instr.field 24 (.agg #[.slice A n c, y]) 0).run Tryz.prog W = .ok (.slice A n c) W := by kernel_rfl
def unkB (a : Int) : Bool := !knownB a
theorem kn_any (l : List Int) : (!l.any unkB) = knL l := by
  unfold knL unkB
  rw [List.any_eq_not_all_not]; simp
theorem ent_unk : Ent 122 := enters_of Tryz.func122 (by kernel_rfl) rfl
theorem pd_unk (w : World) : Pd w 122 #[] unkB := by
  intro W a hb
  show Calls _ _ #[.int .u8 a] W _
  unfold unkB
  go_enter Tryz.func122, Tryz.ntmps122
  go_wp2_with (go_at_call 110; refine (known_any _ _).mono ?_; rintro e w' ⟨rfl, m, rfl⟩)
  go_ret
  exact ⟨rfl, below_drewN (Below.refl _ _) m⟩
theorem known_v (A : Option Addr) (n c : Nat) (s : Bool) (l : List Int) (w : World) (h : Rb w A n l) :
    Calls Tryz.prog 31 #[.agg #[.slice A n c, .bool s]] w fun e w' => e = .returned (.bool (kn ⟨l, s⟩)) ∧ Below w.heap.size w w' := by
  have O0 := (Own.at1 w 24 #[.slice A n c, .bool s] (g := w.heap.size) (by simp))
  have BB := (below_new (Below.refl w.heap.size w) (.cells #[.slice A n c, .bool s] 24))
  have HA := Lib.hid (operand_any A n c s l _ (h.step BB))
  have hlen := (nrm_len ⟨l, s⟩).2
  unfold kn
  rw [← kn_any]
  generalize nrm ⟨l, s⟩ = x at *
  have HC := Lib.hid (fun (u : World) (A1 : Option Addr) (c1 : Nat) (r : Rb u A1 x.l.length x.l) => containsFunc_any A1 x.l.length c1 x.l _ _ unkB u r (by omega) ent_unk (pd_unk u))
  clear h hlen O0
  have hfl := field0
  go_enter Tryz.func31, Tryz.ntmps31
  go_wp2_with (first
    | (go_at_call 117; refine HA.out.mono ?_; rintro e w1 ⟨A1, c1, rfl, r1, hb1⟩; replace BB := below_step BB hb1)
    | (go_at_call 120; refine (HC.out _ A1 c1 r1).mono ?_; rintro e w2 ⟨rfl, hb2⟩))
  go_ret
  exact ⟨rfl, below_step BB hb2⟩

theorem clone_any (A : Option Addr) (n c : Nat) (l : List Int) (w : World) (h : Rb w A n l) (hn : n ≤ 100000) (h0 : 0 < n) :
    Calls Tryz.prog 116 #[.slice A n c] w (RetB w l) := by
  obtain ⟨b, o, rfl, _, _⟩ := h.at_ h0
  replace h := Lib.hid h
  have hnil := fun (W : World) => Lib.run_eql_slice_nil (P := Tryz.prog) W 22 48 (some ⟨b, o, none⟩) n c 0 0 Tryz.underlying22
  go_enter Tryz.func116, Tryz.ntmps116
  go_wp2_with (at_builtin; refine wpList_catV rfl (.tmp 5) (.tmp 6) rfl rfl (below_new (Below.refl _ _) _) rfl (Nb.of_own (l := []) (Own.new w _ #[]) (fun _ h => by simp at h) rfl (Nat.le_refl _) (by unfold maxLen; omega)) rfl (h.out.alloc _) (by omega) ?_; intro A' c' w' hv hb)
  go_ret
  simp only [Nat.zero_add, List.nil_append] at hv ⊢
  exact RetB.mk' hv hb

set_option maxHeartbeats 1000000 in
theorem withSign_any (A : Option Addr) (n c : Nat) (s t : Bool) (l : List Int) (w : World) (h : Rb w A n l) :
    Calls Tryz.prog 26 #[.agg #[.slice A n c, .bool s], .bool t] w (RetV w ⟨(nrm ⟨l, s⟩).l, t⟩) := by
  have O0 := ((Own.at1 w 24 #[.slice A n c, .bool s] (g := w.heap.size) (by simp)).alloc (.cells #[.slice none 0 0, .bool false] 24))
  have O1 := (Own.at1 (w.alloc (.cells #[.slice A n c, .bool s] 24)) 24 #[.slice none 0 0, .bool false] (g := w.heap.size + 1) (by simp))
  have BB := (below_new (below_new (Below.refl w.heap.size w) (.cells #[.slice A n c, .bool s] 24)) (.cells #[.slice none 0 0, .bool false] 24))
  have HA := Lib.hid (operand_any A n c s l _ (h.step BB))
  have hlen := nrm_len ⟨l, s⟩
  generalize nrm ⟨l, s⟩ = x at *
  have HC := Lib.hid (fun (u : World) (A1 : Option Addr) (c1 : Nat) (r : Rb u A1 x.l.length x.l) => clone_any A1 x.l.length c1 x.l u r (by omega) hlen.1)
  clear h hlen O0
  have hfl := field0
  go_enter Tryz.func26, Tryz.ntmps26
  go_wp2_with (first
    | (go_at_call 117; refine HA.out.mono ?_; rintro e w1 ⟨A1, c1, rfl, r1, hb1⟩; replace BB := below_step BB hb1; replace O1 := O1.step hb1; have L1 := O1.lt)
    | (go_at_call 116; refine (HC.out _ A1 c1 r1).mono ?_; rintro e w2 ⟨A2, c2, rfl, n2, hb2⟩; replace O1 := O1.step hb2; have B2 := below_step BB hb2; have q0 := O1.cell 0; have q1 := O1.cell 1; have f0 := O1.free 0; have f1 := O1.free 1))
  exact ret_vec Tryz.results26 rfl rfl (O1.put2 _ _) (RetV.mk' (v := ⟨x.l, t⟩) ((n2.far2 L1 _ _).mono BB.size) (below_set2 B2 (by omega) _ _))

def RetRc (w : World) (v : V) (e : Ending) (w' : World) : Prop := ∃ A c, e = .returned (.agg #[.slice A v.l.length c, .bool v.s]) ∧ Rb w' A v.l.length v.l ∧ v.l.length ≤ c ∧ Below w.heap.size w w'
set_option maxHeartbeats 1000000 in
theorem operand_c (A : Option Addr) (n c : Nat) (s : Bool) (l : List Int) (w : World) (h : Rb w A n l) (hcap : n ≤ c) :
    Calls Tryz.prog 117 #[.agg #[.slice A n c, .bool s]] w (RetRc w (nrm ⟨l, s⟩)) := by
  have HC := Lib.hid (check_any A n c s l ((w.alloc (.cells #[.slice A n c, .bool s] 24)).alloc (.cells #[.slice none 0 0, .bool false] 24)) ((h.alloc _).alloc _))
  have B0 := below_new (below_new (Below.refl w.heap.size w) (.cells #[.slice A n c, .bool s] 24)) (.cells #[.slice none 0 0, .bool false] 24)
  have P0 := (Own.new w 24 #[.slice A n c, .bool s]).alloc (.cells #[.slice none 0 0, .bool false] 24)
  have Q0 := Own.at1 (w.alloc (.cells #[.slice A n c, .bool s] 24)) 24 #[.slice none 0 0, .bool false] (g := w.heap.size + 1) (by simp)
  rcases nrm_cases ⟨l, s⟩ with ⟨h1, h2⟩ | ⟨h1, h2⟩
  · rw [h2]
    simp only at h1
    rw [h1] at HC
    have hl := h.len
    subst hl
    clear h1 h2
    replace h := Lib.hid h
    go_enter Tryz.func117, Tryz.ntmps117
    go_wp2_with (go_at_call 28; refine HC.out.mono ?_; rintro e w' ⟨rfl, hb'⟩; replace B0 := below_step B0 hb'; replace P0 := P0.step hb'; replace Q0 := Q0.step hb'; have p0 := P0.cell 0; have p1 := P0.cell 1; have q0 := Q0.cell 0; have q1 := Q0.cell 1; have f0 := Q0.free 0; have f1 := Q0.free 1)
    exact ret_vec Tryz.results117 rfl rfl (Q0.put2 _ _) ⟨_, _, rfl, h.out.step (below_set2 B0 (by omega) _ _), hcap, below_set2 B0 (by omega) _ _⟩
  · rw [h2]
    have h1' : (chk l != 0) = true := by simp only at h1; simp [bne, h1]
    generalize chk l = z at *
    clear h2
    replace h := Lib.hid h
    go_enter Tryz.func117, Tryz.ntmps117
    go_wp2_with (first
      | (go_at_call 28; refine HC.out.mono ?_; rintro e w' ⟨rfl, hb'⟩; replace B0 := below_step B0 hb'; replace P0 := P0.step hb'; replace Q0 := Q0.step hb'; have p0 := P0.cell 0; have p1 := P0.cell 1; have Q0lt := Q0.lt)
      | (go_at_call 161; refine (single_any 2 _ (by decide)).mono ?_; rintro e w2 ⟨A2, c2, rfl, hN, hb2⟩; have B1 := below_step B0 hb2; replace Q0 := Q0.step hb2; have q0 := Q0.cell 0; have q1 := Q0.cell 1; have f0 := Q0.free 0; have f1 := Q0.free 1))
    exact ret_vec Tryz.results117 rfl rfl (Q0.put2 _ _) ⟨_, _, rfl, (hN.far2 Q0lt _ _).rd, hN.le, below_set2 B1 (by omega) _ _⟩

theorem slice_tail (b o n c : Nat) (hn : 0 < n) (hc : n ≤ c) : ∃ dp : Option Addr, (∀ W : World, (Instr.slice 22 (.slice (some ⟨b, o, none⟩) n c) (some (.int .i64 1)) none none).run Tryz.prog W = .ok (.slice dp (n - 1) (c - 1)) W) ∧
    (∀ W : World, (Instr.sliceAt 22 (.slice (some ⟨b, o, none⟩) n c) (some (.int .i64 1)) none none).run Tryz.prog W = .ok (.slice dp (n - 1) (c - 1)) W) ∧ (1 < n → dp = some ⟨b, o + 1, none⟩) := by
  have hz : ∀ W : World, (sizeOf 48).run Tryz.prog W = .ok 1 W := fun W => by kernel_rfl
  have key : ∀ W : World, (Instr.slice 22 (.slice (some ⟨b, o, none⟩) n c) (some (.int .i64 1)) none none).run Tryz.prog W = .ok (sliced (some ⟨b, o, none⟩) 1 n c 1) W := fun W => by
    have h := run_slice_l (P := Tryz.prog) (w := W) 22 (some ⟨b, o, none⟩) n c (by kernel_rfl) .i64 1 (by decide) (by omega)
    rw [h, show (Tryz.prog).elem 22 = 48 by kernel_rfl, hz W]
    rfl
  have e : sliced (some ⟨b, o, none⟩) 1 n c 1 = .slice (if c = 1 then some ⟨b, o, none⟩ else some ⟨b, o + 1, none⟩) (n - 1) (c - 1) := by
    unfold sliced
    split
    · rfl
    · have : (⟨b, o, none⟩ : Addr).add 1 = ⟨b, o + 1, none⟩ := by unfold Addr.add; split <;> simp_all
      simp [this]
  refine ⟨if c = 1 then some ⟨b, o, none⟩ else some ⟨b, o + 1, none⟩, fun W => ?_, fun W => ?_, fun h => if_neg (by omega)⟩
  · rw [key W, e]
  · rw [run_sliceAt_slice (P := Tryz.prog) (w := W) _ _ _ _ _ (by kernel_rfl), key W, e]
end Go.Proofs.YtognpmggfplekaaGreatDoor

namespace Go.Proofs.YtognpmggfplekaaGreatDoor
open Go Go.RowKit

set_option maxHeartbeats 2000000 in
theorem reduce_any (g : Nat) (lb : Array Value) (f : Int → Int → Int) (A : Option Addr) (n c : Nat) (s : Bool) (l : List Int) (w : World) (eg : Ent g) (hf : Fn2 w g lb f) (hnn : ∀ a b, 0 ≤ f a b ∧ f a b ≤ 2) (h : Rb w A n l) (hcap : n ≤ c) (TT : Tabs w) :
    Calls Tryz.prog 126 #[.agg #[.slice A n c, .bool s], .func (.func g) #[] lb] w fun e w' => e = .returned (.int .u8 (red f ⟨l, s⟩)) ∧ Below w.heap.size w w' := by
  unfold Ent at eg
  have O0 := (Own.at1 w 24 #[.slice A n c, .bool s] (g := w.heap.size) (by simp))
  have BB := (below_new (Below.refl w.heap.size w) (.cells #[.slice A n c, .bool s] 24))
  have HA := Lib.hid (operand_c A n c s l _ (h.step BB) hcap)
  have hlen := nrm_len ⟨l, s⟩
  unfold red
  generalize nrm ⟨l, s⟩ = x at *
  obtain ⟨lx, sx⟩ := x
  simp only at *
  obtain ⟨N, hN⟩ : ∃ N, lx.length = N + 1 := ⟨lx.length - 1, by omega⟩
  rw [hN, show N + 1 - 1 = N from rfl]
  rw [hN] at hlen
  clear h
  replace hf := Lib.hid hf
  replace TT := Lib.hid TT
  go_enter Tryz.func126, Tryz.ntmps126
  go_wp2_with (first
    | (go_at_call 117; refine HA.out.mono ?_; rintro e w1 ⟨A1, c1, rfl, r1, hc1, hb1⟩; simp only [hN] at r1 hc1 ⊢; replace BB := below_step BB hb1; replace O0 := O0.step hb1; have qO00 := O0.cell 0; have qO01 := O0.cell 1; have fO00 := O0.free 0; have fO01 := O0.free 1; have B1 := below_set2 BB (Nat.le_refl _) (.slice A1 (N + 1) c1) (.bool sx); have U0 := O0.put2 (.slice A1 (N + 1) c1) (.bool sx); have r2 := r1.set2 O0 (.slice A1 (N + 1) c1) (.bool sx); obtain ⟨b, o, rfl, hbl, hcl⟩ := r2.at_ (Nat.succ_pos N); obtain ⟨dp, sl1, sl2, hdp⟩ := slice_tail b o (N + 1) c1 (Nat.succ_pos N) hc1; simp only [Nat.add_zero, Nat.add_sub_cancel] at hcl sl1 sl2)
    | (go_at_call 171; refine (b_buf _ (r2.nn.nth 0) (TT.out.step B1)).mono ?_; rintro e w2 ⟨rfl, hb2⟩; replace U0 := U0.step hb2; have B2 := below_step B1 hb2; have q0 := U0.cell 0; have r3 := r2.step hb2))
  replace hcl := Lib.hid hcl
  replace sl1 := Lib.hid sl1
  replace sl2 := Lib.hid sl2
  clear q0 O0 U0
  go_loopw [5, 19] (fun r i wr => ∃ k : Nat, k ≤ N ∧ i = .int .i64 k ∧ r = .int .u8 (redU f lx k) ∧ Hid (Below w.heap.size w wr) ∧ Hid (Below w2.heap.size w2 wr)) (fun _ i _ => N - (intOf i).toNat)
  case atStart => exact ⟨0, Nat.zero_le _, rfl, rfl, Lib.hid B2, Lib.hid (Below.refl _ _)⟩
  case round =>
    obtain ⟨k, hk, rfl, rfl, HB, HB2⟩ := hrel
    by_cases hlt : k < N
    · obtain rfl := hdp (by omega)
      obtain ⟨b', o', e, hbl', hcl'⟩ := (r3.step HB2.out).at_ (show k + 1 < N + 1 by omega)
      simp only [Option.some.injEq, Addr.mk.injEq, and_true] at e
      obtain ⟨rfl, rfl⟩ := e
      rw [show o + (k + 1) = o + 1 + k by omega] at hcl'
      have hcall := hf.out wr (redU f lx k) (nth lx (k + 1)) HB.out (redU_bd hnn lx k).1 (r3.nn.nth _)
      have hnext : f (redU f lx k) (nth lx (k + 1)) = redU f lx (k + 1) := rfl
      rw [hnext] at hcall
      clear hnext
      generalize hz : redU f lx (k + 1) = z at *
      replace hz := Lib.hid hz
      generalize redU f lx k = z0 at *
      generalize nth lx (k + 1) = z1 at *
      replace BB := Lib.hid BB
      replace B1 := Lib.hid B1
      replace B2 := Lib.hid B2
      replace r1 := Lib.hid r1
      replace r2 := Lib.hid r2
      replace r3 := Lib.hid r3
      clear hnn hf hdp
      go_wp2_with (go_at_fn g; refine hcall.mono ?_; rintro e w' ⟨rfl, hb'⟩)
      go_roundw
      case rel => exact ⟨k + 1, by omega, by go_num, by rw [hz.out], Lib.hid (below_step HB.out hb'), Lib.hid (below_step HB2.out hb')⟩
      case measure => simp [intOf]; omega
    · obtain rfl : k = N := by omega
      clear hnn hf hdp
      go_wp2
      go_ret
      exact ⟨rfl, HB.out⟩
end Go.Proofs.YtognpmggfplekaaGreatDoor

namespace Go.Proofs.YtognpmggfplekaaGreatDoor
open Go Go.RowKit

theorem truth_any (A : Option Addr) (n c : Nat) (s : Bool) (l : List Int) (w : World) (h : Rb w A n l) (hcap : n ≤ c) (TT : Tabs w) :
    Calls Tryz.prog 35 #[.agg #[.slice A n c, .bool s]] w fun e w' => e = .returned (.int .u8 (truth ⟨l, s⟩)) ∧ Below w.heap.size w w' := by
  unfold truth
  have BB := below_new (Below.refl w.heap.size w) (.cells #[.slice A n c, .bool s] 24)
  have HR := Lib.hid (reduce_any _ #[] orI A n c s l _ ent_or (fn_or (TT.step BB)) orI_bd (h.step BB) hcap (TT.step BB))
  clear h TT
  go_enter Tryz.func35, Tryz.ntmps35
  go_wp2_with (go_at_call 126; refine HR.out.mono ?_; rintro e w1 ⟨rfl, hb1⟩)
  go_ret
  exact ⟨rfl, below_step BB hb1⟩
theorem truth_bd (v : V) : 0 ≤ truth v ∧ truth v ≤ 2 := redU_bd orI_bd _ _
theorem RedAnd_any (A : Option Addr) (n c : Nat) (s : Bool) (l : List Int) (w : World) (h : Rb w A n l) (hcap : n ≤ c) (TT : Tabs w) :
    Calls Tryz.prog 66 #[.agg #[.slice A n c, .bool s]] w (RetV w (one1 (red andI ⟨l, s⟩))) := by
  have O0 := ((Own.at1 w 24 #[.slice A n c, .bool s] (g := w.heap.size) (by simp)).alloc (.cells #[.slice none 0 0, .bool false] 24))
  have O1 := (Own.at1 (w.alloc (.cells #[.slice A n c, .bool s] 24)) 24 #[.slice none 0 0, .bool false] (g := w.heap.size + 1) (by simp))
  have BB := (below_new (below_new (Below.refl w.heap.size w) (.cells #[.slice A n c, .bool s] 24)) (.cells #[.slice none 0 0, .bool false] 24))
  have HR := Lib.hid (reduce_any _ #[] andI A n c s l _ ent_and (fn_and (TT.step BB)) andI_bd (h.step BB) hcap (TT.step BB))
  have hz : 0 ≤ red andI ⟨l, s⟩ := (redU_bd andI_bd _ _).1
  generalize red andI ⟨l, s⟩ = z at *
  have HS := Lib.hid (fun (u : World) => single_any z u hz)
  clear h TT hz
  go_enter Tryz.func66, Tryz.ntmps66
  go_wp2_with (first
    | (go_at_call 126; refine HR.out.mono ?_; rintro e w1 ⟨rfl, hb1⟩; replace BB := below_step BB hb1; replace O1 := O1.step hb1)
    | (go_at_call 161; refine (HS.out _).mono ?_; rintro e w2 ⟨A2, c2, rfl, n2, hb2⟩; have L1 := O1.lt; have O2 := O1.step hb2; have qO20 := O2.cell 0; have qO21 := O2.cell 1; have fO20 := O2.free 0; have fO21 := O2.free 1))
  exact ret_vec Tryz.results66 rfl rfl (O2.put2 _ _) (RetV.mk' (v := one1 z) ((n2.far2 L1 _ _).mono BB.size) (below_set2 (below_step BB hb2) (by omega) _ _))
theorem RedOr_any (A : Option Addr) (n c : Nat) (s : Bool) (l : List Int) (w : World) (h : Rb w A n l) (hcap : n ≤ c) (TT : Tabs w) :
    Calls Tryz.prog 67 #[.agg #[.slice A n c, .bool s]] w (RetV w (one1 (red orI ⟨l, s⟩))) := by
  have O0 := ((Own.at1 w 24 #[.slice A n c, .bool s] (g := w.heap.size) (by simp)).alloc (.cells #[.slice none 0 0, .bool false] 24))
  have O1 := (Own.at1 (w.alloc (.cells #[.slice A n c, .bool s] 24)) 24 #[.slice none 0 0, .bool false] (g := w.heap.size + 1) (by simp))
  have BB := (below_new (below_new (Below.refl w.heap.size w) (.cells #[.slice A n c, .bool s] 24)) (.cells #[.slice none 0 0, .bool false] 24))
  have HR := Lib.hid (reduce_any _ #[] orI A n c s l _ ent_or (fn_or (TT.step BB)) orI_bd (h.step BB) hcap (TT.step BB))
  have hz : 0 ≤ red orI ⟨l, s⟩ := (redU_bd orI_bd _ _).1
  generalize red orI ⟨l, s⟩ = z at *
  have HS := Lib.hid (fun (u : World) => single_any z u hz)
  clear h TT hz
  go_enter Tryz.func67, Tryz.ntmps67
  go_wp2_with (first
    | (go_at_call 126; refine HR.out.mono ?_; rintro e w1 ⟨rfl, hb1⟩; replace BB := below_step BB hb1; replace O1 := O1.step hb1)
    | (go_at_call 161; refine (HS.out _).mono ?_; rintro e w2 ⟨A2, c2, rfl, n2, hb2⟩; have L1 := O1.lt; have O2 := O1.step hb2; have qO20 := O2.cell 0; have qO21 := O2.cell 1; have fO20 := O2.free 0; have fO21 := O2.free 1))
  exact ret_vec Tryz.results67 rfl rfl (O2.put2 _ _) (RetV.mk' (v := one1 z) ((n2.far2 L1 _ _).mono BB.size) (below_set2 (below_step BB hb2) (by omega) _ _))
theorem RedXor_any (A : Option Addr) (n c : Nat) (s : Bool) (l : List Int) (w : World) (h : Rb w A n l) (hcap : n ≤ c) (TT : Tabs w) :
    Calls Tryz.prog 68 #[.agg #[.slice A n c, .bool s]] w (RetV w (one1 (red xorI ⟨l, s⟩))) := by
  have O0 := ((Own.at1 w 24 #[.slice A n c, .bool s] (g := w.heap.size) (by simp)).alloc (.cells #[.slice none 0 0, .bool false] 24))
  have O1 := (Own.at1 (w.alloc (.cells #[.slice A n c, .bool s] 24)) 24 #[.slice none 0 0, .bool false] (g := w.heap.size + 1) (by simp))
  have BB := (below_new (below_new (Below.refl w.heap.size w) (.cells #[.slice A n c, .bool s] 24)) (.cells #[.slice none 0 0, .bool false] 24))
  have HR := Lib.hid (reduce_any _ #[] xorI A n c s l _ ent_xor (fn_xor (TT.step BB)) xorI_bd (h.step BB) hcap (TT.step BB))
  have hz : 0 ≤ red xorI ⟨l, s⟩ := (redU_bd xorI_bd _ _).1
  generalize red xorI ⟨l, s⟩ = z at *
  have HS := Lib.hid (fun (u : World) => single_any z u hz)
  clear h TT hz
  go_enter Tryz.func68, Tryz.ntmps68
  go_wp2_with (first
    | (go_at_call 126; refine HR.out.mono ?_; rintro e w1 ⟨rfl, hb1⟩; replace BB := below_step BB hb1; replace O1 := O1.step hb1)
    | (go_at_call 161; refine (HS.out _).mono ?_; rintro e w2 ⟨A2, c2, rfl, n2, hb2⟩; have L1 := O1.lt; have O2 := O1.step hb2; have qO20 := O2.cell 0; have qO21 := O2.cell 1; have fO20 := O2.free 0; have fO21 := O2.free 1))
  exact ret_vec Tryz.results68 rfl rfl (O2.put2 _ _) (RetV.mk' (v := one1 z) ((n2.far2 L1 _ _).mono BB.size) (below_set2 (below_step BB hb2) (by omega) _ _))
theorem not1_any (ga : Nat) (A : Option Addr) (n c i : Nat) (s : Bool) (l : List Int) (w : World) (OA : Own w ga 24 #[.slice A n c, .bool s]) (h : Rb w A n l) (hi : i < n) (_hn : n ≤ 1000000) (TT : Tabs w) :
    Calls Tryz.prog 147 #[.int .i64 i, .pointer (some ⟨ga, 0, none⟩)] w fun e w' => e = .returned (.int .u8 (notI (nth l i))) ∧ Below w.heap.size w w' := by
  have hnn := h.nn.nth i
  obtain ⟨b, o, rfl, hb, hc⟩ := h.at_ hi
  have q0 := OA.cell 0
  clear h OA
  have HN := Lib.hid (b_not w hnn TT)
  clear hnn TT
  generalize nth l i = y at *
  go_enter Tryz.func147, Tryz.ntmps147
  go_wp2_with (go_at_call 148; refine HN.out.mono ?_; rintro e w1 ⟨rfl, hb1⟩)
  go_ret
  exact ⟨rfl, hb1⟩
theorem ent_not1 : Ent 147 := enters_of Tryz.func147 (by kernel_rfl) rfl
set_option maxHeartbeats 1000000 in
theorem not_v (A : Option Addr) (n c : Nat) (s : Bool) (l : List Int) (w : World) (h : Rb w A n l) (TT : Tabs w) :
    Calls Tryz.prog 55 #[.agg #[.slice A n c, .bool s]] w (RetV w (notV ⟨l, s⟩)) := by
  have O0 := ((Own.at1 w 24 #[.slice A n c, .bool s] (g := w.heap.size) (by simp)).alloc (.cells #[.slice none 0 0, .bool false] 24))
  have O1 := (Own.at1 (w.alloc (.cells #[.slice A n c, .bool s] 24)) 24 #[.slice none 0 0, .bool false] (g := w.heap.size + 1) (by simp))
  have BB := (below_new (below_new (Below.refl w.heap.size w) (.cells #[.slice A n c, .bool s] 24)) (.cells #[.slice none 0 0, .bool false] 24))
  have HA := Lib.hid (operand_any A n c s l _ (h.step BB))
  have hlen := nrm_len ⟨l, s⟩
  unfold notV
  generalize nrm ⟨l, s⟩ = x at *
  obtain ⟨lx, sx⟩ := x
  simp only at *
  obtain ⟨N, hN⟩ : ∃ N, lx.length = N := ⟨_, rfl⟩
  rw [hN] at hlen ⊢
  have HK := Lib.hid (fun (u : World) (A1 : Option Addr) (c1 : Nat) (hb : Below w.heap.size w u) (r1 : Rb u A1 N lx) (P0 : Own u w.heap.size 24 #[.slice A1 N c1, .bool sx]) =>
    build_any N sx 147 #[.pointer (some ⟨w.heap.size, 0, none⟩)] (fun i => notI (nth lx i)) u (by omega) ent_not1
      (fun W i hi hW => not1_any _ A1 N c1 i sx lx W (P0.step hW) (r1.step hW) hi (by omega) (TT.step (below_step hb hW))) (fun i _ => (notI_bd _).1))
  clear h TT hlen
  go_enter Tryz.func55, Tryz.ntmps55
  go_wp2_with (first
    | (go_at_call 117; refine HA.out.mono ?_; rintro e w1 ⟨A1, c1, rfl, r1, hb1⟩; simp only [hN] at r1 ⊢; replace BB := below_step BB hb1; replace O0 := O0.step hb1; replace O1 := O1.step hb1; have qO00 := O0.cell 0; have qO01 := O0.cell 1; have fO00 := O0.free 0; have fO01 := O0.free 1; have B1 := below_set2 BB (Nat.le_refl _) (.slice A1 N c1) (.bool sx); have U0 := O0.put2 (.slice A1 N c1) (.bool sx); have U1 := O1.far2 (Nat.succ_ne_self _) (.slice A1 N c1) (.bool sx); have r2 := r1.set2 O0 (.slice A1 N c1) (.bool sx); have qU00 := U0.cell 0; have qU01 := U0.cell 1)
    | (go_at_call 138; refine (HK.out _ A1 c1 B1 r2 U0).mono ?_; rintro e w2 ⟨A3, c3, rfl, n3, hb2⟩; simp only [tab_len] at n3 ⊢; have W1 := U1.step hb2; have D2 := below_step B1 hb2; have qW10 := W1.cell 0; have qW11 := W1.cell 1; have fW10 := W1.free 0; have fW11 := W1.free 1))
  exact ret_vec Tryz.results55 rfl rfl (W1.put2 _ _) (RetV.mk' (v := ⟨tab N fun i => notI (nth lx i), sx⟩) ((n3.far2 U1.lt _ _).mono B1.size) (below_set2 D2 (by omega) _ _))
end Go.Proofs.YtognpmggfplekaaGreatDoor
