/-
  A call through a function value inside a region whose order is open. No conditions.
  Contracts of the program's number, fromNumber, unknown. Widths up to a million.
  Contracts of the program's bitwise operators. No conditions.
  Contracts of the program's Known, Clone, WithSign, reduce, Truth, and the operators of one bit over them. No conditions.
  Contracts of the program's reduce, Truth and the operators of one bit over them. No conditions.
  Contracts of the program's Truth, Not and the operators of one bit. No conditions.
-/
import Derived.Test.YtgojnpblhfbdpaaGreatDoorQd
import Derived.Test.YtgojnpblhfbdpaaGreatDoorQe
import Derived.WalkSpells

namespace Go.Proofs.YtgojnpblhfbdpaaGreatDoor
open Go Go.RowKit
theorem wp_callv {P : Program} {Q : Exit → Act → World → Prop} {o : Oper} {a : Act} {w : World} {K : Act → World → Prop} {F : FuncId} {lb : Array Value} {x : Operand} {xs : Array Operand} {ats : Array TypeId} {args : Array Value} (ho : o.op = .call { callee := .value x, args := xs, argTypes := ats })
    (hv : a.eval x = .func (.func F) #[] lb) (hin : ∀ args u, (callFunc F args).run P u = .ok (.enter F args) u) (hx : xs.map a.eval = args) (h : Calls P F (args ++ lb) w fun e w' => ∃ v, e = .returned v ∧ K (a.put o.dst v) w') : o.wp P a w K Q := by
  have e : (execOp a.eval o).run P w = .ok (.enter F (args ++ lb)) w := by
    obtain ⟨dst, op, ty, pos, after, guard⟩ := o
    simp only at ho
    subst ho
    rw [← hin]
    simp [execOp, resolve, invoke, hv, hx, Deferred.ofValue]
  unfold Oper.wp
  rw [e, Oper.upon_enter]
  refine h.mono ?_
  rintro e w' ⟨v, rfl, hk⟩
  exact hk
/-- The value is a row of Booleans that was made by the call and reads as x. -/
def isNum (n x : Nat) : Value → World → Prop := fun v u => ∃ X c, v = .slice X n c ∧ B.Nw u 0 X n c x
instance (n x : Nat) : StV (isNum n x) := ⟨fun _ _ _ hb ⟨A, c, h1, h2⟩ => ⟨A, c, h1, B.Nw.step h2 hb⟩⟩
theorem nw_row {w : World} {g n B0 c x : Nat} {A X : Option Addr} {a b : Nat} {s : Bool} {cs : Array Value} (h : B.Nw w B0 A n c x) (O : Own w g 26 #[.slice X a b, .bool s]) : B.Nw (w.setRow g cs) B0 A n c x :=
  ⟨h.1, h.2.1, h.2.2.imp id fun ⟨g', cap, cur, h1, h2, h3, h4⟩ => ⟨g', cap, cur, h1, h2, Own.rowFar h3 (fun e => by
    subst e
    have h5 : w.heap[g]? = _ := h3
    have h6 : w.heap[g]? = _ := O
    rw [h5] at h6
    simp at h6), h4⟩⟩
instance (g n x : Nat) : SsV g (isNum n x) := ⟨fun _ _ _ _ _ _ _ O ⟨A, c, h1, h2⟩ => ⟨A, c, h1, nw_row h2 O⟩⟩
def ownT (g : Nat) (T : TypeId) (cs : Array Value) : World → Prop := fun u => Own u g T cs
instance (g : Nat) (T : TypeId) (cs : Array Value) : Stb (ownT g T cs) := ⟨fun _ _ hb h => Own.step h hb⟩
instance (g h : Nat) (T : TypeId) (cs : Array Value) [A : Apart g h] : Sst g (ownT h T cs) := ⟨fun _ _ _ _ _ _ _ O => Own.rowFar O A.ne⟩
end Go.Proofs.YtgojnpblhfbdpaaGreatDoor

namespace Go.Proofs.YtgojnpblhfbdpaaGreatDoor
open Go Go.RowKit

theorem num_lt' {l : List Int} {n : Nat} (h : l.length = n) : num l < 2 ^ n := h ▸ num_lt l
theorem num_next {l : List Int} {n k : Nat} (_h : l.length = n) (_hk : k < n) : setb (num l % 2 ^ k) k (nth l k == 1) = num l % 2 ^ (k + 1) := by
  rw [setb_new (mod_lt' _ _), mod_step, num_bit]
set_option maxHeartbeats 1000000 in
theorem number_any (A : Option Addr) (n c : Nat) (s : Bool) (l : List Int) (w : World) (h : Rb w A n l) (hn : n ≤ 1000000) :
    Calls Tryz.prog 178 #[.agg #[.slice A n c, .bool s]] w (B.RetN w n (num l)) := by
  have hl := h.len
  have hmk := fun W => B.run_makeB n hn W
  have O0 := ((Own.at1 w 26 #[.slice A n c, .bool s] (g := w.heap.size) (by simp)).alloc (.cells (B.ba n 0) 4))
  have O1 := (Own.at1 (w.alloc (.cells #[.slice A n c, .bool s] 26)) 4 (B.ba n 0) (g := w.heap.size + 1) (by simp))
  have BB := (below_new (below_new (Below.refl w.heap.size w) (.cells #[.slice A n c, .bool s] 26)) (.cells (B.ba n 0) 4))
  replace h := Lib.hid h
  go_enter Tryz.func178, Tryz.ntmps178
  go_wp2
  go_loopw [13] (fun i wr => ∃ k : Nat, k ≤ n ∧ i = .int .i64 k ∧ Hid (Own wr (w.heap.size + 1) 4 (B.ba n (num l % 2 ^ k))) ∧ Hid (Below w.heap.size w wr)) (fun i _ => n - (intOf i).toNat)
  case atStart => exact ⟨0, Nat.zero_le _, rfl, Lib.hid (by simpa [Nat.mod_one] using O1), Lib.hid BB⟩
  case round =>
    obtain ⟨k, hk, rfl, Q, HB⟩ := hrel
    clear O0 O1 BB hmk
    by_cases hlt : k < n
    · obtain ⟨b, o, rfl, hb, hc⟩ := (h.out.step HB.out).at_ hlt
      have q0 := (Q.out.cell k).trans (B.ba_get _ _ _ hlt)
      have f0 := Q.out.free k
      have hnext := Lib.hid (num_next hl hlt)
      replace hl := Lib.hid hl
      generalize hy : nth l k = y at hc hnext
      generalize hz : (num l % 2 ^ k).testBit k = z at q0
      clear hy hz
      cases hv : (y == 1)
      all_goals
        rw [hv] at hnext
        go_wp2
        go_roundw
        case rel =>
          refine ⟨k + 1, by omega, by go_num, Lib.hid ?_, Lib.hid (below_set HB.out (by simp) _)⟩
          · rw [← hnext.out, ← B.ba_set _ hlt]
            first | exact Q.out.put k _ | (simpa [hv] using Q.out.put k _)
        case measure => simp [intOf]; omega
    · obtain rfl : k = n := by omega
      have Q1 := Q.out
      have hlt2 := num_lt' hl
      rw [Nat.mod_eq_of_lt hlt2] at Q1
      clear Q hl
      go_wp2
      go_ret
      exact ⟨_, _, rfl, B.Nw.of_own Q1 hlt2 (by simp) (by unfold maxLen; omega), HB.out⟩

theorem fromN1_any (g : Nat) (A : Option Addr) (n c x i : Nat) (w : World) (O : Own w g 75 #[.slice A n c]) (h : B.Rd w A n x) (hi : i < n) (_hn : n ≤ 1000000) :
    Calls Tryz.prog 114 #[.int .i64 i, .pointer (some ⟨g, 0, none⟩)] w fun e w' => e = .returned (.int .u8 (fromI (x.testBit i))) ∧ Below w.heap.size w w' := by
  obtain ⟨b, o, rfl, hb, hc⟩ := h.at_ hi
  have q0 := O.cell 0
  clear O h
  generalize x.testBit i = z at *
  go_enter Tryz.func114, Tryz.ntmps114
  go_wp2_with (go_at_call 115; refine (from_any _ _).mono ?_; rintro e w' ⟨rfl, m, rfl⟩)
  go_ret
  exact ⟨rfl, below_drewN (Below.refl _ _) m⟩
theorem ent_fromN1 : Ent 114 := enters_of Tryz.func114 (by kernel_rfl) rfl
set_option maxHeartbeats 1000000 in
theorem fromNumber_any (A : Option Addr) (n c x : Nat) (s : Bool) (w : World) (h : B.Rd w A n x) (hn : n ≤ 1000000) :
    Calls Tryz.prog 71 #[.slice A n c, .bool s] w (RetV w ⟨frN n x, s⟩) := by
  have O0 := ((Own.at1 w 75 #[.slice A n c] (g := w.heap.size) (by simp)).alloc (.cells #[.slice none 0 0, .bool false] 26))
  have O1 := (Own.at1 (w.alloc (.cells #[.slice A n c] 75)) 26 #[.slice none 0 0, .bool false] (g := w.heap.size + 1) (by simp))
  have BB := (below_new (below_new (Below.refl w.heap.size w) (.cells #[.slice A n c] 75)) (.cells #[.slice none 0 0, .bool false] 26))
  have hr := B.Rd.step h BB
  have HB := Lib.hid (build_any n s 114 #[.pointer (some ⟨w.heap.size, 0, none⟩)] (fun i => fromI (x.testBit i)) _ hn ent_fromN1 (fun W i hi hb => fromN1_any w.heap.size A n c x i W (O0.step hb) (B.Rd.step hr hb) hi hn) (fun i _ => (fromI_bd _).1))
  clear h hr O0
  go_enter Tryz.func71, Tryz.ntmps71
  go_wp2_with (go_at_call 110; refine HB.out.mono ?_; rintro e w1 ⟨A1, c1, rfl, hN, hb1⟩; have B1 := below_step BB hb1; have Q1 := O1.step hb1; have q0 := Q1.cell 0; have q1 := Q1.cell 1; have f0 := Q1.free 0; have f1 := Q1.free 1)
  exact ret_vec Tryz.results71 rfl rfl (Q1.put2 _ _) (RetV.mk' (v := ⟨frN n x, s⟩) ((hN.far2 (by simp) _ _).mono (by simp; omega)) (below_set2 B1 (by simp) _ _))
end Go.Proofs.YtgojnpblhfbdpaaGreatDoor

namespace Go.Proofs.YtgojnpblhfbdpaaGreatDoor
open Go Go.RowKit

/-- What balance leaves: two vectors of its own, of one width and one sign. -/
def RetQ (w : World) (N : Nat) (S : Bool) (x y : List Int) (e : Ending) (w' : World) : Prop := ∃ A1 c1 A2 c2, e = .returned (.tuple #[.agg #[.slice A1 N c1, .bool S], .agg #[.slice A2 N c2, .bool S]]) ∧ Nb w' w.heap.size A1 N c1 x ∧ Nb w' w.heap.size A2 N c2 y ∧ Below w.heap.size w w'
theorem RetP.retQ {w w' : World} {a b : V} {e : Ending} (h : RetP w (balL a b) (balR a b) e w') : RetQ w (balN a b) (balS a b) (balL a b).l (balR a b).l e w' := by
  obtain ⟨A1, c1, A2, c2, h1, h2, h3, h4⟩ := h
  rw [(bal_len a b).1] at h1 h2
  rw [(bal_len a b).2] at h1 h3
  exact ⟨A1, c1, A2, c2, h1, h2, h3, h4⟩
end Go.Proofs.YtgojnpblhfbdpaaGreatDoor

namespace Go.Proofs.YtgojnpblhfbdpaaGreatDoor
open Go Go.RowKit

set_option maxRecDepth 100000 in
theorem field0 (A : Option Addr) (n c : Nat) (y : Value) (W : World) : (Instr.field 26 (.agg #[.slice A n c, y]) 0).run Tryz.prog W = .ok (.slice A n c) W := by kernel_rfl
def unkB (a : Int) : Bool := !knownB a
set_option maxRecDepth 100000 in
theorem kn_any (l : List Int) : (!l.any unkB) = knL l := by
  unfold knL unkB
  rw [List.any_eq_not_all_not]; simp
set_option maxRecDepth 100000 in
theorem ent_unk : Ent 65 := enters_of Tryz.func65 (by kernel_rfl) rfl
set_option maxRecDepth 100000 in
theorem pd_unk (w : World) : Pd w 65 #[] unkB := by
  intro W a hb
  show Calls _ _ #[.int .u8 a] W _
  unfold unkB
  go_enter Tryz.func65, Tryz.ntmps65
  go_wp2_with (go_at_call 36; refine (known_any _ _).mono ?_; rintro e w' ⟨rfl, m, rfl⟩)
  go_ret
  exact ⟨rfl, below_drewN (Below.refl _ _) m⟩
set_option maxRecDepth 100000 in
theorem known_v (A : Option Addr) (n c : Nat) (s : Bool) (l : List Int) (w : World) (h : Rb w A n l) :
    Calls Tryz.prog 31 #[.agg #[.slice A n c, .bool s]] w fun e w' => e = .returned (.bool (kn ⟨l, s⟩)) ∧ Below w.heap.size w w' := by
  have O0 := (Own.at1 w 26 #[.slice A n c, .bool s] (g := w.heap.size) (by simp))
  have BB := (below_new (Below.refl w.heap.size w) (.cells #[.slice A n c, .bool s] 26))
  have HA := Lib.hid (operand_any A n c s l _ (h.step BB))
  have hlen := (nrm_len ⟨l, s⟩).2
  unfold kn
  rw [← kn_any]
  generalize nrm ⟨l, s⟩ = x at *
  have HC := Lib.hid (fun (u : World) (A1 : Option Addr) (c1 : Nat) (r : Rb u A1 x.l.length x.l) => containsFunc_any A1 x.l.length c1 x.l _ _ unkB u r (by omega) ent_unk (pd_unk u))
  clear h hlen O0
  have hfl := field0
  go_enter Tryz.func31, Tryz.ntmps31
  go_wp2_with (first
    | (go_at_call 66; refine HA.out.mono ?_; rintro e w1 ⟨A1, c1, rfl, r1, hb1⟩; replace BB := below_step BB hb1)
    | (go_at_call 64; refine (HC.out _ A1 c1 r1).mono ?_; rintro e w2 ⟨rfl, hb2⟩))
  go_ret
  exact ⟨rfl, below_step BB hb2⟩

set_option maxRecDepth 100000 in
theorem clone_any (A : Option Addr) (n c : Nat) (l : List Int) (w : World) (h : Rb w A n l) (hn : n ≤ 100000) (h0 : 0 < n) :
    Calls Tryz.prog 67 #[.slice A n c] w (RetB w l) := by
  obtain ⟨b, o, rfl, _, _⟩ := h.at_ h0
  replace h := Lib.hid h
  have hnil := fun (W : World) => Lib.run_eql_slice_nil (P := Tryz.prog) W 24 58 (some ⟨b, o, none⟩) n c 0 0 Tryz.underlying24
  go_enter Tryz.func67, Tryz.ntmps67
  go_wp2_with (at_builtin; refine wpList_catV rfl (.tmp 5) (.tmp 6) rfl rfl (below_new (Below.refl _ _) _) rfl (Nb.of_own (l := []) (Own.new w _ #[]) (fun _ h => by simp at h) rfl (Nat.le_refl _) (by unfold maxLen; omega)) rfl (h.out.alloc _) (by omega) ?_; intro A' c' w' hv hb)
  go_ret
  simp only [Nat.zero_add, List.nil_append] at hv ⊢
  exact RetB.mk' hv hb

set_option maxRecDepth 100000 in
set_option maxHeartbeats 1000000 in
theorem withSign_any (A : Option Addr) (n c : Nat) (s t : Bool) (l : List Int) (w : World) (h : Rb w A n l) :
    Calls Tryz.prog 32 #[.agg #[.slice A n c, .bool s], .bool t] w (RetV w ⟨(nrm ⟨l, s⟩).l, t⟩) := by
  have O0 := ((Own.at1 w 26 #[.slice A n c, .bool s] (g := w.heap.size) (by simp)).alloc (.cells #[.slice none 0 0, .bool false] 26))
  have O1 := (Own.at1 (w.alloc (.cells #[.slice A n c, .bool s] 26)) 26 #[.slice none 0 0, .bool false] (g := w.heap.size + 1) (by simp))
  have BB := (below_new (below_new (Below.refl w.heap.size w) (.cells #[.slice A n c, .bool s] 26)) (.cells #[.slice none 0 0, .bool false] 26))
  have HA := Lib.hid (operand_any A n c s l _ (h.step BB))
  have hlen := nrm_len ⟨l, s⟩
  generalize nrm ⟨l, s⟩ = x at *
  have HC := Lib.hid (fun (u : World) (A1 : Option Addr) (c1 : Nat) (r : Rb u A1 x.l.length x.l) => clone_any A1 x.l.length c1 x.l u r (by omega) hlen.1)
  clear h hlen O0
  have hfl := field0
  go_enter Tryz.func32, Tryz.ntmps32
  go_wp2_with (first
    | (go_at_call 66; refine HA.out.mono ?_; rintro e w1 ⟨A1, c1, rfl, r1, hb1⟩; replace BB := below_step BB hb1; replace O1 := O1.step hb1; have L1 := O1.lt)
    | (go_at_call 67; refine (HC.out _ A1 c1 r1).mono ?_; rintro e w2 ⟨A2, c2, rfl, n2, hb2⟩; replace O1 := O1.step hb2; have B2 := below_step BB hb2; have q0 := O1.cell 0; have q1 := O1.cell 1; have f0 := O1.free 0; have f1 := O1.free 1))
  exact ret_vec Tryz.results32 rfl rfl (O1.put2 _ _) (RetV.mk' (v := ⟨x.l, t⟩) ((n2.far2 L1 _ _).mono BB.size) (below_set2 B2 (by omega) _ _))

/-- What a call leaves that returns a vector, of its own or an argument's, its length within its capacity. -/
def RetRc (w : World) (v : V) (e : Ending) (w' : World) : Prop := ∃ A c, e = .returned (.agg #[.slice A v.l.length c, .bool v.s]) ∧ Rb w' A v.l.length v.l ∧ v.l.length ≤ c ∧ Below w.heap.size w w'
set_option maxRecDepth 100000 in
set_option maxHeartbeats 1000000 in
theorem operand_c (A : Option Addr) (n c : Nat) (s : Bool) (l : List Int) (w : World) (h : Rb w A n l) (hcap : n ≤ c) :
    Calls Tryz.prog 66 #[.agg #[.slice A n c, .bool s]] w (RetRc w (nrm ⟨l, s⟩)) := by
  have HC := Lib.hid (check_any A n c s l ((w.alloc (.cells #[.slice A n c, .bool s] 26)).alloc (.cells #[.slice none 0 0, .bool false] 26)) ((h.alloc _).alloc _))
  have B0 := below_new (below_new (Below.refl w.heap.size w) (.cells #[.slice A n c, .bool s] 26)) (.cells #[.slice none 0 0, .bool false] 26)
  have P0 := (Own.new w 26 #[.slice A n c, .bool s]).alloc (.cells #[.slice none 0 0, .bool false] 26)
  have Q0 := Own.at1 (w.alloc (.cells #[.slice A n c, .bool s] 26)) 26 #[.slice none 0 0, .bool false] (g := w.heap.size + 1) (by simp)
  rcases nrm_cases ⟨l, s⟩ with ⟨h1, h2⟩ | ⟨h1, h2⟩
  · rw [h2]
    simp only at h1
    rw [h1] at HC
    have hl := h.len
    subst hl
    clear h1 h2
    replace h := Lib.hid h
    go_enter Tryz.func66, Tryz.ntmps66
    go_wp2_with (go_at_call 30; refine HC.out.mono ?_; rintro e w' ⟨rfl, hb'⟩; replace B0 := below_step B0 hb'; replace P0 := P0.step hb'; replace Q0 := Q0.step hb'; have p0 := P0.cell 0; have p1 := P0.cell 1; have q0 := Q0.cell 0; have q1 := Q0.cell 1; have f0 := Q0.free 0; have f1 := Q0.free 1)
    exact ret_vec Tryz.results66 rfl rfl (Q0.put2 _ _) ⟨_, _, rfl, h.out.step (below_set2 B0 (by omega) _ _), hcap, below_set2 B0 (by omega) _ _⟩
  · rw [h2]
    have h1' : (chk l != 0) = true := by simp only at h1; simp [bne, h1]
    generalize chk l = z at *
    clear h2
    replace h := Lib.hid h
    go_enter Tryz.func66, Tryz.ntmps66
    go_wp2_with (first
      | (go_at_call 30; refine HC.out.mono ?_; rintro e w' ⟨rfl, hb'⟩; replace B0 := below_step B0 hb'; replace P0 := P0.step hb'; replace Q0 := Q0.step hb'; have p0 := P0.cell 0; have p1 := P0.cell 1; have Q0lt := Q0.lt)
      | (go_at_call 109; refine (single_any 2 _ (by decide)).mono ?_; rintro e w2 ⟨A2, c2, rfl, hN, hb2⟩; have B1 := below_step B0 hb2; replace Q0 := Q0.step hb2; have q0 := Q0.cell 0; have q1 := Q0.cell 1; have f0 := Q0.free 0; have f1 := Q0.free 1))
    exact ret_vec Tryz.results66 rfl rfl (Q0.put2 _ _) ⟨_, _, rfl, (hN.far2 Q0lt _ _).rd, hN.le, below_set2 B1 (by omega) _ _⟩

set_option maxRecDepth 100000 in
theorem slice_tail (b o n c : Nat) (hn : 0 < n) (hc : n ≤ c) : ∃ dp : Option Addr, (∀ W : World, (Instr.slice 24 (.slice (some ⟨b, o, none⟩) n c) (some (.int .i64 1)) none none).run Tryz.prog W = .ok (.slice dp (n - 1) (c - 1)) W) ∧
    (∀ W : World, (Instr.sliceAt 24 (.slice (some ⟨b, o, none⟩) n c) (some (.int .i64 1)) none none).run Tryz.prog W = .ok (.slice dp (n - 1) (c - 1)) W) ∧ (1 < n → dp = some ⟨b, o + 1, none⟩) := by
  have hz : ∀ W : World, (sizeOf 58).run Tryz.prog W = .ok 1 W := fun W => by kernel_rfl
  have key : ∀ W : World, (Instr.slice 24 (.slice (some ⟨b, o, none⟩) n c) (some (.int .i64 1)) none none).run Tryz.prog W = .ok (sliced (some ⟨b, o, none⟩) 1 n c 1) W := fun W => by
    have h := run_slice_l (P := Tryz.prog) (w := W) 24 (some ⟨b, o, none⟩) n c (by kernel_rfl) .i64 1 (by decide) (by omega)
    rw [h, show (Tryz.prog).elem 24 = 58 by kernel_rfl, hz W]
    rfl
  have e : sliced (some ⟨b, o, none⟩) 1 n c 1 = .slice (if c = 1 then some ⟨b, o, none⟩ else some ⟨b, o + 1, none⟩) (n - 1) (c - 1) := by
    unfold sliced
    split
    · rfl
    · have : (⟨b, o, none⟩ : Addr).add 1 = ⟨b, o + 1, none⟩ := by unfold Addr.add; split <;> simp_all
      simp [this]
  refine ⟨if c = 1 then some ⟨b, o, none⟩ else some ⟨b, o + 1, none⟩, fun W => ?_, fun W => ?_, fun h => if_neg (by omega)⟩
  · rw [key W, e]
  · rw [run_sliceAt_slice (P := Tryz.prog) (w := W) _ _ _ _ _ (by kernel_rfl), key W, e]
end Go.Proofs.YtgojnpblhfbdpaaGreatDoor

namespace Go.Proofs.YtgojnpblhfbdpaaGreatDoor
open Go Go.RowKit

end Go.Proofs.YtgojnpblhfbdpaaGreatDoor

namespace Go.Proofs.YtgojnpblhfbdpaaGreatDoor
open Go Go.RowKit

set_option maxRecDepth 100000 in
theorem truth_bd (v : V) : 0 ≤ truth v ∧ truth v ≤ 2 := redU_bd orI_bd _ _
end Go.Proofs.YtgojnpblhfbdpaaGreatDoor
