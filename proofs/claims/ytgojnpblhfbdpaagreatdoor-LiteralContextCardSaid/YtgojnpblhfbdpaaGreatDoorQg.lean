/-
  Contracts of the reference's arithmetic: Add, Neg, Sub, Mul, Pow, Cmp, Size, SCmp. Widths up to a thousand.
  Contracts of the reference's comparisons and division: Cmp, less, Size, SCmp, divide, DivMod, SDivMod. Widths up to some thousands.
  Contracts of the reference's division: divide, DivMod, SDivMod. Widths up to some thousands.
  Contracts of the reference's SDivMod and shifts. Widths up to some thousands.
  The plain mathematics of the signed division. No conditions; nothing of the program.
  Contracts of FromInt, Uint and Int of the program. Widths up to some thousands.
  Contracts of Uint and Int of the reference. Widths up to some thousands.
-/
import Derived.Test.YtgojnpblhfbdpaaGreatDoorQf

namespace Go.Proofs.YtgojnpblhfbdpaaGreatDoor.B
open Go Go.RowKit

theorem rAdd_any (A B : Option Addr) (n c x m d y : Nat) (w : World) (h : Rd w A n x) (h' : Rd w B m y) (hn : n ≤ 10000) (hm : m ≤ 10000) :
    Calls Tryz.prog 80 #[.slice A n c, .slice B m d] w (RetN w n ((x + y) % 2 ^ n)) := by
  go_enter Tryz.func80, Tryz.ntmps80
  go_wp2_with (first | (go_at_call 119; refine (rsum_any _ _ _ _ _ _ _ _ _ h h' hn hm).mono ?_; rintro e w1 ⟨l, hl, A1, c1, rfl, hv1, hb1⟩) | (go_at_call 118; refine (rFit_any _ _ _ _ _ _ hv1.rd (by omega) (by omega)).mono ?_; rintro e w2 ⟨A2, c2, rfl, hv2, hb2⟩))
  go_ret
  exact ⟨_, _, rfl, hv2.mono hb1.size, below_step hb1 hb2⟩
theorem rMul_any (A B : Option Addr) (n c x m d y : Nat) (w : World) (h : Rd w A n x) (h' : Rd w B m y) (hn : n ≤ 2000) (hm : m ≤ 9000) :
    Calls Tryz.prog 81 #[.slice A n c, .slice B m d] w (RetN w n ((x * y) % 2 ^ n)) := by
  have e : (x * y) % 2 ^ n = (x * (y % 2 ^ n)) % 2 ^ n := by rw [Nat.mul_mod_mod]
  rw [e]
  clear e
  go_enter Tryz.func81, Tryz.ntmps81
  go_wp2_with (first | (go_at_call 118; ((with_reducible refine (rFit_any _ _ _ _ _ _ h' (by omega) (by omega)).mono ?_); rintro e w1 ⟨A1, c1, rfl, hv1, hb1⟩)) | (go_at_call 120; refine (times_any _ _ _ _ _ _ _ _ _ (h.step hb1) hv1.rd hn hn).mono ?_; rintro e w2 ⟨l, hl, A2, c2, rfl, hv2, hb2⟩) | (go_at_call 118; ((with_reducible refine (rFit_any _ _ _ _ _ _ hv2.rd (by omega) (by omega)).mono ?_); rintro e w3 ⟨A3, c3, rfl, hv3, hb3⟩)))
  go_ret
  exact ⟨_, _, rfl, hv3.mono (Nat.le_trans hb1.size hb2.size), below_step (below_step hb1 hb2) hb3⟩
def RPowR (n x y m : Nat) (w : World) (v i : Value) (wr : World) : Prop := ∃ (k : Nat) (j : Int), k ≤ m ∧ i = .int .i64 j ∧ j = (m : Int) - 1 - k ∧ ∃ A' c', v = .slice A' n c' ∧ Nw wr w.heap.size A' n c' (PowV n x y m k) ∧ Below w.heap.size w wr
end Go.Proofs.YtgojnpblhfbdpaaGreatDoor.B

namespace Go.Proofs.YtgojnpblhfbdpaaGreatDoor.B
open Go Go.RowKit

theorem Tr.le {l x : Nat} (h : Tr l x) (hl : 0 < l) : 2 ^ (l - 1) ≤ x := by
  rcases h with h | h
  · omega
  · rcases Nat.lt_or_ge x (2 ^ (l - 1)) with h1 | h1
    · rw [high_bit h1 (Nat.le_refl _)] at h; cases h
    · exact h1
theorem Tr.lt {l m x y : Nat} (hx : x < 2 ^ l) (h : Tr m y) (hlm : l < m) : x < y := by
  have h1 := Tr.le h (by omega)
  have h2 := Nat.pow_le_pow_right (show 0 < 2 by decide) (show l ≤ m - 1 by omega)
  omega
set_option maxHeartbeats 1000000 in
theorem rCmp_any (A B : Option Addr) (n c x m d y : Nat) (w : World) (h : Rd w A n x) (h' : Rd w B m y) (hn : n ≤ 10000) (hm : m ≤ 10000) (hc : n ≤ c) (hd : m ≤ d) :
    Calls Tryz.prog 203 #[.slice A n c, .slice B m d] w fun e w' => e = .returned (.int .i64 (cmpI x y)) ∧ Below w.heap.size w w' := by
  have ca := Lib.hid (Trim_any A n c x w h hn hc)
  have cb : ∀ W, Rd W B m y → _ := fun W hW => Trim_any B m d y W hW hm hd
  have cb := Lib.hid cb
  go_enter Tryz.func203, Tryz.ntmps203
  go_wp2_with fail
  refine ca.out.mono ?_
  rintro e w1 ⟨l1, hl1, ht1, A1, c1, rfl, hv1, hb1⟩
  go_wp2_with fail
  refine (cb.out _ (h'.step hb1)).mono ?_
  rintro e w2 ⟨l2, hl2, ht2, A2, c2, rfl, hv2, hb2⟩
  have hb := below_step hb1 hb2
  have hr1 := hv1.rd.step hb2
  have hr2 := hv2.rd
  rcases Nat.lt_trichotomy l1 l2 with hlt | heq | hgt
  · have hxy : cmpI x y = -1 := by unfold cmpI; rw [if_pos (by have := Tr.lt hr1.1 ht2 hlt; omega)]
    have hxy := Lib.hid hxy
    have d0 : ((l1 : Int) == l2) = false := by simp; omega
    have d1 : decide ((l1 : Int) < l2) = true := by simp; omega
    clear ca cb h h' ht1 ht2 hv1 hv2 hr1 hr2
    go_wp2
    go_ret
    exact ⟨ret_i (by simp [hxy.out]), hb⟩
  · subst heq
    clear ca cb h h' ht1 ht2 hv1 hv2 hb1 hb2
    go_wp2
    go_loopw [5] (fun i wr => ∃ (k : Nat) (j : Int), k ≤ l1 ∧ i = .int .i64 j ∧ j = (l1 : Int) - 1 - k ∧ x / 2 ^ (l1 - k) = y / 2 ^ (l1 - k) ∧ ∃ q, wr = w2.drewN q) (fun i _ => (intOf i + 1).toNat)
    case atStart => exact ⟨0, _, Nat.zero_le _, rfl, by omega, by rw [Nat.sub_zero, Nat.div_eq_of_lt hr1.1, Nat.div_eq_of_lt hr2.1], 0, rfl⟩
    case round =>
      obtain ⟨k, j, hk, rfl, hj, he, q, rfl⟩ := hrel
      by_cases g1 : k < l1
      · obtain ⟨p, rfl⟩ : ∃ p : Nat, j = p := ⟨l1 - 1 - k, by omega⟩
        have hp : p = l1 - 1 - k := by omega
        have e1 := div_step x p
        have e2 := div_step y p
        rw [show p + 1 = l1 - k by omega] at e1 e2
        rw [← he] at e2
        obtain ⟨ab, ao, rfl, hl1', hc1'⟩ := hr1.at_ (show p < l1 by omega)
        obtain ⟨bb, bo, rfl, hl2', hc2'⟩ := hr2.at_ (show p < l1 by omega)
        obtain ⟨bx, hbx⟩ : ∃ b, b = x.testBit p := ⟨_, rfl⟩
        obtain ⟨bz, hbz⟩ : ∃ b, b = y.testBit p := ⟨_, rfl⟩
        rw [← hbx] at hc1' e1
        rw [← hbz] at hc2' e2
        have l0 : (0 : Int) ≤ (p : Int) := by omega
        have l1' : (p : Int) < l1 := by omega
        have hlt : bx = true → bz = false → y < x := fun a b => by
          subst a b
          rcases Nat.lt_or_ge y x with h1 | h1
          · exact h1
          · have := Nat.div_le_div_right (c := 2 ^ p) h1; simp at e1 e2; omega
        have hgt : bx = false → bz = true → x < y := fun a b => by
          subst a b
          rcases Nat.lt_or_ge x y with h1 | h1
          · exact h1
          · have := Nat.div_le_div_right (c := 2 ^ p) h1; simp at e1 e2; omega
        have heq : bx = bz → x / 2 ^ (l1 - (k + 1)) = y / 2 ^ (l1 - (k + 1)) := fun a => by
          rw [show l1 - (k + 1) = p by omega, e1, e2, a]
        have H := Lib.hid (And.intro hlt (And.intro hgt (And.intro heq hp)))
        clear hlt hgt heq e1 e2 he hbx hbz hr1 hr2 hj hp
        cases bx <;> cases bz
        all_goals
          go_wp2
          go_quiet (fail)
          go_wp2
        · go_roundw
          case rel => exact ⟨k + 1, _, by omega, rfl, by have := H.out.2.2.2; omega, H.out.2.2.1 (by first | trivial | rfl), _, by first | rfl | exact World.drewN_drewN _ _ _⟩
          case measure => simp [intOf]
        · go_ret
          exact ⟨ret_i (by have := H.out.2.1 (by first | trivial | rfl) (by first | trivial | rfl); unfold cmpI; rw [if_pos (by omega)]), by first | exact below_drewN (below_drewN hb _) _ | exact below_drewN hb _⟩
        · go_ret
          exact ⟨ret_i (by have := H.out.1 (by first | trivial | rfl) (by first | trivial | rfl); unfold cmpI; rw [if_neg (by omega), if_neg (by omega)]), by first | exact below_drewN (below_drewN hb _) _ | exact below_drewN hb _⟩
        · go_roundw
          case rel => exact ⟨k + 1, _, by omega, rfl, by have := H.out.2.2.2; omega, H.out.2.2.1 (by first | trivial | rfl), _, by first | rfl | exact World.drewN_drewN _ _ _⟩
          case measure => simp [intOf]
      · obtain rfl : k = l1 := by omega
        obtain rfl : j = -1 := by omega
        rw [Nat.sub_self, Nat.pow_zero, Nat.div_one, Nat.div_one] at he
        replace he := Lib.hid he
        clear hj
        go_wp2
        go_ret
        exact ⟨ret_i (by rw [he.out]; unfold cmpI; simp), below_drewN hb _⟩
  · have hxy : cmpI x y = 1 := by unfold cmpI; have := Tr.lt hr2.1 ht1 hgt; rw [if_neg (by omega), if_neg (by omega)]
    have hxy := Lib.hid hxy
    have d0 : ((l1 : Int) == l2) = false := by simp; omega
    have d1 : decide ((l1 : Int) < l2) = false := by simp; omega
    clear ca cb h h' ht1 ht2 hv1 hv2 hr1 hr2
    go_wp2
    go_ret
    exact ⟨ret_i (by simp [hxy.out]), hb⟩
theorem less_any (A B : Option Addr) (n c x m d y : Nat) (w : World) (h : Rd w A n x) (h' : Rd w B m y) (hn : n ≤ 10000) (hm : m ≤ 10000) (hc : n ≤ c) (hd : m ≤ d) :
    Calls Tryz.prog 172 #[.slice A n c, .slice B m d] w fun e w' => e = .returned (.bool (decide (x < y))) ∧ Below w.heap.size w w' := by
  have hz : decide (cmpI x y < 0) = decide (x < y) := by
    unfold cmpI
    by_cases h : x < y
    · rw [if_pos (by omega)]; simp [h]
    · rw [if_neg (by omega)]; split <;> simp [h]
  rw [← hz]
  have cc := Lib.hid (rCmp_any A B n c x m d y w h h' hn hm hc hd)
  clear hz h h'
  go_enter Tryz.func172, Tryz.ntmps172
  go_wp2_with (go_at_call 203; refine cc.out.mono ?_; rintro e w1 ⟨rfl, hb⟩)
  go_ret
  exact ⟨rfl, hb⟩
theorem size_any (A : Option Addr) (n c x : Nat) (w : World) (h : Rd w A n x) (hn : n ≤ 9000) (hc : n ≤ c) :
    Calls Tryz.prog 61 #[.slice A n c] w fun e w' => ∃ l, l ≤ n + 1 ∧ RetN w l (absv n x) e w' := by
  have hng := rNegative_any A n c x w h (by omega)
  unfold absv
  rcases e1 : neg n x with _ | _ <;> rw [e1] at hng
  · clear e1
    have ct := Lib.hid (Trim_any A n c x w h (by omega) hc)
    go_enter Tryz.func61, Tryz.ntmps61
    go_wp2_with (first | (go_at_call 60; refine hng.mono ?_; rintro e w1 ⟨rfl, rfl⟩) | (go_at_call 97; refine ct.out.mono ?_; rintro e w1 ⟨l, hl, _, A1, c1, rfl, hv, hb⟩))
    go_ret
    exact ⟨l, by omega, _, _, rfl, hv, hb⟩
  · clear e1
    have hx := Lib.hid h.1
    go_enter Tryz.func61, Tryz.ntmps61
    go_wp2_with (first | (go_at_call 60; refine hng.mono ?_; rintro e w1 ⟨rfl, rfl⟩) | (go_at_call 107; refine (power_any _ _ (by omega)).mono ?_; rintro e w1 ⟨A1, c1, rfl, hv1, hb1⟩) | (go_at_call 106; refine (minus_any _ _ _ _ _ _ _ _ _ hv1.rd (h.step hb1) (by omega) (by omega) (Nat.le_of_lt hx.out)).mono ?_; rintro e w2 ⟨A2, c2, rfl, hv2, hb2⟩))
    go_ret
    exact ⟨_, Nat.le_refl _, _, _, rfl, hv2.mono hb1.size, below_step hb1 hb2⟩
theorem cmp_nn {n x m y : Nat} (hx : x < 2 ^ n) (hy : y < 2 ^ m) (h : neg n x = true) (h' : neg m y = true) : cmpI (absv m y) (absv n x) = cmpI (sval n x) (sval m y) := by
  unfold absv
  rw [sval_neg h, sval_neg h', h, h']
  simp only [if_true]
  unfold cmpI
  have e1 : ((2 ^ m - y : Nat) : Int) < ((2 ^ n - x : Nat) : Int) ↔ (x : Int) - (2 ^ n : Nat) < (y : Int) - (2 ^ m : Nat) := by omega
  have e2 : ((2 ^ m - y : Nat) : Int) = ((2 ^ n - x : Nat) : Int) ↔ (x : Int) - (2 ^ n : Nat) = (y : Int) - (2 ^ m : Nat) := by omega
  simp only [e1, e2]
end Go.Proofs.YtgojnpblhfbdpaaGreatDoor.B

namespace Go.Proofs.YtgojnpblhfbdpaaGreatDoor.B
open Go Go.RowKit

set_option maxRecDepth 100000 in
/-- append([]bool{b}, r...). -/
theorem wpList_pre {w W : World} {ops : Array Oper} {rest : List Oper} {o : Oper} {a : Act} {Q : Exit → Act → World → Prop} (hgd : o.guard = none) (s x : Operand)
    (ho : o.op = .call { callee := .builtin .append, args := #[s, x], argTypes := #[75, 75] }) (hty : o.type = 75)
    (hb : Below W.heap.size W w) (H : Nat) (hH : w.heap.size = H) (b : Bool) (hs : a.eval s = .slice (some ⟨H, 0, none⟩) 1 1) {X : Option Addr} {m d y : Nat} (hx : a.eval x = .slice X m d) (hr : Rd w X m y) (hn : m ≤ 100000)
    (h : ∀ A' c' w', Nw w' W.heap.size A' (m + 1) c' (2 * y + b.toNat) → Below W.heap.size W w' → wpList Tryz.prog ops Q rest (a.put o.dst (.slice A' (m + 1) c')) w') : wpList Tryz.prog ops Q (o :: rest) a (w.alloc (.cells #[.bool b] 4)) := by
  subst hH
  have ho1 : Own (w.alloc (.cells #[.bool b] 4)) w.heap.size 4 (ba 1 b.toNat) := by
    have := Own.new w 4 #[.bool b]
    rwa [show (#[Value.bool b] : Array Value) = ba 1 b.toNat from by rw [ba, ← bl_single]] at this ⊢
  refine wpList_cat hgd s x ho hty (below_new hb _) hs (Nw.of_own ho1 (toNat_lt b) hb.size (by decide)) hx (hr.alloc _) (by omega) fun A' c' w' hv hb' => ?_
  rw [Nat.add_comm 1 m] at hv ⊢
  rw [show b.toNat + 2 ^ 1 * y = 2 * y + b.toNat by omega] at hv
  exact h A' c' w' hv hb'
set_option maxRecDepth 100000 in
theorem Nw.far {w : World} {A : Option Addr} {n c x B g k : Nat} (h : Nw w B A n c x) (hg : g < B) (v : Value) : Nw (w.setCell ⟨g, k, none⟩ v) B A n c x := by
  refine ⟨h.1, h.2.1, h.2.2.imp id fun ⟨g', cap, cur, h1, h2, h3, h4⟩ => ⟨g', cap, cur, h1, h2, ?_, h4⟩⟩
  exact (Below.heap_setCell w ⟨g, k, none⟩ v g' (by show g' ≠ g; omega)).trans h3
def RetQ (w : World) (n m q r : Nat) (e : Ending) (w' : World) : Prop := ∃ A c A' c', e = .returned (.tuple #[.slice A n c, .slice A' m c']) ∧ Nw w' w.heap.size A n c q ∧ Nw w' w.heap.size A' m c' r ∧ Below w.heap.size w w'
def RDivR (n x y : Nat) (w : World) (v i : Value) (u : World) : Prop :=
  ∃ (k : Nat) (j : Int), k ≤ n ∧ i = .int .i64 j ∧ j = (n : Int) - 1 - k ∧ ∃ A' c', v = .slice A' k c' ∧ Nw u (w.heap.size + 1) A' k c' (DR n x y k) ∧ Own u w.heap.size 4 (ba n (DQ n x y k)) ∧ Below w.heap.size w u
set_option maxRecDepth 100000 in
set_option maxHeartbeats 1000000 in
theorem divide_any (A B : Option Addr) (n c x m d y : Nat) (w : World) (h : Rd w A n x) (h' : Rd w B m y) (hn : n ≤ 9000) (hm : m ≤ 9000) (hd : m ≤ d) (hy : y ≠ 0) :
    Calls Tryz.prog 135 #[.slice A n c, .slice B m d] w (RetQ w n n (x / y) (x % y)) := by
  have hmk := fun W => run_makeB n (by omega) W
  go_enter Tryz.func135, Tryz.ntmps135
  go_wp2
  go_loopw [7, 8] (fun v i u => RDivR n x y w v i u) (fun _ i _ => (intOf i + 1).toNat)
  case atStart => exact ⟨0, _, Nat.zero_le _, rfl, by omega, none, 0, rfl, by rw [DR.zero h.1]; exact Nw.nil _ _, by rw [DQ.zero h.1]; exact Own.new w _ _, below_new (Below.refl _ _) _⟩
  case round =>
    obtain ⟨k, j, hk, rfl, hj, A', c', rfl, hv, oQ, hb⟩ := hrel
    by_cases g1 : k < n
    · obtain ⟨p, rfl⟩ : ∃ p : Nat, j = p := ⟨n - 1 - k, by omega⟩
      have hp : p = n - 1 - k := by omega
      obtain ⟨ab, ao, rfl, hlt0, hc0⟩ := h.at_ (show p < n by omega)
      have hcell := (hb.cell (p := ⟨ab, ao + p, none⟩) hlt0).trans hc0
      obtain ⟨hd1, hd2⟩ := D_next (x := x) (Nat.pos_of_ne_zero hy) g1
      have hqb := DQ_bit (x := x) (y := y) g1
      rw [← hp] at hd1 hd2 hqb
      obtain ⟨bx, hbx⟩ : ∃ b, b = x.testBit p := ⟨_, rfl⟩
      rw [← hbx] at hcell hd1 hd2
      have l0 : (0 : Int) ≤ (p : Int) := by omega
      have l1 : (p : Int) < n := by omega
      have hr' := h'.step hb
      have hle : ∀ (W : World) (A1 : Option Addr) (c1 : Nat), Nw W (w.heap.size + 1) A1 (k + 1) c1 (2 * DR n x y k + bx.toNat) → Rd W B m y → Calls Tryz.prog 172 #[.slice A1 (k + 1) c1, .slice B m d] W fun e w' => e = .returned (.bool (decide (2 * DR n x y k + bx.toNat < y))) ∧ Below W.heap.size W w' :=
        fun W A1 c1 hv1 hB => less_any A1 B (k + 1) c1 _ m d y W hv1.rd hB (by omega) (by omega) hv1.le hd
      by_cases hge : y ≤ 2 * DR n x y k + bx.toNat
      · rw [if_pos hge] at hd1 hd2
        rw [show decide (2 * DR n x y k + bx.toNat < y) = false by simp; omega] at hle
        have eQ : setb (DQ n x y k) p true = DQ n x y (k + 1) := by
          rw [hd2]; unfold setb; rw [hqb]; simp
        have H := Lib.hid (And.intro hp (And.intro hge (And.intro hd1 eQ)))
        have hle := Lib.hid hle
        have hgs := oQ.lt
        clear hp hge hd1 hd2 hqb eQ hbx hc0 hj h hy
        go_wp2_with (first | (at_builtin; refine wpList_pre rfl (.tmp 23) (.tmp 24) rfl rfl (Below.refl _ _) _ rfl _ rfl rfl hv.rd (by omega) ?_; intro A1 c1 w1 hv1 hb1; replace hv1 := hv1.mono (show w.heap.size + 1 ≤ wr.heap.size from hgs)) | (go_at_call 172; refine (hle.out _ _ _ hv1 (hr'.step hb1)).mono ?_; rintro e w2 ⟨rfl, hb2⟩) | (go_at_call 106; refine (minus_any _ _ _ _ _ _ _ _ _ (hv1.rd.step hb2) (hr'.step (below_step hb1 hb2)) (by omega) (by omega) H.out.2.1).mono ?_; rintro e w3 ⟨A3, c3, rfl, hv3, hb3⟩; have hB3 := below_step (below_step hb1 hb2) hb3; have oQ3 := oQ.step hB3; have cQ := (oQ3.cell p).trans (ba_get _ _ _ (by omega)); have fQ := oQ3.free p; have lQ := oQ3.lt))
        have oQ4 := oQ3.put p (.bool true)
        rw [ba_set true (by omega), H.out.2.2.2] at oQ4
        rw [← H.out.2.2.1] at hv3
        have hsz : w.heap.size + 1 ≤ w2.heap.size := by have := hb1.size; have := hb2.size; omega
        go_roundw
        case rel => exact ⟨k + 1, _, by omega, rfl, by have := H.out.1; omega, A3, c3, rfl, (hv3.mono hsz).far (Nat.lt_succ_self _) _, oQ4, below_set (below_step hb hB3) (Nat.le_refl _) _⟩
        case measure => simp [intOf]
      · rw [if_neg hge] at hd1 hd2
        simp only [Nat.mul_zero, Nat.add_zero, Nat.sub_zero] at hd1 hd2
        rw [show decide (2 * DR n x y k + bx.toNat < y) = true by simp; omega] at hle
        have H := Lib.hid (And.intro hp (And.intro hd1 hd2))
        have hle := Lib.hid hle
        have hgs := oQ.lt
        clear hp hge hd1 hd2 hqb hbx hc0 hj h hy
        go_wp2_with (first | (at_builtin; refine wpList_pre rfl (.tmp 23) (.tmp 24) rfl rfl (Below.refl _ _) _ rfl _ rfl rfl hv.rd (by omega) ?_; intro A1 c1 w1 hv1 hb1; replace hv1 := hv1.mono (show w.heap.size + 1 ≤ wr.heap.size from hgs)) | (go_at_call 172; refine (hle.out _ _ _ hv1 (hr'.step hb1)).mono ?_; rintro e w2 ⟨rfl, hb2⟩))
        have hB2 := below_step hb1 hb2
        have oQ2 := oQ.step hB2
        rw [← H.out.2.2] at oQ2
        rw [← H.out.2.1] at hv1
        go_roundw
        case rel => exact ⟨k + 1, _, by omega, rfl, by have := H.out.1; omega, A1, c1, rfl, hv1.step hb2, oQ2, below_step hb hB2⟩
        case measure => simp [intOf]
    · obtain rfl : k = n := by omega
      obtain rfl : j = -1 := by omega
      rw [DR.last] at hv
      rw [DQ.last] at oQ
      have hx := h.1
      clear hj hmk
      go_wp2
      go_ret2
      exact ⟨_, _, _, _, rfl, Nw.of_own oQ (Nat.lt_of_le_of_lt (Nat.div_le_self _ _) hx) (Nat.le_refl _) (by unfold maxLen; omega), hv.mono (Nat.le_succ _), hb⟩
set_option maxRecDepth 100000 in
theorem Tr.zero {l : Nat} (h : Tr l 0) : l = 0 := by
  rcases h with h | h
  · exact h
  · simp at h
set_option maxRecDepth 100000 in
theorem rDivMod_zero (A B : Option Addr) (n c m d : Nat) (w : World) (h' : Rd w B m 0) (hm : m ≤ 9000) (hd : m ≤ d) :
    Calls Tryz.prog 95 #[.slice A n c, .slice B m d] w fun e w' => e = .returned (.tuple #[.slice none 0 0, .slice none 0 0, .int .i64 7]) ∧ Below w.heap.size w w' := by
  have ct : Calls Tryz.prog 97 #[.slice B m d] w (RetN w 0 0) := (Trim_any B m d 0 w h' (by omega) hd).mono fun e w' ⟨l, _, ht, hr⟩ => by rw [ht.zero] at hr; exact hr
  clear h'
  go_enter Tryz.func95, Tryz.ntmps95
  go_wp2_with (go_at_call 97; refine ct.mono ?_; rintro e w1 ⟨A1, c1, rfl, hv, hb⟩)
  go_ret3
  exact ⟨rfl, hb⟩
set_option maxRecDepth 100000 in
theorem trim_nz (B : Option Addr) (m d y : Nat) (w : World) (h' : Rd w B m y) (hm : m ≤ 9000) (hd : m ≤ d) (hy : y ≠ 0) :
    Calls Tryz.prog 97 #[.slice B m d] w fun e w' => ∃ l : Nat, ((l : Int) == 0) = false ∧ RetN w l y e w' :=
  (Trim_any B m d y w h' (by omega) hd).mono fun e w' ⟨l, _, ht, hr⟩ => ⟨l, by
    have : l ≠ 0 := by
      rintro rfl
      obtain ⟨A1, c1, _, hv, _⟩ := hr
      have := hv.1
      simp at this
      exact hy this
    simp; omega, hr⟩
set_option maxRecDepth 100000 in
theorem rDivMod_any (A B : Option Addr) (n c x m d y : Nat) (w : World) (h : Rd w A n x) (h' : Rd w B m y) (hn : n ≤ 9000) (hm : m ≤ 9000) (hd : m ≤ d) (hy : y ≠ 0) :
    Calls Tryz.prog 95 #[.slice A n c, .slice B m d] w (RetD w n (x / y) (x % y)) := by
  have ct := Lib.hid (trim_nz B m d y w h' hm hd hy)
  have e1 : x / y = (x / y) % 2 ^ n := (Nat.mod_eq_of_lt (Nat.lt_of_le_of_lt (Nat.div_le_self _ _) h.1)).symm
  have e2 : x % y = (x % y) % 2 ^ n := (Nat.mod_eq_of_lt (Nat.lt_of_le_of_lt (Nat.mod_le _ _) h.1)).symm
  rw [e1, e2]
  clear e1 e2
  go_enter Tryz.func95, Tryz.ntmps95
  go_wp2_with (first | (go_at_call 97; refine ct.out.mono ?_; rintro e w1 ⟨l, hl0, A1, c1, rfl, hv1, hb1⟩) | (go_at_call 135; refine (divide_any _ _ _ _ _ _ _ _ _ (h.step hb1) (h'.step hb1) hn hm hd hy).mono ?_; rintro e w2 ⟨A2, c2, A3, c3, rfl, hv2, hv3, hb2⟩) | (go_at_call 118; (first | ((with_reducible refine (rFit_any _ _ _ _ _ _ hv2.rd (by omega) (by omega)).mono ?_); rintro e w3 ⟨A4, c4, rfl, hv4, hb3⟩) | ((with_reducible refine (rFit_any _ _ _ _ _ _ (hv3.step hb3).rd (by omega) (by omega)).mono ?_); rintro e w4 ⟨A5, c5, rfl, hv5, hb4⟩))))
  go_ret3
  exact ⟨_, _, _, _, rfl, (hv4.mono (Nat.le_trans hb1.size hb2.size)).step hb4, hv5.mono (Nat.le_trans hb1.size (Nat.le_trans hb2.size hb3.size)), below_step (below_step (below_step hb1 hb2) hb3) hb4⟩

end Go.Proofs.YtgojnpblhfbdpaaGreatDoor.B

namespace Go.Proofs.YtgojnpblhfbdpaaGreatDoor.B
open Go Go.RowKit

def RShR (n x m : Nat) (fill : Bool) (w : World) (v i : Value) (wr : World) : Prop :=
  ∃ k, k ≤ n ∧ i = .int .i64 k ∧ ∃ A' c', v = .slice A' k c' ∧ Nw wr w.heap.size A' k c' (mkn k fun i => if i + m < n then x.testBit (i + m) else fill) ∧ Below w.heap.size w wr
end Go.Proofs.YtgojnpblhfbdpaaGreatDoor.B

namespace Go.Proofs.YtgojnpblhfbdpaaGreatDoor.B

theorem neg_iff {n x : Nat} (hn : 0 < n) (hx : x < 2 ^ n) : neg n x = true ↔ 2 ^ (n - 1) ≤ x := by
  have hp : 2 ^ n = 2 * 2 ^ (n - 1) := by rw [← pow_s]; congr 1; omega
  have e := div_step x (n - 1)
  rw [show n - 1 + 1 = n by omega, Nat.div_eq_of_lt hx] at e
  have h0 := pow_p (n - 1)
  unfold neg
  constructor
  · intro h
    rw [h] at e
    have := Nat.div_mul_le_self x (2 ^ (n - 1))
    rw [e] at this
    simpa using this
  · intro h
    have : 1 ≤ x / 2 ^ (n - 1) := (Nat.le_div_iff_mul_le h0).2 (by omega)
    cases hb : x.testBit (n - 1)
    · rw [hb] at e; simp at e; omega
    · rfl
theorem neg_zero_width {x : Nat} (hx : x < 2 ^ 0) : neg 0 x = false := by
  have : x = 0 := by simpa using hx
  subst this; rfl
theorem absv_le {n x : Nat} (hx : x < 2 ^ n) (h : neg n x = true) : absv n x = 2 ^ n - x ∧ absv n x ≤ 2 ^ (n - 1) := by
  have e : absv n x = 2 ^ n - x := by unfold absv; rw [h]; rfl
  rcases Nat.eq_zero_or_pos n with rfl | hn
  · rw [neg_zero_width hx] at h; cases h
  · have := (neg_iff hn hx).1 h
    have hp : 2 ^ n = 2 * 2 ^ (n - 1) := by rw [← pow_s]; congr 1; omega
    exact ⟨e, by omega⟩
theorem absv_pos {n x : Nat} (h : neg n x = false) : absv n x = x := by unfold absv; rw [h]; rfl
/-- The remainder's size and sign. -/
theorem sr_abs {n x m y : Nat} (hx : x < 2 ^ n) (hY : 0 < absv m y) : absv n (sr n x m y) < absv m y ∧ (sr n x m y = 0 ∨ neg n (sr n x m y) = neg n x) := by
  have hr := Nat.mod_lt (absv n x) hY
  have hle := Nat.mod_le (absv n x) (absv m y)
  unfold sr
  generalize absv n x % absv m y = r at *
  rcases hn : neg n x with _ | _
  · rw [absv_pos hn] at hle
    simp only [Bool.false_eq_true, if_false]
    have hneg : neg n r = false := by
      rcases Nat.eq_zero_or_pos n with rfl | h0
      · exact neg_zero_width (by omega)
      · cases h1 : neg n r
        · rfl
        · have h2 := (neg_iff h0 (by omega)).1 h1
          have h3 := (neg_iff h0 hx).2 (by omega)
          rw [hn] at h3; cases h3
    rw [absv_pos hneg]
    exact ⟨hr, .inr hneg⟩
  · obtain ⟨e, hb⟩ := absv_le hx hn
    rcases Nat.eq_zero_or_pos n with rfl | h0
    · rw [neg_zero_width hx] at hn; cases hn
    have hp : 2 ^ n = 2 * 2 ^ (n - 1) := by rw [← pow_s]; congr 1; omega
    have hpp := pow_p (n - 1)
    simp only [if_true]
    rcases Nat.eq_zero_or_pos r with rfl | hr0
    · have e0 : subv n 0 0 = 0 := by unfold subv; simp
      rw [e0]
      refine ⟨?_, .inl rfl⟩
      have : neg n 0 = false := by simp [neg]
      rw [absv_pos this]; exact hY
    · have hlt : 2 ^ n - r < 2 ^ n := Nat.sub_lt (pow_p n) hr0
      have hrl : r < 2 ^ n := by omega
      have e1 : subv n 0 r = 2 ^ n - r := by unfold subv; rw [Nat.mod_eq_of_lt hrl, Nat.zero_add, Nat.mod_eq_of_lt hlt]
      rw [e1]
      have hge : 2 ^ (n - 1) ≤ 2 ^ n - r := by omega
      have h1 : neg n (2 ^ n - r) = true := (neg_iff h0 hlt).2 hge
      refine ⟨?_, .inr h1⟩
      rw [(absv_le hlt h1).1]
      omega
/-- The divisor as it is extended or shortened to the width of the dividend. -/
def fitv (n m y k : Nat) : Nat := if m ≤ n then ext m y k (neg m y) else y % 2 ^ n
theorem ext_start (m y : Nat) (f : Bool) : ext m y m f = y := by unfold ext; cases f <;> simp
theorem ext_step {m y k : Nat} (f : Bool) (hk : m ≤ k) : ext m y (k + 1) f = ext m y k f + 2 ^ k * f.toNat := by
  unfold ext
  cases f
  · simp
  · rw [if_pos rfl, if_pos rfl]
    have e1 : 2 ^ k = 2 ^ m * 2 ^ (k - m) := by rw [← Nat.pow_add]; congr 1; omega
    have e2 : 2 ^ (k + 1 - m) = 2 * 2 ^ (k - m) := by rw [← pow_s]; congr 1; omega
    have hp := pow_p (k - m)
    rw [e2, e1, Nat.mul_sub, Nat.mul_sub, Bool.toNat_true, Nat.mul_one, Nat.mul_one]
    have : 2 ^ m * (2 * 2 ^ (k - m)) = 2 * (2 ^ m * 2 ^ (k - m)) := by rw [← Nat.mul_assoc, Nat.mul_comm (2 ^ m) 2, Nat.mul_assoc]
    have := Nat.le_mul_of_pos_right (2 ^ m) hp
    omega
theorem fitv_start {n m y : Nat} (hy : y < 2 ^ m) : fitv n m y m = y % 2 ^ n := by
  unfold fitv
  split
  · rename_i h
    rw [ext_start, Nat.mod_eq_of_lt (Nat.lt_of_lt_of_le hy (Nat.pow_le_pow_right (by decide) h))]
  · rfl
theorem fitv_step {n m y k : Nat} (hk : m ≤ k) (hkn : k < n) : fitv n m y (k + 1) = fitv n m y k + 2 ^ k * (neg m y).toNat := by
  unfold fitv
  rw [if_pos (by omega), if_pos (by omega)]
  exact ext_step _ hk
theorem fitv_lt {n m y k : Nat} (hy : y < 2 ^ m) (hk : m ≤ k) (hkn : k < n) : fitv n m y k < 2 ^ k := by
  unfold fitv
  rw [if_pos (by omega)]
  exact ext_lt hy hk
theorem emod_of {a b N : Int} (k : Int) (h : a = b + N * k) : a % N = b % N := by rw [h, Int.add_mul_emod_self_left]
/-- The value of the fitted divisor, modulo 2^n. -/
theorem fitv_val {n m y k : Nat} (_hy : y < 2 ^ m) (hk : (m ≤ n ∧ k = n) ∨ n < m) : ∃ z : Int, (fitv n m y k : Int) = sval m y + ((2 ^ n : Nat) : Int) * z := by
  rcases hk with ⟨h1, rfl⟩ | h1
  · unfold fitv
    rw [if_pos h1]
    rcases hn : neg m y with _ | _
    · exact ⟨0, by rw [sval_pos hn]; simp [ext]⟩
    · exact ⟨1, by rw [sval_neg hn, ext_val h1]; omega⟩
  · unfold fitv
    rw [if_neg (by omega)]
    have e1 := Int.emod_add_mul_ediv (y : Int) ((2 ^ n : Nat) : Int)
    have e0 : ((y % 2 ^ n : Nat) : Int) = (y : Int) - ((2 ^ n : Nat) : Int) * ((y : Int) / ((2 ^ n : Nat) : Int)) := by
      rw [Int.natCast_emod]; omega
    have hp : ((2 ^ m : Nat) : Int) = ((2 ^ n : Nat) : Int) * ((2 ^ (m - n) : Nat) : Int) := by
      rw [← Int.natCast_mul, ← Nat.pow_add]; congr 2; omega
    rcases hn : neg m y with _ | _
    · exact ⟨-((y : Int) / ((2 ^ n : Nat) : Int)), by rw [sval_pos hn, e0, Int.mul_neg]; omega⟩
    · refine ⟨((2 ^ (m - n) : Nat) : Int) - ((y : Int) / ((2 ^ n : Nat) : Int)), ?_⟩
      rw [sval_neg hn, e0, Int.mul_sub, ← hp]; omega
theorem subv_val (n q : Nat) : ∃ z : Int, (subv n 0 q : Int) = -(q : Int) + ((2 ^ n : Nat) : Int) * z := by
  unfold subv
  have hq := mod_lt' q n
  have e1 : ((q % 2 ^ n : Nat) : Int) = (q : Int) - ((2 ^ n : Nat) : Int) * ((q : Int) / ((2 ^ n : Nat) : Int)) := by
    have := Int.emod_add_mul_ediv (q : Int) ((2 ^ n : Nat) : Int)
    rw [Int.natCast_emod]; omega
  have e2 : (((0 + (2 ^ n - q % 2 ^ n)) % 2 ^ n : Nat) : Int) = ((2 ^ n - q % 2 ^ n : Nat) : Int) - ((2 ^ n : Nat) : Int) * (((2 ^ n - q % 2 ^ n : Nat) : Int) / ((2 ^ n : Nat) : Int)) := by
    have := Int.emod_add_mul_ediv ((2 ^ n - q % 2 ^ n : Nat) : Int) ((2 ^ n : Nat) : Int)
    rw [Nat.zero_add, Int.natCast_emod]; omega
  have e3 : ((2 ^ n - q % 2 ^ n : Nat) : Int) = ((2 ^ n : Nat) : Int) - ((q % 2 ^ n : Nat) : Int) := by omega
  refine ⟨1 + (q : Int) / ((2 ^ n : Nat) : Int) - (((2 ^ n - q % 2 ^ n : Nat) : Int) / ((2 ^ n : Nat) : Int)), ?_⟩
  rw [e2]
  generalize ((2 ^ n - q % 2 ^ n : Nat) : Int) / ((2 ^ n : Nat) : Int) = v at *
  rw [e3, e1, Int.mul_sub, Int.mul_add]
  omega
theorem sval_abs {n x : Nat} (hx : x < 2 ^ n) : sval n x = if neg n x then -(absv n x : Int) else (absv n x : Int) := by
  rcases hn : neg n x with _ | _
  · rw [sval_pos hn, absv_pos hn]; rfl
  · rw [sval_neg hn, (absv_le hx hn).1, if_pos rfl]; omega
/-- The signed division's equation, modulo 2^n. -/
theorem sdiv_eq {n x m y k : Nat} (hx : x < 2 ^ n) (hy : y < 2 ^ m) (hk : (m ≤ n ∧ k = n) ∨ n < m) : ((sq n x m y * fitv n m y k) % 2 ^ n + sr n x m y) % 2 ^ n = x := by
  obtain ⟨zd, hd⟩ := fitv_val (n := n) (k := k) hy hk
  have hs := sval_abs hx
  have ht := sval_abs hy
  have hdm := Nat.div_add_mod (absv n x) (absv m y)
  obtain ⟨z1, h1⟩ := subv_val n (absv n x / absv m y)
  obtain ⟨z2, h2⟩ := subv_val n (absv n x % absv m y)
  have hxs : ∃ z3 : Int, (x : Int) = sval n x + ((2 ^ n : Nat) : Int) * z3 := by
    rcases hn : neg n x with _ | _
    · exact ⟨0, by rw [sval_pos hn]; omega⟩
    · exact ⟨1, by rw [sval_neg hn]; omega⟩
  obtain ⟨z3, h3⟩ := hxs
  have goal : ∃ z : Int, ((sq n x m y : Int) * (fitv n m y k : Int) + (sr n x m y : Int)) = (x : Int) + ((2 ^ n : Nat) : Int) * z := by
    unfold sq sr
    have hX : (absv n x : Int) = (absv m y : Int) * ((absv n x / absv m y : Nat) : Int) + ((absv n x % absv m y : Nat) : Int) := by
      rw [← Int.natCast_mul, ← Int.natCast_add]; congr 1; omega
    generalize ((2 ^ n : Nat) : Int) = N at *
    generalize hq : absv n x / absv m y = q at *
    generalize hr : absv n x % absv m y = r at *
    rcases hn : neg n x with _ | _ <;> rcases hm : neg m y with _ | _ <;> rw [hn] at hs <;> rw [hm] at ht <;> simp at hs ht ⊢ <;> rw [hd, h3, hs, ht, hX]
    · refine ⟨(q : Int) * zd - z3, ?_⟩
      simp only [Int.mul_add, Int.mul_sub, Int.mul_comm, Int.mul_left_comm, Int.mul_assoc]; omega
    · rw [h1]
      obtain ⟨K, e⟩ : ∃ K : Int, (-(q : Int) + N * z1) * (-(absv m y : Int) + N * zd) = (absv m y : Int) * q + N * K := ⟨-((q : Int)) * zd - z1 * (absv m y) + N * z1 * zd, by
        simp only [Int.add_mul, Int.mul_add, Int.mul_sub, Int.neg_mul, Int.mul_neg, Int.mul_comm, Int.mul_left_comm, Int.mul_assoc]; omega⟩
      refine ⟨K - z3, ?_⟩
      rw [e, Int.mul_sub]; omega
    · rw [h1, h2]
      obtain ⟨K, e⟩ : ∃ K : Int, (-(q : Int) + N * z1) * ((absv m y : Int) + N * zd) = -((absv m y : Int) * q) + N * K := ⟨-((q : Int)) * zd + z1 * (absv m y) + N * z1 * zd, by
        simp only [Int.add_mul, Int.mul_add, Int.neg_mul, Int.mul_neg, Int.mul_comm, Int.mul_left_comm, Int.mul_assoc]; omega⟩
      refine ⟨K + z2 - z3, ?_⟩
      rw [e, Int.mul_sub, Int.mul_add]; omega
    · rw [h2]
      obtain ⟨K, e⟩ : ∃ K : Int, (q : Int) * (-(absv m y : Int) + N * zd) = -((absv m y : Int) * q) + N * K := ⟨(q : Int) * zd, by
        simp only [Int.mul_add, Int.mul_neg, Int.mul_comm, Int.mul_left_comm, Int.mul_assoc]⟩
      refine ⟨K + z2 - z3, ?_⟩
      rw [e, Int.mul_sub, Int.mul_add]; omega
  obtain ⟨z, hz⟩ := goal
  rw [Nat.mod_add_mod]
  have h4 : ((((sq n x m y * fitv n m y k) + sr n x m y) % 2 ^ n : Nat) : Int) = (x : Int) := by
    rw [Int.natCast_emod, Int.natCast_add, Int.natCast_mul, hz, Int.add_mul_emod_self_left]
    exact Int.emod_eq_of_lt (by omega) (by omega)
  exact Int.ofNat_inj.1 h4
theorem udiv_eq {n x y : Nat} (hx : x < 2 ^ n) : ((x / y * y) % 2 ^ n + x % y) % 2 ^ n = x := by
  rw [Nat.mod_add_mod, Nat.mul_comm, Nat.div_add_mod, Nat.mod_eq_of_lt hx]

end Go.Proofs.YtgojnpblhfbdpaaGreatDoor.B

namespace Go.Proofs.YtgojnpblhfbdpaaGreatDoor.B
open Go Go.RowKit

theorem shr_min (z : Int) (hz : -9223372036854775808 ≤ z ∧ z ≤ 9223372036854775807) (k : Nat) (hk : 64 ≤ k) : z / (2 : Int) ^ k = z / (2 : Int) ^ 64 := by
  have e : (2 : Int) ^ k = (2 : Int) ^ 64 * (2 : Int) ^ (k - 64) := by rw [← Int.pow_add]; congr 1; omega
  rw [e, ← Int.ediv_ediv_of_nonneg (Int.pow_nonneg (by decide))]
  have hp : (1 : Int) ≤ (2 : Int) ^ (k - 64) := by rw [p2]; have := pow_p (k - 64); omega
  rcases (show z / (2 : Int) ^ 64 = 0 ∨ z / (2 : Int) ^ 64 = -1 by omega) with h | h <;> rw [h]
  · simp
  · exact Int.ediv_eq_neg_one_of_neg_of_le (by decide) (by omega)
def FiB (z : Int) (m g : Nat) (w : World) (i : Value) (u : World) : Prop := ∃ k, k ≤ m ∧ i = .int .i64 k ∧ Own u g 4 (ba m (fi z k)) ∧ Below w.heap.size w u
theorem fromInt_any (z : Int) (m : Nat) (w : World) (hz : -9223372036854775808 ≤ z ∧ z ≤ 9223372036854775807) (hm : m ≤ 128) :
    Calls Tryz.prog 70 #[.int .i64 z, .int .i64 m] w fun e w' => ∃ A' c', e = .returned (.tuple #[.slice A' m c', .int .i64 0]) ∧ Nw w' w.heap.size A' m c' (fi z m) ∧ Below w.heap.size w w' := by
  have d1 : decide ((m : Int) < 0) = false := by simp
  have d2 : decide ((128 : Int) < m) = false := by simp; omega
  have hmk := fun W => run_makeB m (by omega) W
  go_enter Tryz.func70, Tryz.ntmps70
  go_wp2
  go_loopw [17] (fun i u => FiB z m w.heap.size w i u) (fun i _ => m - (intOf i).toNat)
  case atStart => exact ⟨0, Nat.zero_le _, rfl, by rw [show fi z 0 = 0 by simp [fi, Int.emod_one]]; exact Own.new w _ _, below_new (Below.refl _ _) _⟩
  case round =>
    obtain ⟨k, hk, rfl, o, hb⟩ := hrel
    by_cases g1 : k < m
    · have hst := fi_step z k
      have d3 : decide ((k : Int) < m) = true := by simpa using g1
      have l0 : (0 : Int) ≤ k := by omega
      have cc := (o.cell k).trans (ba_get _ _ _ g1)
      have ff := o.free k
      have o2 := o.put k (.bool (z / (2 : Int) ^ k % 2 == 1))
      rw [ba_set _ g1, setb_new (fi_lt _ _), ← hst] at o2
      have hbit : (bits BinOp.and IntKind.i64 (z / (2 : Int) ^ min k 64) 1 == 1) = (z / (2 : Int) ^ k % 2 == 1) := by
        rw [and_one]
        rcases Nat.le_total k 64 with h | h
        · rw [Nat.min_eq_left h]
        · rw [Nat.min_eq_right h, shr_min z hz k h]
      replace hbit := Lib.hid hbit
      replace o2 := Lib.hid o2
      clear hst o
      go_wp2
      go_roundw
      case rel => exact ⟨k + 1, by omega, by go_num, by rw [hbit.out]; exact o2.out, below_set hb (Nat.le_refl _) _⟩
      case measure => simp [intOf]; omega
    · obtain rfl : k = m := by omega
      go_wp2
      go_ret2
      exact ⟨_, _, rfl, Nw.of_own o (fi_lt _ _) (Nat.le_refl _) (by unfold maxLen; omega), hb⟩
theorem fromInt_no (z m : Int) (w : World) (hm : m < 0 ∨ 128 < m) :
    Calls Tryz.prog 70 #[.int .i64 z, .int .i64 m] w fun e w' => e = .returned (.tuple #[.slice none 0 0, .int .i64 1]) ∧ w = w' := by
  rcases hm with h | h
  · have d : decide (m < 0) = true := by simpa using h
    go_enter Tryz.func70, Tryz.ntmps70
    go_wp2
    go_ret2
    exact ⟨rfl, rfl⟩
  · have d : decide (m < 0) = false := by simp; omega
    have d2 : decide (128 < m) = true := by simpa using h
    go_enter Tryz.func70, Tryz.ntmps70
    go_wp2
    go_ret2
    exact ⟨rfl, rfl⟩
theorem rFromInt_no (z m : Int) (w : World) (hm : m < 0 ∨ 128 < m) :
    Calls Tryz.prog 52 #[.int .i64 z, .int .i64 m] w fun e w' => e = .returned (.tuple #[.slice none 0 0, .int .i64 1]) ∧ w = w' := by
  rcases hm with h | h
  · have d : decide (m < 0) = true := by simpa using h
    go_enter Tryz.func52, Tryz.ntmps52
    go_wp2
    go_ret2
    exact ⟨rfl, rfl⟩
  · have d : decide (m < 0) = false := by simp; omega
    have d2 : decide (128 < m) = true := by simpa using h
    go_enter Tryz.func52, Tryz.ntmps52
    go_wp2
    go_ret2
    exact ⟨rfl, rfl⟩

/-- The unsigned value as a word, and whether it fits. -/
def uOk (x : Nat) : Bool := decide (x < 2 ^ 64)
def uVal (x : Nat) : Int := if x < 2 ^ 64 then x else 0
theorem or_bit (S k : Nat) (hS : S < 2 ^ k) (hk : k < 64) : bits BinOp.or IntKind.u64 (S : Int) ((2 ^ k : Nat) : Int) = ((S + 2 ^ k : Nat) : Int) := by
  have hp : 2 ^ k < 2 ^ 64 := Nat.pow_lt_pow_right (by decide) hk
  show IntKind.u64.wrap ((BitVec.ofInt 64 (S : Int) ||| BitVec.ofInt 64 ((2 ^ k : Nat) : Int)).toNat : Int) = _
  rw [BitVec.toNat_or, BitVec.ofInt_natCast, BitVec.ofInt_natCast, BitVec.toNat_ofNat, BitVec.toNat_ofNat, Nat.mod_eq_of_lt (by omega), Nat.mod_eq_of_lt hp]
  have e : S ||| 2 ^ k = S + 2 ^ k := by
    rw [Nat.add_comm, ← Nat.mul_one (2 ^ k), Nat.or_comm]
    exact (Nat.two_pow_add_eq_or_of_lt hS 1).symm
  rw [e]
  have : S + 2 ^ k < 2 ^ 64 := by
    have := Nat.pow_le_pow_right (show 0 < 2 by decide) (show k + 1 ≤ 64 by omega)
    have := pow_s k
    omega
  rw [IntKind.wrap_u64]; omega
def UiR (n x : Nat) (v i : Value) : Prop := ∃ k, k ≤ n ∧ i = .int .i64 k ∧ v = .int .u64 ((x % 2 ^ k : Nat) : Int) ∧ x % 2 ^ k < 2 ^ 64
/-- The signed value as a word, and whether it fits. -/
def iFit (n x : Nat) : Prop := -9223372036854775808 ≤ sval n x ∧ sval n x ≤ 9223372036854775807
instance (n x : Nat) : Decidable (iFit n x) := by unfold iFit; infer_instance
def iOk (n x : Nat) : Bool := decide (iFit n x)
def iVal (n x : Nat) : Int := if iFit n x then sval n x else 0
theorem xor_nat (S k : Nat) (hS : S < 2 ^ k) : S ^^^ 2 ^ k = S + 2 ^ k := by
  apply Nat.eq_of_testBit_eq
  intro i
  have h1 := add_bit (x := S) (k := k) true hS i
  rw [Bool.toNat_true, Nat.mul_one] at h1
  rw [h1, Nat.testBit_xor, Nat.testBit_two_pow]
  by_cases h : i = k
  · subst h; rw [high_bit hS (Nat.le_refl _)]; simp
  · have : ¬ k = i := fun e => h e.symm
    simp [h, this]
theorem xor_pos (S k : Nat) (hS : S < 2 ^ k) (hk : k < 63) : bits BinOp.xor IntKind.i64 (S : Int) ((2 ^ k : Nat) : Int) = ((S + 2 ^ k : Nat) : Int) := by
  have hb := Nat.pow_le_pow_right (show 0 < 2 by decide) (show k + 1 ≤ 63 by omega)
  have hs := pow_s k
  show IntKind.i64.wrap ((BitVec.ofInt 64 (S : Int) ^^^ BitVec.ofInt 64 ((2 ^ k : Nat) : Int)).toNat : Int) = _
  rw [BitVec.toNat_xor, BitVec.ofInt_natCast, BitVec.ofInt_natCast, BitVec.toNat_ofNat, BitVec.toNat_ofNat, Nat.mod_eq_of_lt (by omega), Nat.mod_eq_of_lt (by omega), xor_nat S k hS, IntKind.wrap_i64]
  omega
theorem xor_neg (c k : Nat) (hc : c < 2 ^ k) (hk : k < 63) : bits BinOp.xor IntKind.i64 (-(c : Int) - 1) ((2 ^ k : Nat) : Int) = -(c : Int) - 1 - ((2 ^ k : Nat) : Int) := by
  have hb := Nat.pow_le_pow_right (show 0 < 2 by decide) (show k + 1 ≤ 63 by omega)
  have hs := pow_s k
  show IntKind.i64.wrap ((BitVec.ofInt 64 (-(c : Int) - 1) ^^^ BitVec.ofInt 64 ((2 ^ k : Nat) : Int)).toNat : Int) = _
  have e1 : BitVec.ofInt 64 (-(c : Int) - 1) = ~~~ (BitVec.ofNat 64 c) := by
    apply BitVec.eq_of_toNat_eq
    rw [BitVec.toNat_ofInt, BitVec.toNat_not, BitVec.toNat_ofNat, Nat.mod_eq_of_lt (by omega)]
    omega
  have e3 : ~~~ (BitVec.ofNat 64 c) ^^^ BitVec.ofInt 64 ((2 ^ k : Nat) : Int) = ~~~ (BitVec.ofNat 64 c ^^^ BitVec.ofNat 64 (2 ^ k)) := by
    rw [BitVec.ofInt_natCast]
    apply BitVec.eq_of_getLsbD_eq
    intro i hi
    simp only [BitVec.getLsbD_xor, BitVec.getLsbD_not]
    have : decide (i < 64) = true := by simpa using hi
    rw [this]
    cases (BitVec.ofNat 64 c).getLsbD i <;> cases (BitVec.ofNat 64 (2 ^ k)).getLsbD i <;> rfl
  rw [e1, e3, BitVec.toNat_not, BitVec.toNat_xor, BitVec.toNat_ofNat, BitVec.toNat_ofNat, Nat.mod_eq_of_lt (show c < 2 ^ 64 by omega), Nat.mod_eq_of_lt (show 2 ^ k < 2 ^ 64 by omega), xor_nat c k hc, IntKind.wrap_i64]
  omega
/-- The word after k bits. -/
def IiR (n x : Nat) (sg : Bool) (v i : Value) : Prop := ∃ (k : Nat) (z : Int), k ≤ n ∧ i = .int .i64 k ∧ v = .int .i64 z ∧ z = (x % 2 ^ k : Nat) - (if sg then ((2 ^ k : Nat) : Int) else 0) ∧ -9223372036854775808 ≤ z ∧ z ≤ 9223372036854775807
theorem xor_f {x k : Nat} (hb : x.testBit k = true) (hk : k < 63) : bits BinOp.xor IntKind.i64 ((x % 2 ^ k : Nat) : Int) (wrap64 (2 ^ k)) = ((x % 2 ^ (k + 1) : Nat) : Int) := by
  have hp := Nat.pow_le_pow_right (show 0 < 2 by decide) (show k + 1 ≤ 63 by omega)
  have hs := pow_s k
  have e := xor_pos (x % 2 ^ k) k (mod_lt' _ _) hk
  rw [show wrap64 (2 ^ k) = ((2 ^ k : Nat) : Int) by rw [p2]; unfold wrap64; omega, e, mod_step, hb]
  simp
theorem xor_t {x k : Nat} (hb : x.testBit k = false) (hk : k < 63) : bits BinOp.xor IntKind.i64 (((x % 2 ^ k : Nat) : Int) - (2 ^ k : Nat)) (wrap64 (2 ^ k)) = ((x % 2 ^ (k + 1) : Nat) : Int) - (2 ^ (k + 1) : Nat) := by
  have hp := Nat.pow_le_pow_right (show 0 < 2 by decide) (show k + 1 ≤ 63 by omega)
  have hs := pow_s k
  have hl := mod_lt' x k
  have e := xor_neg (2 ^ k - 1 - x % 2 ^ k) k (by omega) hk
  have e2 : (-((2 ^ k - 1 - x % 2 ^ k : Nat) : Int) - 1) = ((x % 2 ^ k : Nat) : Int) - (2 ^ k : Nat) := by omega
  rw [e2] at e
  rw [show wrap64 (2 ^ k) = ((2 ^ k : Nat) : Int) by rw [p2]; unfold wrap64; omega, e, mod_step, hb]
  simp only [Bool.toNat_false, Nat.mul_zero, Nat.add_zero]
  omega
theorem int_any (A : Option Addr) (n c x : Nat) (w : World) (h : Rd w A n x) (hn : n ≤ 10000) :
    Calls Tryz.prog 177 #[.slice A n c] w fun e w' => e = .returned (.tuple #[.int .i64 (iVal n x), .bool (iOk n x)]) ∧ w = w' := by
  have hng := negative_any A n c x w h (by omega)
  rcases hsg : neg n x with _ | _ <;> rw [hsg] at hng
  · have hsv := sval_pos hsg
    have hsv := Lib.hid hsv
    clear hsg
    go_enter Tryz.func177, Tryz.ntmps177
    go_wp2_with (go_at_call 205; refine hng.mono ?_; rintro e w1 ⟨rfl, rfl⟩)
    go_loop [5, 12] (fun v i => ∃ (k : Nat) (z : Int), k ≤ n ∧ i = .int .i64 k ∧ v = .int .i64 z ∧ z = (x % 2 ^ k : Nat) ∧ z ≤ 9223372036854775807) (fun _ i => n - (intOf i).toNat)
    case atStart => exact ⟨0, 0, Nat.zero_le _, rfl, rfl, by simp [Nat.mod_one], by decide⟩
    case round =>
      obtain ⟨k, z, hk, rfl, rfl, hz, hzb⟩ := hrel
      by_cases g1 : k < n
      · obtain ⟨ab, ao, rfl, hlt, hcell⟩ := h.at_ g1
        have d3 : decide ((k : Int) < n) = true := by simpa using g1
        have l0 : (0 : Int) ≤ k := by omega
        have l1 : (k : Int) < n := by omega
        have hst := mod_step x k
        rcases hb : x.testBit k with _ | _ <;> rw [hb] at hcell hst
        · simp only [Bool.toNat_false, Nat.mul_zero, Nat.add_zero] at hst
          rw [← hst] at hz
          replace hz := Lib.hid hz
          clear hb hst
          go_wp2
          go_round
          case rel => exact ⟨k + 1, z, by omega, by go_num, rfl, hz.out, hzb⟩
          case measure => simp [intOf]; omega
        · rcases Nat.lt_or_ge k 63 with h64 | h64
          · have hx := xor_f hb h64
            rw [← hz] at hx
            have hbd : ((x % 2 ^ (k + 1) : Nat) : Int) ≤ 9223372036854775807 := by
              have := mod_lt' x (k + 1)
              have := Nat.pow_le_pow_right (show 0 < 2 by decide) (show k + 1 ≤ 63 by omega)
              omega
            replace hx := Lib.hid (And.intro hx hbd)
            have d4 : decide ((63 : Int) ≤ k) = false := by simp; omega
            have l3 : (k : Int) < 63 := by omega
            have l4 : (k : Int) ≤ 64 := by omega
            clear hb hst hz hbd
            go_wp2
            go_round
            case rel => exact ⟨k + 1, _, by omega, by go_num, rfl, hx.out.1, by rw [hx.out.1]; exact hx.out.2⟩
            case measure => simp [intOf]; omega
          · have hno : ¬ iFit n x := by
              rintro ⟨_, hf⟩
              rw [hsv.out] at hf
              have := high_bit (x := x) (k := 63) (i := k) (by omega) h64
              rw [hb] at this; cases this
            have e1 : iVal n x = 0 := if_neg hno
            have e2 : iOk n x = false := decide_eq_false hno
            have e := Lib.hid (And.intro e1 e2)
            have d4 : decide ((63 : Int) ≤ k) = true := by simp; omega
            clear hb hst hz hno e1 e2
            go_wp2
            go_ret2
            exact ⟨by rw [e.out.1, e.out.2]; rfl, rfl⟩
      · obtain rfl : k = n := by omega
        rw [Nat.mod_eq_of_lt h.1] at hz
        have hyes : iFit k x := ⟨by rw [hsv.out]; omega, by rw [hsv.out]; omega⟩
        have e1 : iVal k x = z := (if_pos hyes).trans (hsv.out.trans hz.symm)
        have e2 : iOk k x = true := decide_eq_true hyes
        have e := Lib.hid (And.intro e1 e2)
        clear hz hyes e1 e2
        go_wp2
        go_ret2
        exact ⟨by rw [e.out.1, e.out.2]; rfl, rfl⟩
  · have hsv := sval_neg hsg
    have hsv := Lib.hid hsv
    have hx2 := Lib.hid h.1
    replace hsg := Lib.hid hsg
    go_enter Tryz.func177, Tryz.ntmps177
    go_wp2_with (go_at_call 205; refine hng.mono ?_; rintro e w1 ⟨rfl, rfl⟩)
    go_loop [5, 12] (fun v i => ∃ (k : Nat) (z : Int), k ≤ n ∧ i = .int .i64 k ∧ v = .int .i64 z ∧ z = ((x % 2 ^ k : Nat) : Int) - (2 ^ k : Nat) ∧ -9223372036854775808 ≤ z) (fun _ i => n - (intOf i).toNat)
    case atStart => exact ⟨0, -1, Nat.zero_le _, rfl, rfl, by simp [Nat.mod_one], by decide⟩
    case round =>
      obtain ⟨k, z, hk, rfl, rfl, hz, hzb⟩ := hrel
      by_cases g1 : k < n
      · obtain ⟨ab, ao, rfl, hlt, hcell⟩ := h.at_ g1
        have d3 : decide ((k : Int) < n) = true := by simpa using g1
        have l0 : (0 : Int) ≤ k := by omega
        have l1 : (k : Int) < n := by omega
        have hst := mod_step x k
        rcases hb : x.testBit k with _ | _ <;> rw [hb] at hcell hst
        · rcases Nat.lt_or_ge k 63 with h64 | h64
          · have hx := xor_t hb h64
            rw [← hz] at hx
            have hbd : -9223372036854775808 ≤ ((x % 2 ^ (k + 1) : Nat) : Int) - (2 ^ (k + 1) : Nat) := by
              have := Nat.pow_le_pow_right (show 0 < 2 by decide) (show k + 1 ≤ 63 by omega)
              omega
            replace hx := Lib.hid (And.intro hx hbd)
            have d4 : decide ((63 : Int) ≤ k) = false := by simp; omega
            have l3 : (k : Int) < 63 := by omega
            have l4 : (k : Int) ≤ 64 := by omega
            clear hb hst hz hbd
            go_wp2
            go_round
            case rel => exact ⟨k + 1, _, by omega, by go_num, rfl, hx.out.1, by rw [hx.out.1]; exact hx.out.2⟩
            case measure => simp [intOf]; omega
          · have hno : ¬ iFit n x := by
              rintro ⟨hf, _⟩
              rw [hsv.out] at hf
              have h1 := setb_lt (s := true) hx2.out g1
              have h2 : setb x k true = x + 2 ^ k := by unfold setb; rw [hb]; simp
              have h3 := Nat.pow_le_pow_right (show 0 < 2 by decide) h64
              omega
            have e1 : iVal n x = 0 := if_neg hno
            have e2 : iOk n x = false := decide_eq_false hno
            have e := Lib.hid (And.intro e1 e2)
            have d4 : decide ((63 : Int) ≤ k) = true := by simp; omega
            clear hb hst hz hno e1 e2
            go_wp2
            go_ret2
            exact ⟨by rw [e.out.1, e.out.2]; rfl, rfl⟩
        · rw [Bool.toNat_true, Nat.mul_one] at hst
          have hz2 : z = ((x % 2 ^ (k + 1) : Nat) : Int) - (2 ^ (k + 1) : Nat) := by rw [hz, hst, pow_s]; omega
          replace hz2 := Lib.hid hz2
          clear hb hst hz
          go_wp2
          go_round
          case rel => exact ⟨k + 1, z, by omega, by go_num, rfl, hz2.out, hzb⟩
          case measure => simp [intOf]; omega
      · obtain rfl : k = n := by omega
        have hxl := hx2.out
        rw [Nat.mod_eq_of_lt hxl] at hz
        have hyes : iFit k x := ⟨by rw [hsv.out]; omega, by rw [hsv.out]; omega⟩
        have e1 : iVal k x = z := (if_pos hyes).trans (hsv.out.trans hz.symm)
        have e2 : iOk k x = true := decide_eq_true hyes
        have e := Lib.hid (And.intro e1 e2)
        clear hz hyes e1 e2 hxl
        go_wp2
        go_ret2
        exact ⟨by rw [e.out.1, e.out.2]; rfl, rfl⟩

end Go.Proofs.YtgojnpblhfbdpaaGreatDoor.B

namespace Go.Proofs.YtgojnpblhfbdpaaGreatDoor.B
open Go Go.RowKit

def RuiR (l x : Nat) (v i : Value) : Prop := ∃ (k : Nat) (j : Int) (N : Nat), k ≤ l ∧ i = .int .i64 j ∧ j = (l : Int) - 1 - k ∧ v = .int .u64 (N : Int) ∧ N = (x / 2 ^ (l - k)) % 2 ^ 64
theorem rUint_any (A : Option Addr) (n c x : Nat) (w : World) (h : Rd w A n x) (hn : n ≤ 10000) (hc : n ≤ c) :
    Calls Tryz.prog 96 #[.slice A n c] w fun e w' => e = .returned (.tuple #[.int .u64 (uVal x), .bool (uOk x)]) ∧ Below w.heap.size w w' := by
  have ct := Lib.hid (Trim_any A n c x w h hn hc)
  go_enter Tryz.func96, Tryz.ntmps96
  go_wp2_with (go_at_call 97; refine ct.out.mono ?_; rintro e w1 ⟨l, hl, ht, A1, c1, rfl, hv, hb⟩)
  have hr := hv.rd
  clear ct h
  go_loop [4, 5] (fun v i => RuiR l x v i) (fun _ i => (intOf i + 1).toNat)
  case atStart => exact ⟨0, _, 0, Nat.zero_le _, rfl, by omega, rfl, by rw [Nat.sub_zero, Nat.div_eq_of_lt hr.1]⟩
  case round =>
    obtain ⟨k, j, N, hk, rfl, hj, rfl, hN⟩ := hrel
    by_cases g1 : k < l
    · obtain ⟨p, rfl⟩ : ∃ p : Nat, j = p := ⟨l - 1 - k, by omega⟩
      have hp : p = l - 1 - k := by omega
      obtain ⟨ab, ao, rfl, hlt, hcell⟩ := hr.at_ (show p < l by omega)
      have l0 : (0 : Int) ≤ p := by omega
      have l1 : (p : Int) < l := by omega
      have hst := div_step x p
      rw [show p + 1 = l - k by omega] at hst
      have hN64 : N < 2 ^ 64 := by rw [hN]; exact mod_lt' _ _
      have hnx : (x / 2 ^ p) % 2 ^ 64 = (2 * N + (x.testBit p).toNat) % 2 ^ 64 := by rw [hst, hN]; generalize x / 2 ^ (l - k) = Z; omega
      rcases hbx : x.testBit p with _ | _ <;> rw [hbx] at hcell hnx
      · have hH := Lib.hid (And.intro hnx hp)
        clear hN hst hnx hbx hp hj
        go_wp2
        go_round
        case rel => exact ⟨k + 1, _, (2 * N) % 2 ^ 64, by omega, rfl, by have := hH.out.2; omega, by congr 1; rw [IntKind.wrap_u64]; omega, by rw [show l - (k + 1) = p by have := hH.out.2; omega, hH.out.1]; rfl⟩
        case measure => simp [intOf]
      · have hH := Lib.hid (And.intro hnx hp)
        clear hN hst hnx hbx hp hj
        go_wp2
        go_round
        case rel => exact ⟨k + 1, _, (2 * N + 1) % 2 ^ 64, by omega, rfl, by have := hH.out.2; omega, by congr 1; rw [IntKind.wrap_u64, IntKind.wrap_u64]; omega, by rw [show l - (k + 1) = p by have := hH.out.2; omega, hH.out.1]; rfl⟩
        case measure => simp [intOf]
    · obtain rfl : k = l := by omega
      obtain rfl : j = -1 := by omega
      rw [Nat.sub_self, Nat.pow_zero, Nat.div_one] at hN
      have hx := hr.1
      rcases Nat.lt_or_ge 64 k with h64 | h64
      · have hge : ¬ x < 2 ^ 64 := by
          have h1 := Tr.le ht (by omega)
          have h2 := Nat.pow_le_pow_right (show 0 < 2 by decide) (show 64 ≤ k - 1 by omega)
          omega
        have e1 : uVal x = 0 := if_neg hge
        have e2 : uOk x = false := decide_eq_false hge
        have e := Lib.hid (And.intro e1 e2)
        have d4 : decide ((64 : Int) < k) = true := by simp; omega
        clear hj hN hge e1 e2
        go_wp2
        go_ret2
        exact ⟨by rw [e.out.1, e.out.2]; rfl, hb⟩
      · have hlt : x < 2 ^ 64 := Nat.lt_of_lt_of_le hx (Nat.pow_le_pow_right (by decide) h64)
        have e1 : uVal x = N := (if_pos hlt).trans (by rw [hN, Nat.mod_eq_of_lt hlt])
        have e2 : uOk x = true := decide_eq_true hlt
        have e := Lib.hid (And.intro e1 e2)
        have d4 : decide ((64 : Int) < k) = false := by simp; omega
        clear hj hN hlt e1 e2
        go_wp2
        go_ret2
        exact ⟨by rw [e.out.1, e.out.2]; rfl, hb⟩
end Go.Proofs.YtgojnpblhfbdpaaGreatDoor.B
