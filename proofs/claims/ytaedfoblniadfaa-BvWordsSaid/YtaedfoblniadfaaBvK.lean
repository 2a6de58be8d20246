/-
  Contracts of the reference's division: divide, DivMod, SDivMod. Widths up to some thousands.
-/
import Derived.Test.YtaedfoblniadfaaBvJ
namespace Go.Proofs.Ytaedfoblniadfaa
open Go Go.RowKit

/-- append([]bool{b}, r...). -/
theorem wpList_pre {w W : World} {ops : Array Oper} {rest : List Oper} {o : Oper} {a : Act} {Q : Exit → Act → World → Prop} (hgd : o.guard = none) (s x : Operand)
    (ho : o.op = .call { callee := .builtin .append, args := #[s, x], argTypes := #[22, 22] }) (hty : o.type = 22)
    (hb : Below W.heap.size W w) (H : Nat) (hH : w.heap.size = H) (b : Bool) (hs : a.eval s = .slice (some ⟨H, 0, none⟩) 1 1) {X : Option Addr} {m d y : Nat} (hx : a.eval x = .slice X m d) (hr : Rd w X m y) (hn : m ≤ 100000)
    (h : ∀ A' c' w', Nw w' W.heap.size A' (m + 1) c' (2 * y + b.toNat) → Below W.heap.size W w' → wpList Try.prog ops Q rest (a.put o.dst (.slice A' (m + 1) c')) w') : wpList Try.prog ops Q (o :: rest) a (w.alloc (.cells #[.bool b] 4)) := by
  subst hH
  have ho1 : Own (w.alloc (.cells #[.bool b] 4)) w.heap.size 4 (ba 1 b.toNat) := by
    have := Own.new w 4 #[.bool b]
    rwa [show (#[Value.bool b] : Array Value) = ba 1 b.toNat from by rw [ba, ← bl_single]] at this ⊢
  refine wpList_cat hgd s x ho hty (below_new hb _) hs (Nw.of_own ho1 (toNat_lt b) hb.size (by decide)) hx (hr.alloc _) (by omega) fun A' c' w' hv hb' => ?_
  rw [Nat.add_comm 1 m] at hv ⊢
  rw [show b.toNat + 2 ^ 1 * y = 2 * y + b.toNat by omega] at hv
  exact h A' c' w' hv hb'
theorem Nw.far {w : World} {A : Option Addr} {n c x B g k : Nat} (h : Nw w B A n c x) (hg : g < B) (v : Value) : Nw (w.setCell ⟨g, k, none⟩ v) B A n c x := by
  refine ⟨h.1, h.2.1, h.2.2.imp id fun ⟨g', cap, cur, h1, h2, h3, h4⟩ => ⟨g', cap, cur, h1, h2, ?_, h4⟩⟩
  exact (Below.heap_setCell w ⟨g, k, none⟩ v g' (by show g' ≠ g; omega)).trans h3
def RetQ (w : World) (n m q r : Nat) (e : Ending) (w' : World) : Prop := ∃ A c A' c', e = .returned (.tuple #[.slice A n c, .slice A' m c']) ∧ Nw w' w.heap.size A n c q ∧ Nw w' w.heap.size A' m c' r ∧ Below w.heap.size w w'
def RDivR (n x y : Nat) (w : World) (v i : Value) (u : World) : Prop :=
  ∃ (k : Nat) (j : Int), k ≤ n ∧ i = .int .i64 j ∧ j = (n : Int) - 1 - k ∧ ∃ A' c', v = .slice A' k c' ∧ Nw u (w.heap.size + 1) A' k c' (DR n x y k) ∧ Own u w.heap.size 4 (ba n (DQ n x y k)) ∧ Below w.heap.size w u
set_option maxHeartbeats 1000000 in
theorem divide_any (A B : Option Addr) (n c x m d y : Nat) (w : World) (h : Rd w A n x) (h' : Rd w B m y) (hn : n ≤ 9000) (hm : m ≤ 9000) (hd : m ≤ d) (hy : y ≠ 0) :
    Calls Try.prog 62 #[.slice A n c, .slice B m d] w (RetQ w n n (x / y) (x % y)) := by
  have hmk := fun W => run_makeB n (by omega) W
  go_enter Try.func62, Try.ntmps62
  go_wp2
  go_loopw [7, 8] (fun v i u => RDivR n x y w v i u) (fun _ i _ => (intOf i + 1).toNat)
  case atStart => exact ⟨0, _, Nat.zero_le _, rfl, by omega, none, 0, rfl, by rw [DR.zero h.1]; exact Nw.nil _ _, by rw [DQ.zero h.1]; exact Own.new w _ _, below_new (Below.refl _ _) _⟩
  case round =>
    obtain ⟨k, j, hk, rfl, hj, A', c', rfl, hv, oQ, hb⟩ := hrel
    by_cases g1 : k < n
    · obtain ⟨p, rfl⟩ : ∃ p : Nat, j = p := ⟨n - 1 - k, by omega⟩
      have hp : p = n - 1 - k := by omega
      obtain ⟨ab, ao, rfl, hlt0, hc0⟩ := h.at_ (show p < n by omega)
      have hcell := (hb.cell (p := ⟨ab, ao + p, none⟩) hlt0).trans hc0
      obtain ⟨hd1, hd2⟩ := D_next (x := x) (Nat.pos_of_ne_zero hy) g1
      have hqb := DQ_bit (x := x) (y := y) g1
      rw [← hp] at hd1 hd2 hqb
      obtain ⟨bx, hbx⟩ : ∃ b, b = x.testBit p := ⟨_, rfl⟩
      rw [← hbx] at hcell hd1 hd2
      have l0 : (0 : Int) ≤ (p : Int) := by omega
      have l1 : (p : Int) < n := by omega
      have hr' := h'.step hb
      have hle : ∀ (W : World) (A1 : Option Addr) (c1 : Nat), Nw W (w.heap.size + 1) A1 (k + 1) c1 (2 * DR n x y k + bx.toNat) → Rd W B m y → Calls Try.prog 72 #[.slice A1 (k + 1) c1, .slice B m d] W fun e w' => e = .returned (.bool (decide (2 * DR n x y k + bx.toNat < y))) ∧ Below W.heap.size W w' :=
        fun W A1 c1 hv1 hB => less_any A1 B (k + 1) c1 _ m d y W hv1.rd hB (by omega) (by omega) hv1.le hd
      by_cases hge : y ≤ 2 * DR n x y k + bx.toNat
      · rw [if_pos hge] at hd1 hd2
        rw [show decide (2 * DR n x y k + bx.toNat < y) = false by simp; omega] at hle
        have eQ : setb (DQ n x y k) p true = DQ n x y (k + 1) := by
          rw [hd2]; unfold setb; rw [hqb]; simp
        have H := Lib.hid (And.intro hp (And.intro hge (And.intro hd1 eQ)))
        have hle := Lib.hid hle
        have hgs := oQ.lt
        clear hp hge hd1 hd2 hqb eQ hbx hc0 hj h hy
        go_wp2_with (first | (at_builtin; refine wpList_pre rfl (.tmp 23) (.tmp 24) rfl rfl (Below.refl _ _) _ rfl _ rfl rfl hv.rd (by omega) ?_; intro A1 c1 w1 hv1 hb1; replace hv1 := hv1.mono (show w.heap.size + 1 ≤ wr.heap.size from hgs)) | (go_at_call 72; refine (hle.out _ _ _ hv1 (hr'.step hb1)).mono ?_; rintro e w2 ⟨rfl, hb2⟩) | (go_at_call 56; refine (minus_any _ _ _ _ _ _ _ _ _ (hv1.rd.step hb2) (hr'.step (below_step hb1 hb2)) (by omega) (by omega) H.out.2.1).mono ?_; rintro e w3 ⟨A3, c3, rfl, hv3, hb3⟩; have hB3 := below_step (below_step hb1 hb2) hb3; have oQ3 := oQ.step hB3; have cQ := (oQ3.cell p).trans (ba_get _ _ _ (by omega)); have fQ := oQ3.free p; have lQ := oQ3.lt))
        have oQ4 := oQ3.put p (.bool true)
        rw [ba_set true (by omega), H.out.2.2.2] at oQ4
        rw [← H.out.2.2.1] at hv3
        have hsz : w.heap.size + 1 ≤ w2.heap.size := by have := hb1.size; have := hb2.size; omega
        go_roundw
        case rel => exact ⟨k + 1, _, by omega, rfl, by have := H.out.1; omega, A3, c3, rfl, (hv3.mono hsz).far (Nat.lt_succ_self _) _, oQ4, below_set (below_step hb hB3) (Nat.le_refl _) _⟩
        case measure => simp [intOf]
      · rw [if_neg hge] at hd1 hd2
        simp only [Nat.mul_zero, Nat.add_zero, Nat.sub_zero] at hd1 hd2
        rw [show decide (2 * DR n x y k + bx.toNat < y) = true by simp; omega] at hle
        have H := Lib.hid (And.intro hp (And.intro hd1 hd2))
        have hle := Lib.hid hle
        have hgs := oQ.lt
        clear hp hge hd1 hd2 hqb hbx hc0 hj h hy
        go_wp2_with (first | (at_builtin; refine wpList_pre rfl (.tmp 23) (.tmp 24) rfl rfl (Below.refl _ _) _ rfl _ rfl rfl hv.rd (by omega) ?_; intro A1 c1 w1 hv1 hb1; replace hv1 := hv1.mono (show w.heap.size + 1 ≤ wr.heap.size from hgs)) | (go_at_call 72; refine (hle.out _ _ _ hv1 (hr'.step hb1)).mono ?_; rintro e w2 ⟨rfl, hb2⟩))
        have hB2 := below_step hb1 hb2
        have oQ2 := oQ.step hB2
        rw [← H.out.2.2] at oQ2
        rw [← H.out.2.1] at hv1
        go_roundw
        case rel => exact ⟨k + 1, _, by omega, rfl, by have := H.out.1; omega, A1, c1, rfl, hv1.step hb2, oQ2, below_step hb hB2⟩
        case measure => simp [intOf]
    · obtain rfl : k = n := by omega
      obtain rfl : j = -1 := by omega
      rw [DR.last] at hv
      rw [DQ.last] at oQ
      have hx := h.1
      clear hj hmk
      go_wp2
      go_ret2
      exact ⟨_, _, _, _, rfl, Nw.of_own oQ (Nat.lt_of_le_of_lt (Nat.div_le_self _ _) hx) (Nat.le_refl _) (by unfold maxLen; omega), hv.mono (Nat.le_succ _), hb⟩
theorem Tr.zero {l : Nat} (h : Tr l 0) : l = 0 := by
  rcases h with h | h
  · exact h
  · simp at h
theorem rDivMod_zero (A B : Option Addr) (n c m d : Nat) (w : World) (h' : Rd w B m 0) (hm : m ≤ 9000) (hd : m ≤ d) :
    Calls Try.prog 30 #[.slice A n c, .slice B m d] w fun e w' => e = .returned (.tuple #[.slice none 0 0, .slice none 0 0, .int .i64 7]) ∧ Below w.heap.size w w' := by
  have ct : Calls Try.prog 60 #[.slice B m d] w (RetN w 0 0) := (Trim_any B m d 0 w h' (by omega) hd).mono fun e w' ⟨l, _, ht, hr⟩ => by rw [ht.zero] at hr; exact hr
  clear h'
  go_enter Try.func30, Try.ntmps30
  go_wp2_with (go_at_call 60; refine ct.mono ?_; rintro e w1 ⟨A1, c1, rfl, hv, hb⟩)
  go_ret3
  exact ⟨rfl, hb⟩
theorem rSDivMod_zero (A B : Option Addr) (n c m d : Nat) (w : World) (h' : Rd w B m 0) (hm : m ≤ 9000) (hd : m ≤ d) :
    Calls Try.prog 31 #[.slice A n c, .slice B m d] w fun e w' => e = .returned (.tuple #[.slice none 0 0, .slice none 0 0, .int .i64 7]) ∧ Below w.heap.size w w' := by
  have ct : Calls Try.prog 60 #[.slice B m d] w (RetN w 0 0) := (Trim_any B m d 0 w h' (by omega) hd).mono fun e w' ⟨l, _, ht, hr⟩ => by rw [ht.zero] at hr; exact hr
  clear h'
  go_enter Try.func31, Try.ntmps31
  go_wp2_with (go_at_call 60; refine ct.mono ?_; rintro e w1 ⟨A1, c1, rfl, hv, hb⟩)
  go_ret3
  exact ⟨rfl, hb⟩
theorem trim_nz (B : Option Addr) (m d y : Nat) (w : World) (h' : Rd w B m y) (hm : m ≤ 9000) (hd : m ≤ d) (hy : y ≠ 0) :
    Calls Try.prog 60 #[.slice B m d] w fun e w' => ∃ l : Nat, ((l : Int) == 0) = false ∧ RetN w l y e w' :=
  (Trim_any B m d y w h' (by omega) hd).mono fun e w' ⟨l, _, ht, hr⟩ => ⟨l, by
    have : l ≠ 0 := by
      rintro rfl
      obtain ⟨A1, c1, _, hv, _⟩ := hr
      have := hv.1
      simp at this
      exact hy this
    simp; omega, hr⟩
theorem rDivMod_any (A B : Option Addr) (n c x m d y : Nat) (w : World) (h : Rd w A n x) (h' : Rd w B m y) (hn : n ≤ 9000) (hm : m ≤ 9000) (hd : m ≤ d) (hy : y ≠ 0) :
    Calls Try.prog 30 #[.slice A n c, .slice B m d] w (RetD w n (x / y) (x % y)) := by
  have ct := Lib.hid (trim_nz B m d y w h' hm hd hy)
  have e1 : x / y = (x / y) % 2 ^ n := (Nat.mod_eq_of_lt (Nat.lt_of_le_of_lt (Nat.div_le_self _ _) h.1)).symm
  have e2 : x % y = (x % y) % 2 ^ n := (Nat.mod_eq_of_lt (Nat.lt_of_le_of_lt (Nat.mod_le _ _) h.1)).symm
  rw [e1, e2]
  clear e1 e2
  go_enter Try.func30, Try.ntmps30
  go_wp2_with (first | (go_at_call 60; refine ct.out.mono ?_; rintro e w1 ⟨l, hl0, A1, c1, rfl, hv1, hb1⟩) | (go_at_call 62; refine (divide_any _ _ _ _ _ _ _ _ _ (h.step hb1) (h'.step hb1) hn hm hd hy).mono ?_; rintro e w2 ⟨A2, c2, A3, c3, rfl, hv2, hv3, hb2⟩) | (go_at_call 50; (first | ((with_reducible refine (rFit_any _ _ _ _ _ _ hv2.rd (by omega) (by omega)).mono ?_); rintro e w3 ⟨A4, c4, rfl, hv4, hb3⟩) | ((with_reducible refine (rFit_any _ _ _ _ _ _ (hv3.step hb3).rd (by omega) (by omega)).mono ?_); rintro e w4 ⟨A5, c5, rfl, hv5, hb4⟩))))
  go_ret3
  exact ⟨_, _, _, _, rfl, (hv4.mono (Nat.le_trans hb1.size hb2.size)).step hb4, hv5.mono (Nat.le_trans hb1.size (Nat.le_trans hb2.size hb3.size)), below_step (below_step (below_step hb1 hb2) hb3) hb4⟩
end Go.Proofs.Ytaedfoblniadfaa
