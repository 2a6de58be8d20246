/-
  The contract of the program's character: the character of a group of bits. Conditions: valid bits, at most four if all are known.
  The contract of the library's Chunk over a row of bits, for a loop over it. Conditions: at most 1000 bits, chunks of at least one.
  Rows of bytes: turned round, made a text. Conditions: at least one byte.
  The contract of the program's groups: the characters of the groups of a row of bits. Conditions: valid bits, at most four in a known group.
  Contracts of the program's double and of the library's Backward over a row of bools, for a loop over it. Conditions: at most 1000 elements.
  The contract of the program's unsignedDecimal: a number in decimal. Conditions: 1 to 128 bits.
  The contract of the program's decimal: a known vector in decimal. Conditions: 1 to 128 bits.
  The contract of the program's Digits: the digits of a vector in a base. Conditions: at most a million bits.
  The contract of the program's Format: a literal of a vector in a base. Conditions: at most a million bits.
-/
import Derived.Test.YtgojnpblhfbdpaaGreatDoorR3
import Derived.RangeFuncNested
import Derived.RangeFuncBound
import Derived.RangeFuncCalls
import Derived.RangeFuncLeaves
import Derived.Shelf.Abstract
import Derived.Shelf.RegionOpen
import Derived.WalkKit
import Derived.OwnWalkIn
import Derived.TacticsInMore
import Derived.LoopNIn
import Derived.LoopIn
import Derived.Laws.IdiomStrings
import Derived.Test.YtgojnpblhfbdpaaGreatDoorR1
namespace Go.Proofs.YtgojnpblhfbdpaaGreatDoor
open Go Go.RowKit

theorem known_01 {a : Int} (h : knownB a = true) : a = 0 ∨ a = 1 := by simpa [knownB] using h
theorem int_small : ∀ {l : List Int}, knL l = true → 1 ≤ l.length → l.length ≤ 4 → iVal ⟨l, false⟩ = (num l : Int) ∧ iOk ⟨l, false⟩ = true ∧ grp l = dgc (num l) ∧ num l < 16
  | [a], h, _, _ => by
    simp only [knL, List.all_cons, List.all_nil, Bool.and_true] at h
    rcases known_01 h with rfl | rfl <;> decide
  | [a, b], h, _, _ => by
    simp only [knL, List.all_cons, List.all_nil, Bool.and_true, Bool.and_eq_true] at h
    rcases known_01 h.1 with rfl | rfl <;> rcases known_01 h.2 with rfl | rfl <;> decide
  | [a, b, c], h, _, _ => by
    simp only [knL, List.all_cons, List.all_nil, Bool.and_true, Bool.and_eq_true] at h
    rcases known_01 h.1 with rfl | rfl <;> rcases known_01 h.2.1 with rfl | rfl <;> rcases known_01 h.2.2 with rfl | rfl <;> decide
  | [a, b, c, d], h, _, _ => by
    simp only [knL, List.all_cons, List.all_nil, Bool.and_true, Bool.and_eq_true] at h
    rcases known_01 h.1 with rfl | rfl <;> rcases known_01 h.2.1 with rfl | rfl <;> rcases known_01 h.2.2.1 with rfl | rfl <;> rcases known_01 h.2.2.2 with rfl | rfl <;> decide
  | a :: b :: c :: d :: e :: l, _, _, h => by simp at h
theorem int_unk {l : List Int} (hok : okB l = true) (h : knL l = false) : iVal ⟨l, false⟩ = 0 ∧ iOk ⟨l, false⟩ = false := by
  have hk : kn ⟨l, false⟩ = false := by
    unfold kn
    rw [nrm_of (v := ⟨l, false⟩) hok]
    exact h
  unfold iVal iOk
  rw [hk]
  exact ⟨rfl, rfl⟩
theorem nth0_get {l : List Int} (h : 1 ≤ l.length) : nth l 0 ∈ l := by
  have h' : 0 < l.length := h
  have : nth l 0 = l[0] := by simp [nth, List.getD_eq_getElem?_getD, h']
  rw [this]; exact List.getElem_mem _
/-- A group that is not known: one bit throughout, or several. -/
theorem grp_one {l : List Int} (h1 : 1 ≤ l.length) (h0 : bits4 l) (hk : knL l = false) (hd : (l.any fun b => b != nth l 0) = false) : (nth l 0 = 2 ∧ grp l = 120) ∨ (nth l 0 = 3 ∧ grp l = 122) := by
  have hall : ∀ b ∈ l, b = nth l 0 := fun b hb => by
    have := List.any_eq_false.1 hd b hb
    simpa using this
  obtain ⟨h2, h3⟩ := h0 0 h1
  have hne : nth l 0 ≠ 0 ∧ nth l 0 ≠ 1 := by
    constructor
    all_goals
      intro e
      have : knL l = true := List.all_eq_true.2 fun b hb => by rw [hall b hb, e]; decide
      rw [this] at hk; cases hk
  rcases (show nth l 0 = 2 ∨ nth l 0 = 3 by omega) with e | e
  · refine .inl ⟨e, ?_⟩
    unfold grp
    rw [if_pos (List.all_eq_true.2 fun b hb => by rw [hall b hb, e]; decide)]
  · refine .inr ⟨e, ?_⟩
    unfold grp
    rw [if_neg (fun h => by
      have := List.all_eq_true.1 h _ (nth0_get h1)
      rw [e] at this; simp at this), if_pos (List.all_eq_true.2 fun b hb => by rw [hall b hb, e]; decide)]
theorem grp_more {l : List Int} (h1 : 1 ≤ l.length) (h0 : bits4 l) (hk : knL l = false) (hd : (l.any fun b => b != nth l 0) = true) : grp l = if (l.any fun b => b == 2) then 88 else 90 := by
  obtain ⟨b, hb, hne⟩ := List.any_eq_true.1 hd
  have hne' : b ≠ nth l 0 := by simpa using hne
  have hx : ∀ k : Int, ¬ (l.all (· == k)) = true := fun k h => by
    have e1 := List.all_eq_true.1 h _ (nth0_get h1)
    have e2 := List.all_eq_true.1 h _ hb
    simp at e1 e2
    exact hne' (e2.trans e1.symm)
  unfold grp
  rw [if_neg (hx 2), if_neg (hx 3)]
  split
  · rfl
  · rename_i h2
    have h3 : (l.any fun b => b == 3) = true := by
      obtain ⟨c, hc, hck⟩ := List.all_eq_false.1 hk
      refine List.any_eq_true.2 ⟨c, hc, ?_⟩
      obtain ⟨i, hi, rfl⟩ := List.mem_iff_getElem.1 hc
      have e : nth l i = l[i] := by simp [nth, List.getD_eq_getElem?_getD, hi]
      obtain ⟨a1, a2⟩ := h0 i hi
      rw [e] at a1 a2
      have n2 : l[i] ≠ 2 := fun e2 => h2 (List.any_eq_true.2 ⟨_, hc, by simp [e2]⟩)
      have n0 : ¬ (l[i] = 0 ∨ l[i] = 1) := fun h => hck (by simpa [knownB] using h)
      simp
      omega
    rw [if_pos h3]
theorem chr_2 (w : World) (E : Env w) : Calls Tryz.prog 141 #[.int .u8 2] w fun e w' => e = .returned (.int .u8 120) ∧ w = w' := by
  have c2 := E.ch 2 (by decide)
  have e2 : tabI [48, 49, 120, 122] (2 : Nat) = 120 := rfl
  rw [e2] at c2
  clear E
  go_enter Tryz.func141, Tryz.ntmps141
  go_wp2
  go_ret
  exact ⟨rfl, rfl⟩
theorem chr_3 (w : World) (E : Env w) : Calls Tryz.prog 141 #[.int .u8 3] w fun e w' => e = .returned (.int .u8 122) ∧ w = w' := by
  have c2 := E.ch 3 (by decide)
  have e2 : tabI [48, 49, 120, 122] (3 : Nat) = 122 := rfl
  rw [e2] at c2
  clear E
  go_enter Tryz.func141, Tryz.ntmps141
  go_wp2
  go_ret
  exact ⟨rfl, rfl⟩
theorem ent_differs : Ent 140 := enters_of Tryz.func140 (by kernel_rfl) rfl
/-- The closure that compares with a group's first bit. -/
theorem pd_differs (w : World) (g : Nat) (b o m c : Nat) (y : Int) (hg : w.cell? ⟨g, 0, none⟩ = some (.slice (some ⟨b, o, none⟩) m c)) (hm : 0 < m) (hy : w.cell? ⟨b, o, none⟩ = some (.int .u8 y)) : Pd w 140 #[.pointer (some ⟨g, 0, none⟩)] (fun x => x != y) := by
  intro W a hb
  show Calls _ _ #[.int .u8 a, .pointer (some ⟨g, 0, none⟩)] W _
  have h1 := cell_step hb hg
  have h2 := cell_step hb hy
  have i1 : (0 : Int) < m := by omega
  clear hg hy hb
  cases hq : a != y
  all_goals
    go_enter Tryz.func140, Tryz.ntmps140
    go_wp2
    go_ret
    exact ⟨by rw [hq]; rfl, Below.refl _ _⟩
set_option maxHeartbeats 1000000 in
theorem index_any (A : Option Addr) (n c : Nat) (l : List Int) (y : Int) (w : World) (h : Rb w A n l) (hn : n ≤ 1000000) :
    Calls Tryz.prog 179 #[.slice A n c, .int .u8 y] w fun e w' => e = .returned (.int .i64 (idx (fun b => b == y) l)) ∧ w = w' := by
  go_enter Tryz.func179, Tryz.ntmps179
  go_wp2
  go_loopw [8] (fun i wr => ∃ k : Nat, k ≤ n ∧ i = .int .i64 k ∧ Hid (w = wr) ∧ Hid (∀ j, j < k → (nth l j == y) = false)) (fun i _ => n - (intOf i).toNat)
  case atStart => exact ⟨0, Nat.zero_le _, rfl, Lib.hid rfl, Lib.hid fun j hj => absurd hj (Nat.not_lt_zero _)⟩
  case round =>
    obtain ⟨k, hk, rfl, BW, H⟩ := hrel
    obtain rfl := BW.out
    clear BW
    by_cases hlt : k < n
    · obtain ⟨b, o, rfl, hb, hc⟩ := h.at_ hlt
      have hlen := Lib.hid h.len
      clear h
      generalize hz : nth l k = z at hc
      replace hz := Lib.hid hz
      cases hq : y == z with
      | true =>
        have hq' := Lib.hid hq
        go_wp2
        go_ret
        exact ⟨ret_i (by rw [idx_hit (by rw [hlen.out]; exact hlt) (by rw [hz.out]; have := hq'.out; simp at this ⊢; exact this.symm) H.out]), rfl⟩
      | false =>
        have hq' := Lib.hid hq
        go_wp2
        go_roundw
        case rel =>
          refine ⟨k + 1, by omega, by go_num, Lib.hid trivial, Lib.hid fun j hj => ?_⟩
          by_cases e : j = k
          · subst e; rw [hz.out]; have := hq'.out; simp at this ⊢; exact fun e => this e.symm
          · exact H.out j (by omega)
        case measure => simp [intOf]; omega
    · obtain rfl : k = n := by omega
      have hlen := Lib.hid h.len
      clear h
      go_wp2
      go_ret
      exact ⟨ret_i (by rw [idx_miss (by rw [hlen.out]; exact H.out)]), rfl⟩
theorem contains_any (A : Option Addr) (n c : Nat) (l : List Int) (y : Int) (w : World) (h : Rb w A n l) (hn : n ≤ 1000000) :
    Calls Tryz.prog 142 #[.slice A n c, .int .u8 y] w fun e w' => e = .returned (.bool (l.any fun b => b == y)) ∧ w = w' := by
  rw [← idx_any]
  have HC := Lib.hid (index_any A n c l y w h hn)
  clear h
  go_enter Tryz.func142, Tryz.ntmps142
  go_wp2_with (go_at_call 179; refine HC.out.mono ?_; rintro e w' ⟨rfl, rfl⟩)
  go_ret
  exact ⟨rfl, rfl⟩
set_option maxRecDepth 100000 in
set_option maxHeartbeats 2000000 in
theorem char_known (A : Option Addr) (m c n : Nat) (l : List Int) (w : World) (h : Rb w A m l) (hv : iVal ⟨l, false⟩ = n) (hk : iOk ⟨l, false⟩ = true) (hn : n < 16) :
    Calls Tryz.prog 100 #[.slice A m c] w fun e w' => e = .returned (.int .u8 ((dgc n).toNat : Int)) ∧ Below w.heap.size w w' := by
  have O0 := (Own.at1 w 24 #[.slice A m c] (g := w.heap.size) (by simp))
  have BB := (below_new (Below.refl w.heap.size w) (.cells #[.slice A m c] 24))
  have HI := Lib.hid (int_t A m c false l _ (h.step BB) hv hk)
  have q0 := O0.cell 0
  clear h hv hk
  have hd : n = 0 ∨ n = 1 ∨ n = 2 ∨ n = 3 ∨ n = 4 ∨ n = 5 ∨ n = 6 ∨ n = 7 ∨ n = 8 ∨ n = 9 ∨ n = 10 ∨ n = 11 ∨ n = 12 ∨ n = 13 ∨ n = 14 ∨ n = 15 := by omega
  clear hn
  rcases hd with rfl | rfl | rfl | rfl | rfl | rfl | rfl | rfl | rfl | rfl | rfl | rfl | rfl | rfl | rfl | rfl
  all_goals
    go_enter Tryz.func100, Tryz.ntmps100
    go_wp2_with (go_at_call 139; refine HI.out.mono ?_; rintro e w1 ⟨rfl, hb⟩)
    go_ret
    exact ⟨rfl, below_step BB hb⟩
set_option maxRecDepth 100000 in
set_option maxHeartbeats 2000000 in
theorem char_unk (A : Option Addr) (m c : Nat) (l : List Int) (w : World) (E : Env w) (h : Rb w A m l) (hm : 1 ≤ m) (hm9 : m ≤ 1000) (hok : okB l = true) (h4 : bits4 l) (hk : knL l = false) :
    Calls Tryz.prog 100 #[.slice A m c] w fun e w' => e = .returned (.int .u8 ((grp l).toNat : Int)) ∧ Below w.heap.size w w' := by
  obtain ⟨b, o, rfl, hb, hc⟩ := h.at_ (k := 0) hm
  rw [Nat.add_zero] at hc
  have hlen := h.len
  have O0 := (Own.at1 w 24 #[.slice (some ⟨b, o, none⟩) m c] (g := w.heap.size) (by simp))
  have BB := (below_new (Below.refl w.heap.size w) (.cells #[.slice (some ⟨b, o, none⟩) m c] 24))
  obtain ⟨e1, e2⟩ := int_unk hok hk
  have HI := Lib.hid (int_v (some ⟨b, o, none⟩) m c false l _ (h.step BB))
  rw [e1, e2] at HI
  have HF := Lib.hid fun (u : World) (hu : Below (w.heap.size + 1) (w.alloc (.cells #[.slice (some ⟨b, o, none⟩) m c] 24)) u) => containsFunc_any (some ⟨b, o, none⟩) m c l 140 #[.pointer (some ⟨w.heap.size, 0, none⟩)] (fun x => x != nth l 0) u ((h.step BB).step (by simpa using hu)) (by omega) ent_differs (pd_differs u w.heap.size b o m c (nth l 0) (cell_step (by simpa using hu) (O0.cell 0)) (by omega) (cell_step (by simpa using hu) (cell_step BB hc)))
  have HK := Lib.hid fun (u : World) (hu : Below w.heap.size w u) => contains_any (some ⟨b, o, none⟩) m c l 2 u (h.step hu) (by omega)
  have H2 := Lib.hid fun (u : World) (hu : Below w.heap.size w u) => chr_2 u (E.step hu)
  have H3 := Lib.hid fun (u : World) (hu : Below w.heap.size w u) => chr_3 u (E.step hu)
  have i1 : (0 : Int) < m := by omega
  have q0 := O0.cell 0
  have hsz : (w.alloc (.cells #[.slice (some ⟨b, o, none⟩) m c] 24)).heap.size = w.heap.size + 1 := by simp
  cases hd : l.any fun x => x != nth l 0
  · obtain ⟨d1, d2⟩ | ⟨d1, d2⟩ := grp_one (by omega) h4 hk hd
    all_goals
      rw [d2]
      rw [hd] at HF
      rw [d1] at hc
      clear E h hok h4 hk hd d1 d2 e1 e2 hlen
      go_enter Tryz.func100, Tryz.ntmps100
      go_wp2_with (first
        | (go_at_call 139; (with_reducible refine HI.out.mono ?_); rintro e w1 ⟨rfl, hb1⟩; have HB := hb1; rw [hsz] at HB; replace BB := below_step BB hb1; replace O0 := O0.step hb1; have p0 := O0.cell 0; have hc1 := cell_step BB hc)
        | (go_at_call 64; (refine (HF.out _ HB).mono ?_); rintro e w2 ⟨rfl, hb2⟩; replace BB := below_step BB hb2; replace O0 := O0.step hb2; have p1 := O0.cell 0; have hc2 := cell_step BB hc)
        | (go_at_call 141; first | ((refine (H2.out _ BB).mono ?_); rintro e w3 ⟨rfl, rfl⟩) | ((refine (H3.out _ BB).mono ?_); rintro e w3 ⟨rfl, rfl⟩)))
      go_ret
      exact ⟨rfl, BB⟩
  · rw [grp_more (by omega) h4 hk hd]
    rw [hd] at HF
    cases h2 : l.any fun x => x == 2
    all_goals
      rw [h2] at HK
      clear E h hok h4 hk hd h2 e1 e2 hlen
      go_enter Tryz.func100, Tryz.ntmps100
      go_wp2_with (first
        | (go_at_call 139; (with_reducible refine HI.out.mono ?_); rintro e w1 ⟨rfl, hb1⟩; have HB := hb1; rw [hsz] at HB; replace BB := below_step BB hb1; replace O0 := O0.step hb1; have p0 := O0.cell 0)
        | (go_at_call 64; (refine (HF.out _ HB).mono ?_); rintro e w2 ⟨rfl, hb2⟩; replace BB := below_step BB hb2; replace O0 := O0.step hb2; have p1 := O0.cell 0)
        | (go_at_call 142; (refine (HK.out _ BB).mono ?_); rintro e w3 ⟨rfl, rfl⟩))
      go_ret
      exact ⟨rfl, BB⟩
theorem char_any (A : Option Addr) (m c : Nat) (l : List Int) (w : World) (E : Env w) (h : Rb w A m l) (hok : okB l = true) (h4 : bits4 l) (hs : knL l = true → m ≤ 4) :
    Calls Tryz.prog 100 #[.slice A m c] w fun e w' => e = .returned (.int .u8 ((grp l).toNat : Int)) ∧ Below w.heap.size w w' := by
  have hl := h.len
  have hol := ok_len hok
  cases hk : knL l
  · exact char_unk A m c l w E h (by omega) (by omega) hok h4 hk
  · obtain ⟨e1, e2, e3, e4⟩ := int_small hk (by omega) (by have := hs hk; omega)
    rw [e3]
    exact char_known A m c (num l) l w h e1 e2 e4
end Go.Proofs.YtgojnpblhfbdpaaGreatDoor

namespace Go.Proofs.YtgojnpblhfbdpaaGreatDoor
open Go Go.RowKit


/-- How many chunks of k elements a row of n has, and how long they are. -/
def ckN (n k : Nat) : Nat := (n + k - 1) / k
def ckL (n k j : Nat) : Nat := min k (n - j * k)
theorem ck_lt {n k j : Nat} (hk : 1 ≤ k) : j < ckN n k ↔ j * k < n := by
  unfold ckN
  rw [Nat.lt_iff_add_one_le, Nat.le_div_iff_mul_le (by omega), Nat.succ_mul]
  omega
theorem slice_mid (b o n c i : Nat) (h : i < n) (hc : n ≤ c) (W : World) : (Instr.sliceAt 24 (.slice (some ⟨b, o, none⟩) n c) (some (.int .i64 i)) none none).run Tryz.prog W = .ok (.slice (some ⟨b, o + i, none⟩) (n - i) (c - i)) W := by
  have hz : (sizeOf 58).run Tryz.prog W = .ok 1 W := by kernel_rfl
  rw [run_sliceAt_slice (P := Tryz.prog) (w := W) _ _ _ _ _ (by kernel_rfl)]
  have h1 := run_slice_l (P := Tryz.prog) (w := W) 24 (some ⟨b, o, none⟩) n c (by kernel_rfl) .i64 i (by omega) (by omega)
  rw [h1, show (Tryz.prog).elem 24 = 58 by kernel_rfl, hz]
  simp only [Result.andThen, Int.toNat_natCast, sliced, Nat.mul_one]
  have : (⟨b, o, none⟩ : Addr).add i = ⟨b, o + i, none⟩ := by unfold Addr.add; split <;> simp_all
  rw [if_neg (by omega)]
  simp [this]
section
variable {o : Oper} {a : Act} {w : World} {K : Act → World → Prop} {Q : Exit → Act → World → Prop}
theorem wp_minI (x y : Operand) (ho : o.op = .call { callee := .builtin .min, args := #[x, y], argTypes := #[3, 3] }) {n m W : Nat} (hx : a.eval x = .int .i64 n) (hy : a.eval y = .int .i64 m) (hW : min n m = W) (h : K (a.put o.dst (.int .i64 W)) w) : o.wp Tryz.prog a w K Q := by
  refine wp_val ?_ h
  unfold execOp
  simp only [ho, resolve, invoke, builtin, Sem.run_bind, Sem.run_pure, Result.andThen_ok, List.map_toArray, List.map_cons, List.map_nil, hx, hy]
  subst hW
  simp [go_sem]
  omega
theorem wp_sl (x y : Operand) (ho : o.op = .slice 24 x (some y) none none) {b p n c i : Nat} (hx : a.eval x = .slice (some ⟨b, p, none⟩) n c) (hy : a.eval y = .int .i64 i) (hi : i < n) (hc : n ≤ c) (h : K (a.put o.dst (.slice (some ⟨b, p + i, none⟩) (n - i) (c - i))) w) : o.wp Tryz.prog a w K Q := by
  refine wp_val ?_ h
  unfold execOp
  simp only [ho, Option.map_some, Option.map_none, hx, hy, Sem.run_bind, slice_mid b p n c i hi hc w, Result.andThen_ok, Sem.run_pure]
end
/-- What a round keeps: the blocks below n₀, and the iterator's boxes. -/
def KpC (n₀ B1 B2 : Nat) (W W' : World) : Prop := Below n₀ W W' ∧ (∀ s, W.cell? ⟨B1, 0, none⟩ = some s → W'.cell? ⟨B1, 0, none⟩ = some s) ∧ ∀ s, W.cell? ⟨B2, 0, none⟩ = some s → W'.cell? ⟨B2, 0, none⟩ = some s
theorem kpC_t {n₀ B1 B2 : Nat} {A B C : World} (h : KpC n₀ B1 B2 A B) (k : KpC n₀ B1 B2 B C) : KpC n₀ B1 B2 A C := ⟨h.1.trans k.1, fun s hs => k.2.1 s (h.2.1 s hs), fun s hs => k.2.2 s (h.2.2 s hs)⟩
theorem kpC_b {n₀ B1 B2 : Nat} {w : World} (hn : n₀ ≤ w.heap.size) (W : World) (l : Nat) (o o' : Obj) (hl : w.heap.size ≤ l) (h : W.heap[l]? = some o) (hc : o.isCells = false) (hw : o.isWalk = false) : KpC n₀ B1 B2 W (W.putObj l o') :=
  ⟨belowK_b hn W l o o' hl h hc hw, fun s hs => cell_kept hs (grownBy_putObj' W l o') (fun r e => by cases e; exact ⟨_, h, hc⟩), fun s hs => cell_kept hs (grownBy_putObj' W l o') (fun r e => by cases e; exact ⟨_, h, hc⟩)⟩
set_option maxRecDepth 100000 in
set_option maxHeartbeats 2000000 in
theorem ck1_in (N : Nat) (hN : 1 ≤ N) (l B1 B2 n₀ n c k b o : Nat) (hk : 1 ≤ k) (hk9 : k ≤ 1000) (hn : n ≤ 1000) (hc : n ≤ c) (J Jx : List Nat → World → Prop) (Bw : Nat) (hA : AbidesFrom Bw J)
    (hY : ∀ (pre : List Nat) (x : Nat) (W : World), J pre W → pre.length < ckN n k → x < ckN n k → YieldAt Fence.wide (N - 1) Tryz.prog l #[.slice (some ⟨b, o + x * k, none⟩) (ckL n k x) (ckL n k x)] W fun e W' =>
      (e = .returned (.bool true) ∧ J (pre ++ [x]) W' ∧ KpC n₀ B1 B2 W W') ∨ (e = .returned (.bool false) ∧ Jx (pre ++ [x]) W'))
    (W : World) (h1 : W.cell? ⟨B1, 0, none⟩ = some (.slice (some ⟨b, o, none⟩) n c)) (h2 : W.cell? ⟨B2, 0, none⟩ = some (.int .i64 k)) (h0 : J [] W) :
    CallsIn Fence.wide N Tryz.prog 138 #[.func (.yield l) #[] #[], .pointer (some ⟨B1, 0, none⟩), .pointer (some ⟨B2, 0, none⟩)] W fun e W' => (∃ v, e = .returned v) ∧
      ((∃ ys, ys = List.range (ckN n k) ∧ J ys W') ∨ (∃ pre, (∃ q, q ≤ ckN n k ∧ pre = List.range q) ∧ Jx pre W')) := by
  refine callsIn_of_wp Tryz.func138 rfl trivial ?_ rfl
  simp only [Tryz.ntmps138, List.size_toArray, List.length_cons, List.length_nil, Nat.reduceAdd, Nat.reduceSub, Array.replicate_succ, Array.replicate_zero, List.push_toArray, List.append_toArray, List.nil_append, List.cons_append]
  gi_wp2
  gi_loopw [4] (fun i wr => ∃ j : Nat, j ≤ ckN n k ∧ i = .int .i64 ((j * k : Nat) : Int) ∧ J (List.range j) wr ∧ KpC n₀ B1 B2 W wr)
    (fun i _ => (n + 1 - (intOf i).toNat))
  case atStart => exact ⟨0, Nat.zero_le _, by simp, h0, Below.refl _ _, fun _ h => h, fun _ h => h⟩
  case round =>
    obtain ⟨j, hj, rfl, hJs, hnx⟩ := hrel
    have c1 := hnx.2.1 _ h1
    have c2 := hnx.2.2 _ h2
    by_cases hlt : j < ckN n k
    · have hjk := (ck_lt hk).1 hlt
      have hJd : J (List.range j) wr.drew := hA _ wr wr.drew none hJs ⟨rfl, rfl, rfl, Nat.le_refl _, fun _ _ _ => rfl⟩ (fun r e => by cases e)
      obtain ⟨fn, tmps, assign, body, hy, hR⟩ := hY _ j wr.drew hJd (by rw [List.length_range]; exact hlt) hlt
      have hkd : KpC n₀ B1 B2 wr wr.drew := ⟨below_drew (Below.refl _ _), fun _ h => h, fun _ h => h⟩
      replace hnx := kpC_t hnx hkd
      have hsucc : (j + 1) * k = j * k + k := Nat.succ_mul j k
      have hL : ckL n k j = min k (n - j * k) := rfl
      generalize ckL n k j = L at *
      generalize hi : j * k = i at *
      have hLn : i + L ≤ n := by omega
      have hL9 : L ≤ 1000 := by omega
      have hLc : i + L ≤ c := by omega
      have hL0 : ¬ L = 0 := by omega
      replace hL := Lib.hid hL
      replace hi := Lib.hid hi
      replace hsucc := Lib.hid hsucc
      have d1 : decide ((i : Int) < n) = true := by simp; omega
      gi_wp2
      refine wpIn_wide.2 ?_
      refine region_y (by kernel_rfl) (fun u => u = wr.drew) [tru, tru, tru, tru, tru, tru, tru] [isV (.int .i64 k), isV (.slice (some ⟨b, o, none⟩) n c), isV (.int .i64 i), isV (.slice (some ⟨b, o + i, none⟩) (n - i) (c - i)), isV (.int .i64 ((n - i : Nat) : Int)), isV (.int .i64 L), isV (.int .i64 L)] [some 13, some 14, some 15, some 16, some 17, some 18, some 5] [[], [], [], [1, 2], [3], [0, 4], [5, 0, 1, 2, 3, 4, 5]] (by kernel_rfl) (by kernel_rfl) rfl (by kernel_rfl) (by kernel_rfl) (by kernel_rfl) rfl (by
        intro U hU
        simp only [List.mem_cons, List.not_mem_nil, or_false, or_self] at hU
        subst hU
        trivial) ?_ ?_
      · refine ⟨?_, ?_, ?_, ?_, ?_, ?_, ?_, trivial⟩
        · intro a w' hS hO hF' hP K hK
          have ha := hO 2 (by rfl)
          refine if_ok (by rfl) ?_
          subst hS
          refine wp_val (w' := wr.drew) (q := .int .i64 k) (by unfold execOp; simp only [ev ha]; simp [go_sem, c2]) ?_
          exact hK _ _ (fun h => by cases h) (keep_same rfl) rfl
        · intro a w' hS hO hF' hP K hK
          have ha := hO 1 (by rfl)
          refine if_ok (by rfl) ?_
          subst hS
          refine wp_ldS _ rfl (ev ha) (show wr.drew.cell? _ = _ from c1) ?_
          exact hK _ _ (fun h => by cases h) (keep_same rfl) rfl
        · intro a w' hS hO hF' hP K hK
          have ha := hO 4 (by rfl)
          refine if_ok (by rfl) ?_
          refine wp_mv _ rfl (ev ha) ?_
          exact hK _ w' (fun h => by cases h) (keep_same hS) rfl
        · intro a w' hS hO hF' hP K hK
          obtain ⟨_, f0, rfl⟩ := (hF' 1 rfl).1 14 _ rfl rfl
          obtain ⟨_, f1, rfl⟩ := (hF' 2 rfl).1 15 _ rfl rfl
          refine if_ok (by rfl) ?_
          refine wp_sl _ _ rfl (ev f0) (ev f1) hjk hc ?_
          exact hK _ w' (fun h => by cases h) (keep_same hS) rfl
        · intro a w' hS hO hF' hP K hK
          obtain ⟨_, f0, rfl⟩ := (hF' 3 rfl).1 16 _ rfl rfl
          refine if_ok (by rfl) ?_
          refine wp_len _ rfl (ev f0) ?_
          exact hK _ w' (fun h => by cases h) (keep_same hS) rfl
        · intro a w' hS hO hF' hP K hK
          obtain ⟨_, f0, rfl⟩ := (hF' 0 rfl).1 13 _ rfl rfl
          obtain ⟨_, f1, rfl⟩ := (hF' 4 rfl).1 17 _ rfl rfl
          refine if_ok (by rfl) ?_
          refine wp_minI _ _ rfl (ev f0) (ev f1) hL.out.symm ?_
          exact hK _ w' (fun h => by cases h) (keep_same hS) rfl
        · intro a w' hS hO hF' hP K hK
          obtain ⟨_, f0, rfl⟩ := (hF' 5 rfl).1 18 _ rfl rfl
          refine if_ok (by rfl) ?_
          refine wp_val (w' := w') (q := .int .i64 L) (by unfold execOp; simp only [Sem.run_pure, ev f0]) ?_
          exact hK _ w' (fun h => by cases h) (keep_same hS) rfl
      · intro vs u hl hS hV
        match vs, hl, hV with
        | [v0, v1, v2, v3, v4, v5, v6], _, hV =>
          simp only [puts, Act.put, List.setIfInBounds_toArray, List.set_cons_zero, List.set_cons_succ]
          obtain rfl : v6 = .int .i64 L := hV 6 _ rfl
          clear hV
          subst hS
          replace c1 : wr.drew.cell? ⟨B1, 0, none⟩ = _ := c1
          replace c2 : wr.drew.cell? ⟨B2, 0, none⟩ = _ := c2
          generalize wr.drew = u at *
          gi_wp2
          refine hR.mono ?_
          rintro e W3 (⟨rfl, hJ3, hk3⟩ | ⟨rfl, hJx3⟩)
          · have c3 := hk3.2.2 _ c2
            gi_wp2
            go_roundw
            case rel => exact ⟨j + 1, by omega, by rw [hsucc.out]; congr 1, by rw [List.range_succ]; exact hJ3, kpC_t hnx hk3⟩
            case measure => simp [intOf]; omega
          · gi_wp2
            refine bodyPost_ret (results_none rfl _ _ _) rfl ?_
            exact ⟨⟨_, rfl⟩, .inr ⟨_, ⟨j + 1, by omega, by rw [List.range_succ]⟩, hJx3⟩⟩
    · have hjq : j = ckN n k := by omega
      have hjk : ¬ j * k < n := fun h => hlt ((ck_lt hk).2 h)
      generalize hi : j * k = i at *
      have d1 : decide ((i : Int) < n) = false := by simp; omega
      gi_wp2
      go_end0
      exact ⟨⟨_, rfl⟩, .inl ⟨_, rfl, by rw [← hjq]; exact hJs⟩⟩
set_option maxRecDepth 100000 in
theorem ck_in (N : Nat) (X : Option Addr) (n c k : Nat) (hk : 1 ≤ k) (w : World) :
    CallsIn Fence.wide N Tryz.prog 99 #[.slice X n c, .int .i64 k] w fun e w' => e = .returned (.func (.func 138) #[] #[.pointer (some ⟨w.heap.size, 0, none⟩), .pointer (some ⟨w.heap.size + 1, 0, none⟩)]) ∧ w' = (w.alloc (.cells #[.slice X n c] 24)).alloc (.cells #[.int .i64 k] 3) := by
  have O1 := Own.at1 (w.alloc (.cells #[.slice X n c] 24)) 3 #[.int .i64 k] (g := w.heap.size + 1) (by simp)
  have q1 := O1.cell 0
  have d1 : decide ((k : Int) < 1) = false := by simp; omega
  refine callsIn_of_wp Tryz.func99 rfl trivial ?_ rfl
  simp only [Tryz.ntmps99, List.size_toArray, List.length_cons, List.length_nil, Nat.reduceAdd, Nat.reduceSub, Array.replicate_succ, Array.replicate_zero, List.push_toArray, List.append_toArray, List.nil_append, List.cons_append]
  gi_wp2
  go_ret
  exact ⟨rfl, rfl⟩
theorem ck_stops (N : Nat) (hN : 1 ≤ N) (B1 B2 n₀ n c k b o : Nat) (hk : 1 ≤ k) (hk9 : k ≤ 1000) (hn : n ≤ 1000) (hc : n ≤ c) (w : World) (hB1 : B1 < w.heap.size) (hB2 : B2 < w.heap.size)
    (h1 : w.cell? ⟨B1, 0, none⟩ = some (.slice (some ⟨b, o, none⟩) n c)) (h2 : w.cell? ⟨B2, 0, none⟩ = some (.int .i64 k)) :
    SeqStopsK Fence.wide N Tryz.prog 138 #[.pointer (some ⟨B1, 0, none⟩), .pointer (some ⟨B2, 0, none⟩)] (fun x : Nat => #[Value.slice (some ⟨b, o + x % ckN n k * k, none⟩) (ckL n k (x % ckN n k)) (ckL n k (x % ckN n k))]) (KpC n₀ B1 B2) (fun ys => ys = List.range (ckN n k)) (fun pre => ∃ q, q ≤ ckN n k ∧ pre = List.range q) (ckN n k) w := fun l J Jx W hW hA _ hY h0 =>
  ck1_in N hN l B1 B2 n₀ n c k b o hk hk9 hn hc J Jx _ hA (fun pre x W1 h1 h2 h3 => by have := hY pre x W1 h1 h2; simp only [Nat.mod_eq_of_lt h3] at this; exact this) W ((hW.cell (p := ⟨B1, 0, none⟩) hB1).trans h1) ((hW.cell (p := ⟨B2, 0, none⟩) hB2).trans h2) h0
end Go.Proofs.YtgojnpblhfbdpaaGreatDoor

namespace Go.Proofs.YtgojnpblhfbdpaaGreatDoor
open Go Go.RowKit

theorem rev_row2 {T : TypeId} {F : FuncId} {w : World} {B : Nat} {A : Option Addr} {n c : Nat} {l : List Int} (h : NT T w B A n c l) (hn : 0 < n) (hn2 : n ≤ 100000)
    (hF : ∀ (blk cap : Nat) (zs : List Int) (w : World), Sort.Holds (Value.int .u8) w blk 0 zs.toArray → zs.length ≤ 9223372036854775807 →
      Calls Tryz.prog F #[.slice (some ⟨blk, 0, none⟩) zs.length cap] w fun e w' => e = .returned (.tuple #[]) ∧ ∃ k, w' = Sort.putRow (Value.int .u8) (Sort.ahead w k) blk 0 zs.reverse.toArray) :
    Calls Tryz.prog F #[.slice A n c] w fun e w' => e = .returned (.tuple #[]) ∧ NT T w' B A n c l.reverse ∧ (∀ W : World, Below W.heap.size W w → W.heap.size ≤ B → Below W.heap.size W w') ∧ w.heap.size ≤ w'.heap.size ∧ ∀ (j : Nat) (o : Obj), w.heap[j]? = some o → (∀ cs fr, o ≠ Obj.cells cs T fr) → w'.heap[j]? = some o := by
  obtain ⟨hl, hnn, hlen, hrow⟩ := h
  rcases hrow with ⟨e, h0⟩ | ⟨g, cap, cur, e, hB, hown, hc, hm, hs, ht⟩
  · simp only [Value.slice.injEq] at e
    omega
  · simp only [Value.slice.injEq] at e
    obtain ⟨rfl, _, rfl⟩ := e
    have hs' : n ≤ cur.size := by
      simp at hs
      omega
    have hO : Own w g T cur := hown
    have hH : Sort.Holds (Value.int .u8) w g 0 l.toArray := fun j hj => by
      rw [List.size_toArray, hl] at hj
      rw [Nat.zero_add]
      refine ⟨?_, hO.free j⟩
      rw [hO.cell j]
      have h1 : (cur.toList.take n)[j]? = (il l)[j]? := by
        have : cur.toList.take n = il l := by simpa using ht
        rw [this]
      rw [List.getElem?_take, if_pos hj, Array.getElem?_toList, il_get (by omega)] at h1
      rw [h1, getElem!_pos _ j (by simp; omega)]
      simp [nth, List.getD_eq_getElem?_getD]
      rw [List.getElem?_eq_getElem (by omega)]
      rfl
    have := hF g c l w hH (by omega)
    rw [hl] at this
    refine this.mono fun e w' ⟨he, k, hw⟩ => ⟨he, ⟨by rw [List.length_reverse]; exact hl, fun x hx => hnn x (List.mem_reverse.1 hx), by rw [il_length, List.length_reverse]; omega, .inr ⟨g, c, Sort.putCells (Value.int .u8) 0 l.reverse.toArray cur, rfl, hB, ?_, hc, hm, ?_, ?_⟩⟩, fun W hb hg => ?_, ?_, fun j o hj ho => ?_⟩
    · rw [hw]
      exact heap_put _ w k g _ T cur hO
    · unfold Sort.putCells
      simpa using hs
    · have := put_take l.reverse l cur (List.length_reverse) (by omega)
      rw [hl] at this
      simpa using this
    · rw [hw]
      exact below_put _ k g _ hb (by omega)
    · rw [hw, Sort.size_putRow]
      exact Nat.le_refl _
    · rw [hw]
      show (w.heap.modify g (Sort.onCells _))[j]? = _
      rw [Array.getElem?_modify]
      split
      · rename_i e
        subst e
        have h' : w.heap[g]? = some (.cells cur T (0, 0)) := hO
        rw [h'] at hj
        exact absurd (Option.some.inj hj).symm (ho _ _)
      · exact hj

theorem revU {w : World} {B : Nat} {A : Option Addr} {n c : Nat} {l : List Int} (h : NT 5 w B A n c l) (hn : 0 < n) (hn2 : n ≤ 100000) :
    Calls Tryz.prog 101 #[.slice A n c] w fun e w' => e = .returned (.tuple #[]) ∧ NT 5 w' B A n c l.reverse ∧ (∀ W : World, Below W.heap.size W w → W.heap.size ≤ B → Below W.heap.size W w') ∧ w.heap.size ≤ w'.heap.size ∧ ∀ (j : Nat) (o : Obj), w.heap[j]? = some o → (∀ cs fr, o ≠ Obj.cells cs 5 fr) → w'.heap[j]? = some o :=
  rev_row2 (T := 5) h hn hn2 fun blk cap zs w h1 h2 => Tryz.slices_Reverse_f101 (Value.int .u8) (fun _ => rfl) blk 0 cap zs w h1 h2
/-- Bytes as integers. -/
def bI (l : List UInt8) : List Int := l.map fun c => (c.toNat : Int)
theorem bI_len (l : List UInt8) : (bI l).length = l.length := by simp [bI]
theorem bI_cat (l m : List UInt8) : bI (l ++ m) = bI l ++ bI m := by simp [bI]
theorem bI_rev (l : List UInt8) : (bI l).reverse = bI l.reverse := by simp [bI]
theorem bI_nn (l : List UInt8) : nnL (bI l) := fun x hx => by
  obtain ⟨c, _, rfl⟩ := List.mem_map.1 hx
  omega
theorem NT.own {T : TypeId} {w : World} {B : Nat} {A : Option Addr} {n c : Nat} {l : List Int} (h : NT T w B A n c l) (hn : 0 < n) : ∃ g cur, A = some ⟨g, 0, none⟩ ∧ B ≤ g ∧ Own w g T cur ∧ n ≤ cur.size ∧ ∀ j, j < n → w.cell? ⟨g, j, none⟩ = some (.int .u8 (nth l j)) := by
  obtain ⟨hl, hnn, hlen, hrow⟩ := h
  rcases hrow with ⟨e, h0⟩ | ⟨g, cap, cur, e, hB, hown, hc, hm, hs, ht⟩
  · simp only [Value.slice.injEq] at e
    omega
  · simp only [Value.slice.injEq] at e
    obtain ⟨rfl, _, rfl⟩ := e
    have hs' : n ≤ cur.size := by
      simp at hs
      omega
    have hO : Own w g T cur := hown
    refine ⟨g, cur, rfl, hB, hO, hs', fun j hj => ?_⟩
    rw [hO.cell j]
    have h1 : (cur.toList.take n)[j]? = (il l)[j]? := by
      have : cur.toList.take n = il l := by simpa using ht
      rw [this]
    rw [List.getElem?_take, if_pos hj, Array.getElem?_toList, il_get (by omega)] at h1
    exact h1
theorem run_str {w : World} {B : Nat} {A : Option Addr} {n c : Nat} {l : List UInt8} (h : NT 5 w B A n c (bI l)) (hn : 0 < n) : (convert 47 9 (.slice A n c)).run Tryz.prog w = .ok (.string (str l)) w := by
  obtain ⟨g, cur, rfl, _, _, _, hc⟩ := h.own hn
  have hl : l.length = n := by rw [← bI_len]; exact h.1
  subst hl
  exact run_convert_bytes_back w 47 9 5 ⟨g, 0, none⟩ c l (by kernel_rfl) (by kernel_rfl) (by kernel_rfl) fun j hj => by
    have e : (⟨g, 0, none⟩ : Addr).add j = ⟨g, j, none⟩ := by unfold Addr.add; split <;> simp_all
    rw [e, hc j hj]
    simp [nth, bI, List.getD_eq_getElem?_getD, hj]
theorem NT.rd {T : TypeId} {w : World} {B : Nat} {A : Option Addr} {n c : Nat} {l : List Int} (h : NT T w B A n c l) : Rb w A n l := ⟨h.1, h.2.1, fun hn => by
  obtain ⟨g, cur, rfl, _, hO, _, hc⟩ := h.own hn
  exact ⟨g, 0, rfl, hO.lt, fun i hi => by rw [Nat.zero_add]; exact hc i hi⟩⟩
theorem NT.kept {W W' : World} {T : TypeId} {row : Option Nat} {B : Nat} {A : Option Addr} {n c : Nat} {l : List Int} (h : NT T W B A n c l) (hg : W.grownBy W' row) (hr : ∀ r, row = some r → ∃ o : Obj, W.heap[r]? = some o ∧ o.isCells = false) : NT T W' B A n c l :=
  ⟨h.1, h.2.1, h.2.2.1, h.2.2.2.imp id fun ⟨g, cap, cur, h1, h2, h3, h4⟩ => ⟨g, cap, cur, h1, h2, Own.kept h3 hg hr, h4⟩⟩
theorem NT.grownT {T T' : TypeId} {u u' : World} {B : Nat} {A : Option Addr} {n c : Nat} {l : List Int} {g : Nat} {cs : Array Value} (h : NT T u B A n c l) (O : Own u g T' cs) (hT : T' ≠ T) (hg : u.grownBy u' (some g)) : NT T u' B A n c l := by
  refine ⟨h.1, h.2.1, h.2.2.1, h.2.2.2.imp id fun ⟨k, cap, cur, h1, h2, h3, h4⟩ => ⟨k, cap, cur, h1, h2, ?_, h4⟩⟩
  refine Own.grown h3 hg (fun e => ?_)
  simp only [Option.some.injEq] at e
  subst e
  have h5 : u.heap[k]? = _ := O
  have h6 : u.heap[k]? = _ := h3
  rw [h5] at h6
  simp at h6
  exact hT h6.2
theorem NT.alloc {T : TypeId} {w : World} {B : Nat} {A : Option Addr} {n c : Nat} {l : List Int} (h : NT T w B A n c l) (o : Obj) : NT T (w.alloc o) B A n c l := h.step (below_new (Below.refl _ _) o)
theorem run_bsU (b : Int) (W : World) : (Instr.buildSlice 47 1 #[(0, .int .u8 b)]).run Tryz.prog W = .ok (.slice (some ⟨W.heap.size, 0, none⟩) 1 1) (W.alloc (.cells #[.int .u8 b] 5)) := by kernel_rfl
theorem wp_bsU {o : Oper} {a : Act} {w : World} {K : Act → World → Prop} {Q : Exit → Act → World → Prop} (x : Operand) (ho : o.op = .buildSlice 47 1 #[(0, x)]) {b : Int} (hx : a.eval x = .int .u8 b) (h : K (a.put o.dst (.slice (some ⟨w.heap.size, 0, none⟩) 1 1)) (w.alloc (.cells #[.int .u8 b] 5))) : o.wp Tryz.prog a w K Q := by
  refine wp_val ?_ h
  unfold execOp
  have := run_bsU b w
  simp only [ho, Sem.run_bind, List.map_toArray, List.map_cons, List.map_nil, hx, this, Result.andThen_ok, Sem.run_pure]
theorem rb_byte (w : World) (T : TypeId) (f : Int) (hf : 0 ≤ f) : Rb (w.alloc (.cells #[.int .u8 f] T)) (some ⟨w.heap.size, 0, none⟩) 1 [f] :=
  ⟨rfl, nnL_one hf, fun _ => ⟨w.heap.size, 0, rfl, (Own.new w T #[.int .u8 f]).lt, fun i hi => by
    have e : i = 0 := by omega
    subst e
    exact (Own.new w T #[.int .u8 f]).cell 0⟩⟩
theorem wp_loadT {o : Oper} {a : Act} {w : World} {K : Act → World → Prop} {Q : Exit → Act → World → Prop} (x : Operand) (ho : o.op = .load 47 x)
    {g : Nat} (hx : a.eval x = .pointer (some ⟨g, 0, none⟩)) {t : TypeId} {A : Option Addr} {n c : Nat} (O : Own w g t #[.slice A n c])
    (h : K (a.put o.dst (.slice A n c)) w) : o.wp Tryz.prog a w K Q := by
  have h1 := O.cell 0
  have h2 : (Instr.loadAt 47 (.pointer (some ⟨g, 0, none⟩))).run Tryz.prog w = .ok (.slice A n c) w := by
    simp [go_sem, h1]
  unfold Oper.wp execOp
  simp only [ho, hx, Sem.run_bind, h2, Result.andThen_ok, Sem.run_pure]
  exact h
theorem wp_storeT {o : Oper} {a : Act} {w : World} {K : Act → World → Prop} {Q : Exit → Act → World → Prop} (x y : Operand) (ho : o.op = .store 47 x y)
    {g : Nat} (hx : a.eval x = .pointer (some ⟨g, 0, none⟩)) {A : Option Addr} {n c : Nat} (hy : a.eval y = .slice A n c) {t : TypeId} {r : Value} (O : Own w g t #[r])
    (h : K (a.put o.dst undef) (w.setCell ⟨g, 0, none⟩ (.slice A n c))) : o.wp Tryz.prog a w K Q := by
  have h1 := O.cell 0
  have h2 := O.free 0
  have h3 : (Instr.storeAt 47 (.pointer (some ⟨g, 0, none⟩)) (.slice A n c)).run Tryz.prog w = .ok () (w.setCell ⟨g, 0, none⟩ (.slice A n c)) := by
    simp [go_sem, h1, h2]
  unfold Oper.wp execOp
  simp only [ho, hx, hy, Sem.run_bind, h3, Result.andThen_ok, Sem.run_pure]
  exact h
theorem wpIn_catU {l₀ N B : Nat} {o : Oper} {a : Act} {w : World} {K : Act → World → Prop} {Q : Exit → Act → World → Prop} (s x : Operand)
    (ho : o.op = .call { callee := .builtin .append, args := #[s, x], argTypes := #[47, 47] }) (hty : o.type = 47) (hbase : B ≤ w.heap.size)
    {A : Option Addr} {n c : Nat} {l : List Int} (hs : a.eval s = .slice A n c) (hv : NT 5 w B A n c l) {X : Option Addr} {m d : Nat} {y : List Int} (hx : a.eval x = .slice X m d) (hr : Rb w X m y) (hm : 0 < m) (hn : n + m ≤ 1000000)
    (h : ∀ A' c' w', NT 5 w' B A' (n + m) c' (l ++ y) → w.grownBy w' (Value.slice A n c).ownBlock → K (a.put o.dst (.slice A' (n + m) c')) w') : o.wpIn (Fence.wide.inRound l₀) N Tryz.prog a w K Q := by
  obtain ⟨A', c', w', hrun, h2, h3⟩ := run_catT (ST := 47) (T := 5) (d := d) (by kernel_rfl) byte_info hbase hv hr hn hm
  refine wpIn_val (w' := w') (q := .slice A' (n + m) c') (fun c e => by rw [ho] at e; cases e) ?_ (h _ _ _ h2 h3)
  unfold execOp
  simp only [ho, hty, resolve, invoke, builtin, Sem.run_bind, Sem.run_pure, Result.andThen_ok, List.map_toArray, List.map_cons, List.map_nil, hs, hx, hrun]
/-- The row of a slice of bytes is one of bytes. -/
theorem NT.row {T : TypeId} {w : World} {B : Nat} {A : Option Addr} {n c : Nat} {l : List Int} (h : NT T w B A n c l) : ∀ r, (Value.slice A n c).ownBlock = some r → B ≤ r ∧ ∃ cs, Own w r T cs := fun r e => by
  rcases h.2.2.2 with ⟨e2, _⟩ | ⟨g, cap, cur, e2, hB, hown, _⟩
  · rw [e2] at e; simp [Value.ownBlock] at e
  · rw [e2] at e
    simp [Value.ownBlock] at e
    subst e
    exact ⟨hB, cur, hown⟩
theorem Own.rowT {T S : TypeId} {w w' : World} {row : Option Nat} {g : Nat} {cs : Array Value} (O : Own w g S cs) (hg : w.grownBy w' row) (hr : ∀ r, row = some r → ∃ cs, Own w r T cs) (hT : S ≠ T) : Own w' g S cs :=
  Own.grown O hg (fun e => by
    obtain ⟨cs', O'⟩ := hr g e.symm
    have h1 : w.heap[g]? = _ := O
    have h2 : w.heap[g]? = _ := O'
    rw [h1] at h2
    simp at h2
    exact hT h2.2)
end Go.Proofs.YtgojnpblhfbdpaaGreatDoor

namespace Go.Proofs.YtgojnpblhfbdpaaGreatDoor
open Go Go.RowKit Go.Shelf
attribute [local go_sem] Oper.semAt_some

/-- A chunk of a row. -/
def chk1 (l : List Int) (k j : Nat) : List Int := (l.drop (j * k)).take k
theorem chk1_len (l : List Int) (k j : Nat) : (chk1 l k j).length = ckL l.length k j := by unfold chk1 ckL; rw [List.length_take, List.length_drop]
/-- The characters of the chunks listed. -/
def gcI (l : List Int) (k : Nat) (pre : List Nat) : List Int := bI (pre.map fun j => grp (chk1 l k (j % ckN l.length k)))
theorem gcI_snoc (l : List Int) (k : Nat) (pre : List Nat) (j : Nat) : gcI l k (pre ++ [j]) = gcI l k pre ++ [((grp (chk1 l k (j % ckN l.length k))).toNat : Int)] := by simp [gcI, bI]
theorem gcI_all (l : List Int) (k : Nat) : (gcI l k (List.range (ckN l.length k))).reverse = bI (digL k l) := by
  have e : (List.range (ckN l.length k)).map (fun j => grp (chk1 l k (j % ckN l.length k))) = (List.range (ckN l.length k)).map fun j => grp (chk1 l k j) := List.map_congr_left fun j hj => by rw [Nat.mod_eq_of_lt (List.mem_range.1 hj)]
  unfold gcI
  rw [e]
  unfold digL grps ckN chk1
  rw [bI_rev, List.map_map]
  rfl
theorem ckN_pos {n k : Nat} (hk : 1 ≤ k) (hn : 1 ≤ n) : 1 ≤ ckN n k := by
  have := (ck_lt (j := 0) (n := n) hk).2 (by omega)
  omega
theorem ckN_le {n k : Nat} (hk : 1 ≤ k) : ckN n k ≤ n := by
  unfold ckN
  rw [Nat.div_le_iff_le_mul_add_pred (by omega)]
  have : n * 1 ≤ n * k := Nat.mul_le_mul_left n hk
  rw [Nat.mul_comm k n]
  omega
theorem Rb.chunk {w : World} {b o n k j : Nat} {l : List Int} (h : Rb w (some ⟨b, o, none⟩) n l) (hk : 1 ≤ k) (hj : j < ckN n k) : Rb w (some ⟨b, o + j * k, none⟩) (ckL n k j) (chk1 l k j) := by
  have hlt := (ck_lt hk).1 hj
  have hl := h.len
  have hlen : (chk1 l k j).length = ckL n k j := by rw [chk1_len, hl]
  refine ⟨hlen, fun x hx => h.2.1 x (List.mem_of_mem_drop (List.mem_of_mem_take hx)), fun hn => ?_⟩
  obtain ⟨b', o', e, hb, hc⟩ := h.2.2 (by omega)
  have e1 := Option.some.inj e
  simp only [Addr.mk.injEq, and_true] at e1
  obtain ⟨rfl, rfl⟩ := e1
  refine ⟨b, o + j * k, rfl, hb, fun i hi => ?_⟩
  unfold ckL at hi
  have := hc (j * k + i) (by omega)
  rw [Nat.add_assoc, this]
  unfold chk1
  rw [take_drop_at l (by omega) (by omega)]
/-- What a round leaves as it was. -/
structure SG (w W0 W : World) (X : Value) (k : Nat) (u : World) : Prop where
  b1 : Own u (w.heap.size + 1) 24 #[X]
  b2 : Own u (w.heap.size + 1 + 1) 3 #[.int .i64 k]
  blw : Below w.heap.size w u
  kf : KeepsFrom W0.heap.size W u
section
variable {w W0 W u u' : World} {X : Value} {k : Nat}
instance : Stb (SG w W0 W X k) := ⟨fun _u _u' hb h => ⟨h.b1.step hb, h.b2.step hb, below_step h.blw hb, h.kf.trans ((keeps_below hb).from _)⟩⟩
theorem SG.grown {row : Option Nat} (h : SG w W0 W X k u) (hg : u.grownBy u' row) (hr : ∀ r, row = some r → w.heap.size ≤ r ∧ ∃ cs, Own u r 5 cs) : SG w W0 W X k u' :=
  ⟨h.b1.rowT hg (fun r e => (hr r e).2) (by decide), h.b2.rowT hg (fun r e => (hr r e).2) (by decide), Below.grown h.blw hg h.blw.size (fun r e => (hr r e).1), h.kf.trans ((keeps_cells hg (fun r e => ⟨_, (hr r e).2⟩)).from _)⟩
theorem SG.cell {cs : Array Value} {q : Value} (h : SG w W0 W X k u) (O : Own u w.heap.size 47 cs) : SG w W0 W X k (u.setCell ⟨w.heap.size, 0, none⟩ q) := by
  have hg := grownBy_setCell' u w.heap.size q
  exact ⟨h.b1.grownT (by omega) hg, h.b2.grownT (by omega) hg, Below.grown h.blw hg h.blw.size (fun r e => by cases e; omega), h.kf.trans ((keeps_cells hg (fun r e => by cases e; exact ⟨_, _, O⟩)).from _)⟩
end
/-- A slice of one byte. -/
def isU1 (y : Int) : Value → World → Prop := fun v u => ∃ H, v = .slice (some ⟨H, 0, none⟩) 1 1 ∧ Rb u (some ⟨H, 0, none⟩) 1 [y]
instance (y : Int) : StV (isU1 y) := ⟨fun _ _ _ hb ⟨H, h1, h2⟩ => ⟨H, h1, h2.step hb⟩⟩
/-- A slice in a row of bytes of the call's own. -/
def isNU (B n : Nat) (l : List Int) : Value → World → Prop := fun v u => ∃ A c, v = .slice A n c ∧ NT 5 u B A n c l
instance (B n : Nat) (l : List Int) : StV (isNU B n l) := ⟨fun _ _ _ hb ⟨A, c, h1, h2⟩ => ⟨A, c, h1, h2.step hb⟩⟩
/-- The variable g holds a row of bytes of the call's own. -/
def didU (B g n : Nat) (l : List Int) : Value → World → Prop := fun _ u => ∃ A c, Own u g 47 #[.slice A n c] ∧ NT 5 u B A n c l
instance (B g n : Nat) (l : List Int) : StV (didU B g n l) := ⟨fun _ _ _ hb ⟨A, c, h1, h2⟩ => ⟨A, c, h1.step hb, h2.step hb⟩⟩
set_option maxRecDepth 100000 in
set_option maxHeartbeats 4000000 in
theorem groups_any (b o n c k : Nat) (l : List Int) (w : World) (h : Rb w (some ⟨b, o, none⟩) n l) (hn1 : 1 ≤ n) (hn : n ≤ 128) (hc : n ≤ c) (hk : 1 ≤ k) (hk9 : k ≤ 128)
    (hch : ∀ x u, x < ckN n k → Below w.heap.size w u → Calls Tryz.prog 100 #[(.slice (some ⟨b, o + x * k, none⟩) (ckL n k x) (ckL n k x))] u fun e w' => e = .returned (.int .u8 ((grp (chk1 l k x)).toNat : Int)) ∧ Below u.heap.size u w') :
    Calls Tryz.prog 55 #[.slice (some ⟨b, o, none⟩) n c, .int .i64 k] w fun e w' => e = .returned (.string (str (digL k l))) ∧ Below w.heap.size w w' := by
  refine (callsIn_wide (n := 6)).1 ?_
  refine callsIn_of_wp_marks Tryz.func55 rfl trivial ?_ rfl
  simp only [Tryz.ntmps55, List.size_toArray, List.length_cons, List.length_nil, Nat.reduceAdd, Nat.reduceSub, Array.replicate_succ, Array.replicate_zero, List.push_toArray, List.append_toArray, List.nil_append, List.cons_append]
  gi_wp2_with (refine ⟨trivial, ?_⟩; gi_at_call 99; refine (ck_in _ _ _ _ _ hk _).mono ?_; rintro e w' ⟨rfl, rfl⟩)
  have P0 := ((Own.at1 w 47 #[.slice none 0 0] (g := w.heap.size) (by simp)).alloc (.cells #[.slice (some ⟨b, o, none⟩) n c] 24)).alloc (.cells #[.int .i64 k] 3)
  have P1 := (Own.at1 (w.alloc (.cells #[.slice none 0 0] 47)) 24 #[.slice (some ⟨b, o, none⟩) n c] (g := w.heap.size + 1) (by simp)).alloc (.cells #[.int .i64 k] 3)
  have P2 := Own.at1 ((w.alloc (.cells #[.slice none 0 0] 47)).alloc (.cells #[.slice (some ⟨b, o, none⟩) n c] 24)) 3 #[.int .i64 k] (g := w.heap.size + 1 + 1) (by simp)
  have BB := below_new (below_new (below_new (Below.refl w.heap.size w) (.cells #[.slice none 0 0] 47)) (.cells #[.slice (some ⟨b, o, none⟩) n c] 24)) (.cells #[.int .i64 k] 3)
  obtain ⟨W0, hW0⟩ : ∃ W0, ((w.alloc (.cells #[.slice none 0 0] 47)).alloc (.cells #[.slice (some ⟨b, o, none⟩) n c] 24)).alloc (.cells #[.int .i64 k] 3) = W0 := ⟨_, rfl⟩
  have hs0 : W0.heap.size = w.heap.size + 1 + 1 + 1 := by rw [← hW0]; simp
  rw [hW0] at P0 P1 P2 BB ⊢
  clear hW0
  refine wpIn_rangeFunc_ownH rfl (by decide) (gf := 138) (lb := #[.pointer (some ⟨w.heap.size + 1, 0, none⟩), .pointer (some ⟨w.heap.size + 1 + 1, 0, none⟩)]) rfl trivial (enters_of Tryz.func138 (by kernel_rfl) rfl)
    (ck_stops (6 - 1) (by decide) (w.heap.size + 1) (w.heap.size + 1 + 1) w.heap.size n c k b o hk (by omega) (by omega) hc W0 (by omega) (by omega) (P1.cell 0) (P2.cell 0)) kpC_t (kpC_b (by omega)) (Below.refl _ _) (fun _ => rfl)
    (fun pre W => (∃ A m d, Own W w.heap.size 47 #[.slice A m d] ∧ NT 5 W w.heap.size A m d (gcI l k pre)) ∧ (Own W (w.heap.size + 1) 24 #[.slice (some ⟨b, o, none⟩) n c] ∧ Own W (w.heap.size + 1 + 1) 3 #[.int .i64 k]) ∧ Below w.heap.size w W)
    (fun _ _ _ => False)
    ?hI ?hIx ⟨⟨_, _, _, P0, NT.nil _ _ _⟩, ⟨P1, P2⟩, BB⟩
    (fun x a' W => a' = { tmps := #[.slice (some ⟨b, o, none⟩) n c, .int .i64 k, undef, undef, .string ⟨#[]⟩, .pointer (some ⟨w.heap.size, 0, none⟩), (.slice (some ⟨b, o + x % ckN n k * k, none⟩) (ckL n k (x % ckN n k)) (ckL n k (x % ckN n k))), .slice (some ⟨b, o, none⟩) n c, .int .i64 k, .func (.func 138) #[] #[.pointer (some ⟨w.heap.size + 1, 0, none⟩), .pointer (some ⟨w.heap.size + 1 + 1, 0, none⟩)], (.slice (some ⟨b, o + x % ckN n k * k, none⟩) (ckL n k (x % ckN n k)) (ckL n k (x % ckN n k))), undef, undef, undef, undef, undef, undef, undef, undef, undef], defers := [] })
    ?hAx ?assign ?body ?done ?stop
  case hI =>
    rintro pre A B row ⟨⟨A1, m1, d1, q1, q2⟩, ⟨q5, q6⟩, q7⟩ hg hr
    have hr' := fun r e => (hr r e).2
    exact ⟨⟨A1, m1, d1, q1.kept hg hr', q2.kept hg hr'⟩, ⟨q5.kept hg hr', q6.kept hg hr'⟩, q7.grown hg q7.size (fun k e => by have := (hr k e).1; omega)⟩
  case hIx => rintro cd pre A B row h; exact h.elim
  case hAx => rintro x a' _ A B row h hg hr; exact h
  case assign =>
    rintro l1 pre x W K ⟨q1, q5, q7⟩ hK
    gi_wp2
    exact hK _ _ ((KeepsOthers.refl W).from _) ⟨Below.refl _ _, fun _ h => h, fun _ h => h⟩ ⟨q1, q5, q7⟩ rfl
  case body =>
    rintro l1 pre x a' W hl hr ⟨⟨A1, m1, d1, q1, q2⟩, ⟨q5, q6⟩, q7⟩ rfl hlt
    have hq1 := ckN_pos hk hn1
    have hy : x % ckN n k < ckN n k := Nat.mod_lt _ (by omega)
    have hgs := gcI_snoc l k pre x
    rw [h.len] at hgs
    generalize x % ckN n k = y at *
    have HC := Lib.hid fun (u : World) (hu : Below w.heap.size w u) => hch y u hy hu
    have hm1 : m1 ≤ 128 := by
      have h1 := q2.1
      have h2 : (gcI l k pre).length = pre.length := by simp [gcI, bI]
      have h3 := ckN_le (n := n) hk
      omega
    have hS0 : SG w W0 W (.slice (some ⟨b, o, none⟩) n c) k W.drew := ⟨q5, q6, q7.drew, (KeepsOthers.drew W).from _⟩
    have hP4 : NT 5 W.drew w.heap.size A1 m1 d1 (gcI l k pre) := q2.step (below_drew (Below.refl _ _))
    have hP5 : ownT w.heap.size 47 #[.slice A1 m1 d1] W.drew := q1
    generalize hz : ((grp (chk1 l k y)).toNat : Int) = z at *
    have hz0 : 0 ≤ z := by omega
    gi_wp2
    refine region_i (by kernel_rfl) (fun u => SG w W0 W (.slice (some ⟨b, o, none⟩) n c) k u) [tru, tru, tru, tru, fun u => NT 5 u w.heap.size A1 m1 d1 (gcI l k pre), ownT w.heap.size 47 #[.slice A1 m1 d1]] [isV (.slice A1 m1 d1), isV (.slice (some ⟨b, o + y * k, none⟩) (ckL n k y) (ckL n k y)), isV (.int .u8 z), isU1 z, isNU w.heap.size (m1 + 1) (gcI l k pre ++ [z]), didU w.heap.size w.heap.size (m1 + 1) (gcI l k pre ++ [z])] [some 11, some 12, some 13, some 14, some 15, none] [[], [], [1], [2], [0, 3, 2], [4, 4, 0, 1, 2, 3, 4]] [[], [], [1], [2], [0, 3], [4]] [[], [], [], [], [3], [3]] [[], [], [], [], [3, 5], [3]] (by kernel_rfl) (by kernel_rfl) (by kernel_rfl) (by kernel_rfl) (by kernel_rfl) rfl (by kernel_rfl) (by kernel_rfl) (by kernel_rfl) hS0 (by
      intro U hU
      simp only [List.mem_cons, List.not_mem_nil, or_false] at hU
      rcases hU with rfl | rfl | rfl | rfl | rfl | rfl
      all_goals first | trivial | exact hP4 | exact hP5) ?_ ?_
    · refine ⟨?_, ?_, ?_, ?_, ?_, ?_, trivial⟩
      · intro a w' hS hO hF' hP K hK
        have ha := hO 5 (by rfl)
        have O := hP 5 _ (by rfl) rfl
        refine if_ok (by rfl) ?_
        refine wpIn_of_wp (by intro c h; cases h) (fun _ _ _ => norow_v) ?_
        refine wp_loadT _ rfl (ev ha) O ?_
        exact hK _ w' (fun h => by cases h) (keepK_same hS) rfl
      · intro a w' hS hO hF' hP K hK
        have ha := hO 6 (by rfl)
        refine if_ok (by rfl) ?_
        refine wpIn_of_wp (by intro c h; cases h) (fun _ _ _ h => by cases h) ?_
        refine wp_mv _ rfl (ev ha) ?_
        exact hK _ w' (fun h => by cases h) (keepK_same hS) rfl
      · intro a w' hS hO hF' hP K hK
        obtain ⟨_, f0, rfl⟩ := (hF' 1 rfl).1 12 _ rfl rfl
        refine if_ok (by rfl) ?_
        refine wpIn_of_wp (by intro c h; cases h) (fun _ _ _ h => by cases h) ?_
        refine wp_calls rfl (enters_of Tryz.func100 (by kernel_rfl) rfl) (args := #[(.slice (some ⟨b, o + y * k, none⟩) (ckL n k y) (ckL n k y))]) (by simp [Act.eval, f0]) ?_
        refine (HC.out _ hS.blw).mono ?_
        rintro e w2 ⟨rfl, hb2⟩
        refine ⟨_, rfl, hK _ w2 (fun h => by cases h) ⟨(inferInstance : Stb (SG w W0 W (.slice (some ⟨b, o, none⟩) n c) k)).st _ _ hb2 hS, fun j hj U hU h => ?_, fun j hj hk V hV q h => ?_⟩ rfl⟩
        · rcases j with _ | _ | _ | _ | _ | _ | j
          all_goals simp at hU hj
          all_goals subst hU
          all_goals first | exact h | exact NT.step h hb2 | exact Own.step h hb2
        · rcases j with _ | _ | _ | _ | _ | _ | j
          all_goals simp at hV hj hk
          all_goals subst hV
          all_goals first | exact h | exact (inferInstance : StV (isU1 z)).st _ _ _ hb2 h | exact (inferInstance : StV (isNU w.heap.size (m1 + 1) (gcI l k pre ++ [z]))).st _ _ _ hb2 h | exact (inferInstance : StV (didU w.heap.size w.heap.size (m1 + 1) (gcI l k pre ++ [z]))).st _ _ _ hb2 h
      · intro a w' hS hO hF' hP K hK
        obtain ⟨_, f0, rfl⟩ := (hF' 2 rfl).1 13 _ rfl rfl
        have hb2 := below_new (Below.refl w'.heap.size w') (.cells #[.int .u8 z] 5)
        refine if_ok (by rfl) ?_
        refine wpIn_of_wp (by intro c h; cases h) (fun _ _ _ => norow_v) ?_
        refine wp_bsU _ rfl (ev f0) ?_
        refine hK _ _ (fun h => by cases h) ⟨(inferInstance : Stb (SG w W0 W (.slice (some ⟨b, o, none⟩) n c) k)).st _ _ hb2 hS, fun j hj U hU h => ?_, fun j hj hk V hV q h => ?_⟩ ⟨_, rfl, rb_byte w' 5 z hz0⟩
        · rcases j with _ | _ | _ | _ | _ | _ | j
          all_goals simp at hU hj
          all_goals subst hU
          all_goals first | exact h | exact NT.step h hb2 | exact Own.step h hb2
        · rcases j with _ | _ | _ | _ | _ | _ | j
          all_goals simp at hV hj hk
          all_goals subst hV
          all_goals first | exact h | exact (inferInstance : StV (isU1 z)).st _ _ _ hb2 h | exact (inferInstance : StV (isNU w.heap.size (m1 + 1) (gcI l k pre ++ [z]))).st _ _ _ hb2 h | exact (inferInstance : StV (didU w.heap.size w.heap.size (m1 + 1) (gcI l k pre ++ [z]))).st _ _ _ hb2 h
      · intro a w' hS hO hF' hP K hK
        obtain ⟨_, f0, rfl⟩ := (hF' 0 rfl).1 11 _ rfl rfl
        obtain ⟨_, f1, H, rfl, r1⟩ := (hF' 3 rfl).1 14 _ rfl rfl
        have hN := hP 4 _ (by rfl) rfl
        refine if_ok (by rfl) ?_
        refine wpIn_catU _ _ rfl rfl hS.blw.size (ev f0) hN (ev f1) r1 (by decide) (by omega) ?_
        intro A9 c9 w9 hN9 hg9
        refine hK _ w9 (fun h => by cases h) ⟨hS.grown hg9 hN.row, fun j hj U hU h => ?_, fun j hj hk V hV q h => ?_⟩ ⟨A9, c9, rfl, hN9⟩
        · rcases j with _ | _ | _ | _ | _ | _ | j
          all_goals simp at hU hj
          all_goals subst hU
          all_goals first | exact h | exact Own.rowT h hg9 (fun r e => (hN.row r e).2) (by decide)
        · rcases j with _ | _ | _ | _ | _ | _ | j
          all_goals simp at hV hj hk
          all_goals subst hV
          all_goals exact h
      · intro a w' hS hO hF' hP K hK
        have ha := hO 5 (by rfl)
        obtain ⟨_, f1, A2, c2, rfl, n2⟩ := (hF' 4 rfl).1 15 _ rfl rfl
        have O := hP 5 _ (by rfl) rfl
        refine if_ok (by rfl) ?_
        refine wpIn_of_wp (by intro c h; cases h) (fun _ _ _ => norow_u) ?_
        refine wp_storeT _ _ rfl (ev ha) (ev f1) O ?_
        refine hK _ _ (fun _ => rfl) ⟨hS.cell O, fun j hj U hU h => ?_, fun j hj hk V hV q h => ?_⟩ ⟨A2, c2, O.put 0 _, n2.grownT O (by decide) (grownBy_setCell' _ _ _)⟩
        · rcases j with _ | _ | _ | _ | _ | _ | j
          all_goals simp at hU hj
          all_goals subst hU
          all_goals first | exact h | exact NT.grownT h O (by decide) (grownBy_setCell' _ _ _)
        · rcases j with _ | _ | _ | _ | _ | _ | j
          all_goals simp at hV hj hk
          all_goals subst hV
          all_goals first | exact h | exact (let ⟨A3, c3, e, n3⟩ := h; ⟨A3, c3, e, n3.grownT O (by decide) (grownBy_setCell' _ _ _)⟩)
    · intro vs u hl hS hV
      match vs, hl, hV with
      | [v0, v1, v2, v3, v4, v5], _, hV =>
        simp only [puts, Act.put, List.setIfInBounds_toArray, List.set_cons_zero, List.set_cons_succ]
        obtain ⟨A2, c2, P9, N9⟩ := hV 5 _ rfl rfl
        clear hV
        rw [← hgs] at N9
        gi_wp2
        have hWu : Below w.heap.size W u := ⟨hS.blw.os.trans q7.os.symm, hS.blw.tape.trans q7.tape.symm, hS.blw.output.trans q7.output.symm, hS.kf.size, fun k hk => (hS.blw.block k hk).trans (q7.block k hk).symm⟩
        have c4 := q5.cell 0
        have c5 := hS.b1.cell 0
        have c6 := q6.cell 0
        have c7 := hS.b2.cell 0
        exact ⟨hS.kf, ⟨hWu, fun s hs => by rw [c4] at hs; rw [c5]; exact hs, fun s hs => by rw [c6] at hs; rw [c7]; exact hs⟩, ⟨_, _, _, P9, N9⟩, ⟨hS.b1, hS.b2⟩, hS.blw⟩
  case done =>
    rintro D xs W hD rfl ⟨⟨A1, m1, d1, q1, q2⟩, ⟨q5, q6⟩, q7⟩ hK
    have hq1 := ckN_pos hk hn1
    have hN0 : 0 < m1 := by
      have h1 := q2.1
      have h2 : (gcI l k (List.range (ckN n k))).length = ckN n k := by simp [gcI, bI]
      omega
    have hm1 : m1 ≤ 128 := by
      have h1 := q2.1
      have h2 : (gcI l k (List.range (ckN n k))).length = ckN n k := by simp [gcI, bI]
      have h3 := ckN_le (n := n) hk
      omega
    have HR := Lib.hid (revU q2 hN0 (by omega))
    have hgr := gcI_all l k
    rw [h.len] at hgr
    rw [hgr] at HR
    have k1 := q1.cell 0
    gi_wp2_with (refine ⟨trivial, ?_⟩; gi_at_call 101; refine ((callsIn_wide).2 HR.out).mono ?_; rintro e w5 ⟨rfl, hN5, hb5, hsz5, hst5⟩; have q15 : Own w5 w.heap.size 47 #[.slice A1 m1 d1] := hst5 _ _ q1 (fun _ _ e => by cases e); have k5 := q15.cell 0; have hK5 := hst5 _ _ hK (fun _ _ e => by cases e); have hcv := run_str hN5 hN0; replace q7 := hb5 w q7 (Nat.le_refl _))
    refine ⟨by simp, .inl ⟨_, _, rfl, run_takeDeferred hK5, ?_⟩⟩
    refine ⟨.string (str (digL k l)), by simp [results, Tryz.results55, go_sem], rfl, ?_⟩
    exact q7.grown (grownBy_putObj' w5 D (.deferred none)) q7.size (fun r e => by cases e; omega)
  case stop => rintro D cd pre W hD hx h; exact h.elim
end Go.Proofs.YtgojnpblhfbdpaaGreatDoor

namespace Go.Proofs.YtgojnpblhfbdpaaGreatDoor
open Go Go.RowKit Go.Shelf
attribute [local go_sem] Oper.semAt_some

theorem double_any (d : Nat) (hd : d < 10) (cr : Nat) (hc : cr ≤ 1) (w : World) :
    Calls Tryz.prog 144 #[.int .u8 (48 + (d : Int)), .bool (decide (cr = 1))] w fun e w' => e = .returned (.tuple #[.int .u8 (48 + (((2 * d + cr) % 10 : Nat) : Int)), .bool (decide ((2 * d + cr) / 10 = 1))]) ∧ w = w' := by
  have h : d = 0 ∨ d = 1 ∨ d = 2 ∨ d = 3 ∨ d = 4 ∨ d = 5 ∨ d = 6 ∨ d = 7 ∨ d = 8 ∨ d = 9 := by omega
  have h' : cr = 0 ∨ cr = 1 := by omega
  clear hd hc
  rcases h' with rfl | rfl
  all_goals
    rcases h with rfl | rfl | rfl | rfl | rfl | rfl | rfl | rfl | rfl | rfl
    all_goals
      go_enter Tryz.func144, Tryz.ntmps144
      go_wp2
      go_ret2
      exact ⟨rfl, rfl⟩
set_option maxRecDepth 100000 in
set_option maxHeartbeats 2000000 in
theorem bb1_in (N : Nat) (hN : 1 ≤ N) (l Bs n₀ n c x b o : Nat) (hn : n ≤ 1000) (hb : b < n₀) (J Jx : List Nat → World → Prop)
    (hY : ∀ (pre : List Nat) (j : Nat) (W : World), J pre W → pre.length < n → YieldAt Fence.wide (N - 1) Tryz.prog l #[.int .i64 (j : Int), .bool (x.testBit j)] W fun e W' =>
      (e = .returned (.bool true) ∧ J (pre ++ [j]) W' ∧ KpB n₀ Bs W W') ∨ (e = .returned (.bool false) ∧ Jx (pre ++ [j]) W'))
    (W : World) (h1 : W.cell? ⟨Bs, 0, none⟩ = some (.slice (some ⟨b, o, none⟩) n c)) (hR : ∀ i, i < n → W.cell? ⟨b, o + i, none⟩ = some (.bool (x.testBit i))) (h0 : J [] W) :
    CallsIn Fence.wide N Tryz.prog 180 #[.func (.yield l) #[] #[], .pointer (some ⟨Bs, 0, none⟩)] W fun e W' => (∃ v, e = .returned v) ∧
      ((∃ ys, ys = dn n n ∧ J ys W') ∨ (∃ pre, (∃ k, k ≤ n ∧ pre = dn n k) ∧ Jx pre W')) := by
  refine callsIn_of_wp Tryz.func180 rfl trivial ?_ rfl
  simp only [Tryz.ntmps180, List.size_toArray, List.length_cons, List.length_nil, Nat.reduceAdd, Nat.reduceSub, Array.replicate_succ, Array.replicate_zero, List.push_toArray, List.append_toArray, List.nil_append, List.cons_append]
  gi_wp2
  gi_loopw [3] (fun i wr => ∃ k : Nat, k ≤ n ∧ i = .int .i64 ((n : Int) - 1 - k) ∧ J (dn n k) wr ∧ KpB n₀ Bs W wr)
    (fun i _ => (intOf i + 1).toNat)
  case atStart => exact ⟨0, Nat.zero_le _, by go_num, h0, Below.refl _ _, fun _ h => h⟩
  case round =>
    obtain ⟨k, hk, rfl, hJs, hnx⟩ := hrel
    by_cases hlt : k < n
    · obtain ⟨fn, tmps, assign, body, hy, hRd⟩ := hY _ (n - 1 - k) wr hJs (by rw [dn_len]; exact hlt)
      obtain ⟨j, hj⟩ : ∃ j : Nat, n - 1 - k = j := ⟨_, rfl⟩
      have hi : (n : Int) - 1 - k = j := by omega
      rw [hi]
      rw [hj] at hy hRd
      have hcs := hnx.2 _ h1
      have hc0 := (hnx.1.cell (p := ⟨b, o + j, none⟩) hb).trans (hR j (by omega))
      have hjl : (j : Int) < n := by omega
      generalize x.testBit j = q at *
      gi_wp2
      refine hRd.mono ?_
      rintro e W3 (⟨rfl, hJ3, hk3⟩ | ⟨rfl, hJx3⟩)
      · gi_wp2
        go_roundw
        case rel => exact ⟨k + 1, by omega, by go_num, by rw [dn_succ, hj]; exact hJ3, kpB_t hnx hk3⟩
        case measure => simp [intOf] <;> omega
      · gi_wp2
        refine bodyPost_ret (results_none rfl _ _ _) rfl ?_
        exact ⟨⟨_, rfl⟩, .inr ⟨_, ⟨k + 1, by omega, by rw [dn_succ, hj]⟩, hJx3⟩⟩
    · obtain rfl : k = n := by omega
      rw [show (k : Int) - 1 - k = -1 by omega]
      gi_wp2
      go_end0
      exact ⟨⟨_, rfl⟩, .inl ⟨_, rfl, hJs⟩⟩
theorem bb_in (N : Nat) (X : Option Addr) (len cap : Nat) (w : World) :
    CallsIn Fence.wide N Tryz.prog 143 #[.slice X len cap] w fun e w' => e = .returned (.func (.func 180) #[] #[.pointer (some ⟨w.heap.size, 0, none⟩)]) ∧ w' = w.alloc (.cells #[.slice X len cap] 75) := by
  refine callsIn_of_wp Tryz.func143 rfl trivial ?_ rfl
  simp only [Tryz.ntmps143, List.size_toArray, List.length_cons, List.length_nil, Nat.reduceAdd, Nat.reduceSub, Array.replicate_succ, Array.replicate_zero, List.push_toArray, List.append_toArray, List.nil_append, List.cons_append]
  gi_wp2
  go_ret
  exact ⟨rfl, rfl⟩
theorem bb_stops (N : Nat) (hN : 1 ≤ N) (Bs n₀ n c x b o : Nat) (hn : n ≤ 1000) (hb : b < n₀) (w : World) (hBs : Bs < w.heap.size) (hn₀ : n₀ ≤ w.heap.size)
    (hc : w.cell? ⟨Bs, 0, none⟩ = some (.slice (some ⟨b, o, none⟩) n c)) (hR : ∀ i, i < n → w.cell? ⟨b, o + i, none⟩ = some (.bool (x.testBit i))) :
    SeqStopsK Fence.wide N Tryz.prog 180 #[.pointer (some ⟨Bs, 0, none⟩)] (fun j : Nat => #[Value.int .i64 (j : Int), .bool (x.testBit j)]) (KpB n₀ Bs) (fun ys => ys = dn n n) (fun pre => ∃ k, k ≤ n ∧ pre = dn n k) n w := fun l J Jx W hW _ _ hY h0 =>
  bb1_in N hN l Bs n₀ n c x b o hn hb J Jx hY W ((hW.cell (p := ⟨Bs, 0, none⟩) hBs).trans hc) (fun i hi => (hW.cell (p := ⟨b, o + i, none⟩) (by exact Nat.lt_of_lt_of_le hb hn₀)).trans (hR i hi)) h0
end Go.Proofs.YtgojnpblhfbdpaaGreatDoor

namespace Go.Proofs.YtgojnpblhfbdpaaGreatDoor
open Go Go.RowKit Go.Shelf
attribute [local go_sem] Oper.semAt_some

section
variable {P : Program} {ops : Array Oper} {Q : Exit → Act → World → Prop}
set_option maxRecDepth 100000 in
theorem region_j {l₀ N id : Nat} {a0 : Act} {W : World} (hm : P.follows .mixedOrders = true) (S : World → Prop) (PS : List (World → Prop)) (VS : List (Value → World → Prop)) (ds : List (Option Tmp)) (dps us kl kq : List (List Nat))
    (hds : ops.toList.map (·.dst) = ds) (hdps : ops.toList.map depsO = dps) (hus : ((List.range us.length).all fun i => (us.getD i []).all fun j => (dps.getD i []).contains j) = true) (hkl : ((List.range kl.length).all fun i => (kl.getD i []).all fun j => (List.range us.length).all fun k => !(us.getD k []).contains j || (k == i || (dps.getD i []).contains k)) = true) (hkq : ((List.range kq.length).all fun i => (kq.getD i []).all fun j => (kl.getD i []).contains j || beforeB dps i j) = true) (hVS : VS.length = ds.length) (hdis : distinctD ds = true) (hin : insideD ds a0.tmps.size = true)
    (hac : ((List.range ops.size).all fun i => ((ops[i]?).map (·.after.all fun e => !Region.binds .any e || decide (e.on < i))).getD true) = true)
    (hS0 : S W.drew) (hP0 : ∀ U ∈ PS, U W.drew)
    (hstep : StepsI l₀ N P Q a0 S PS VS ds dps us kq 0 ops.toList)
    (hfin : ∀ (vs : List Value) (w : World), vs.length = ds.length → S w → (∀ (j : Nat) (V : Value → World → Prop), (kl.all fun l => !l.contains j) = true → VS[j]? = some V → V (vs.getD j undef) w) → Q .normal (puts a0 ds vs) w) :
    (Code.region id ops true).wpIn (Fence.wide.inRound l₀) N P Q a0 W := by
  have hlen : ds.length = ops.size := by rw [← hds]; simp
  have dsat : ∀ i (o : Oper), ops[i]? = some o → ds[i]? = some o.dst := fun i o ho => by
    rw [← hds, List.getElem?_map, Array.getElem?_toList, ho]; rfl
  have dpat : ∀ i (o : Oper), ops[i]? = some o → dps.getD i [] = depsO o := fun i o ho => by
    rw [← hdps, List.getD_eq_getElem?_getD, List.getElem?_map, Array.getElem?_toList, ho]; rfl
  refine wpIn_region_any hm (wpAnyIn_inv (I := RK ops a0 S PS VS ds dps kl) (fun L a w i hi I => ?_) (fun L a w hr I => ?_) (fun L a w I => I.lsz) _ _ _ _ (by simp [List.countP_replicate]) ?_)
  · obtain ⟨hun, o, ho, hdep⟩ := mem_ready.1 hi
    have hio := (Array.getElem?_eq_some_iff.1 ho).1
    have hLi : i < L.size := by rw [I.lsz]; exact hio
    have hun' : L.getD i false = false := by simpa [hLi] using hun
    have hdone : ∀ j, (dps.getD i []).contains j = true → L.getD j false = true := by
      intro j hj
      rw [dpat i o ho] at hj
      have hj' : j ∈ depsO o := by simpa using hj
      obtain ⟨e, he, rfl⟩ := List.mem_map.1 hj'
      obtain ⟨he, hb⟩ := List.mem_filter.1 he
      exact hdep e (by simpa using he) hb
    have husd : ∀ i j, (us.getD i []).contains j = true → (dps.getD i []).contains j = true := by
      intro i j hj
      by_cases hi : i < us.length
      · exact List.all_eq_true.1 (List.all_eq_true.1 hus i (List.mem_range.2 hi)) j (by simpa using hj)
      · rw [List.getD_eq_getElem?_getD, List.getElem?_eq_none (by omega)] at hj
        simp at hj
    have hnk : ∀ i j, L.getD i false = false → (us.getD i []).contains j = true → ∀ i', L.getD i' false = true → (kl.getD i' []).contains j = false := by
      intro i j hi hj i' hi'
      cases hc : (kl.getD i' []).contains j with
      | false => rfl
      | true =>
        exfalso
        have hil : i < us.length := by
          rcases Nat.lt_or_ge i us.length with h | h
          · exact h
          · rw [List.getD_eq_getElem?_getD, List.getElem?_eq_none h] at hj
            simp at hj
        have hil' : i' < kl.length := by
          rcases Nat.lt_or_ge i' kl.length with h | h
          · exact h
          · rw [List.getD_eq_getElem?_getD, List.getElem?_eq_none h] at hc
            simp at hc
        have h1 := List.all_eq_true.1 (List.all_eq_true.1 (List.all_eq_true.1 hkl i' (List.mem_range.2 hil')) j (by simpa using hc)) i (List.mem_range.2 hil)
        rw [hj] at h1
        simp only [Bool.not_true, Bool.false_or, Bool.or_eq_true] at h1
        rcases h1 with h1 | h1
        · have : i = i' := by simpa using h1
          rw [this, hi'] at hi; cases hi
        · rw [I.closed i' hi' i h1] at hi; cases hi
    have hpre : ∀ j U, beforeB dps i j = true → PS[j]? = some U → U w := by
      intro j U hb hU
      refine I.pres j U ?_ hU
      unfold beforeB at hb
      rcases Bool.or_eq_true _ _ ▸ hb with h | h
      · have : j = i := by simpa using h
        subst this; exact hun'
      · cases hc : L.getD j false with
        | false => rfl
        | true => rw [I.closed j hc i h] at hun'; cases hun'
    have hs := stepsI_get ops.toList 0 hstep i o (by simpa using ho)
    rw [Nat.zero_add] at hs
    have hold : ∀ k, oldB ds dps i k = true → a.tmps[k]? = a0.tmps[k]? := fun k hk => I.olds k fun j hj hjl => by
      have h1 := List.all_eq_true.1 hk j (List.mem_range.2 hjl)
      rw [hj] at h1
      have hb : beforeB dps i j = true := by simpa using h1
      unfold beforeB at hb
      rcases Bool.or_eq_true _ _ ▸ hb with h | h
      · have : j = i := by simpa using h
        subst this; exact hun'
      · cases hc : L.getD j false with
        | false => rfl
        | true => rw [I.closed j hc i h] at hun'; cases hun'
    have hs := hs a w I.s hold (fun j hj => I.facts j (hdone j (husd i j hj)) (hnk i j hun' hj)) hpre (RK ops a0 S PS VS ds dps kl (L.setIfInBounds i true)) (fun v w' hv0 hK hV => by
      refine ⟨by simpa using I.lsz, (put_size a o.dst v).trans I.tsz, (put_defers' a o.dst v).trans I.dfr, hK.1, fun k hk => ?_, fun j hj hnkl => ?_, fun j hj d hd => ?_, fun j U hj hU => ?_⟩
      · rw [put_other]
        · refine I.olds k fun j hj hjl => ?_
          have h1 := hk j hj hjl
          by_cases hji : j = i
          · subst hji; exact hun'
          · rwa [getD_set_ne false (Ne.symm hji)] at h1
        · intro e
          have h1 := hk i (by rw [List.getD_eq_getElem?_getD, dsat i o ho, e]; rfl) (by rw [hlen]; exact hio)
          simp [hLi] at h1
      · by_cases hji : j = i
        · subst hji
          have hvl : j < VS.length := by rw [hVS, hlen]; exact hio
          have hV' : VS[j] v w' := by simpa [hvl] using hV
          refine ⟨fun d V e1 e2 => ?_, fun V e1 e2 => ?_⟩
          · rw [dsat j o ho] at e1
            have hd : o.dst = some d := by simpa using e1
            rw [List.getElem?_eq_getElem hvl] at e2
            obtain rfl : VS[j] = V := by simpa using e2
            refine ⟨v, ?_, hV'⟩
            have hdl : d < a.tmps.size := by
              rw [I.tsz]
              have h1 := List.all_eq_true.1 hin _ (List.mem_of_getElem? (dsat j o ho))
              rw [hd] at h1
              simpa using h1
            rw [hd]
            exact put_self a d v hdl
          · rw [dsat j o ho] at e1
            have hd : o.dst = none := by simpa using e1
            rw [List.getElem?_eq_getElem hvl] at e2
            obtain rfl : VS[j] = V := by simpa using e2
            rw [← hv0 hd]
            exact hV'
        · rw [getD_set_ne false (Ne.symm hji)] at hj
          have hki : (kl.getD i []).contains j = false := hnkl i (by simp [hLi])
          have hkqi : (kq.getD i []).contains j = false := by
            cases hc : (kq.getD i []).contains j with
            | false => rfl
            | true =>
              exfalso
              have hil : i < kq.length := by
                rcases Nat.lt_or_ge i kq.length with h | h
                · exact h
                · rw [List.getD_eq_getElem?_getD, List.getElem?_eq_none h] at hc
                  simp at hc
              have h1 := List.all_eq_true.1 (List.all_eq_true.1 hkq i (List.mem_range.2 hil)) j (by simpa using hc)
              rw [hki, Bool.false_or] at h1
              unfold beforeB at h1
              rcases Bool.or_eq_true _ _ ▸ h1 with h | h
              · exact hji (by simpa using h)
              · rw [I.closed j hj i h] at hun'; cases hun'
          have hf := I.facts j hj (fun i' hi' => hnkl i' (by
            by_cases e : i' = i
            · subst e; simp [hLi]
            · rw [getD_set_ne false (Ne.symm e)]; exact hi'))
          refine ⟨fun d V e1 e2 => ?_, fun V e1 e2 => hK.2.2 j hji hkqi V e2 _ (hf.2 V e1 e2)⟩
          obtain ⟨v', h1, h2⟩ := hf.1 d V e1 e2
          refine ⟨v', ?_, hK.2.2 j hji hkqi V e2 _ h2⟩
          rw [put_other]
          · exact h1
          · intro e
            exact distinctD_spec hdis (by rw [dsat i o ho, e]) e1 (Ne.symm hji) rfl
      · by_cases hdi : d = i
        · subst hdi; simp [hLi]
        · rw [getD_set_ne false (Ne.symm hdi)]
          by_cases hji : j = i
          · subst hji; exact hdone d hd
          · rw [getD_set_ne false (Ne.symm hji)] at hj
            exact I.closed j hj d hd
      · by_cases hji : j = i
        · subst hji; simp [hLi] at hj
        · rw [getD_set_ne false (Ne.symm hji)] at hj
          exact hK.2.1 j hji U hU (I.pres j U hj hU))
    unfold wpOpIn
    rw [ho]
    rw [yieldD_eq hds]
    simp only
    split
    · rename_i hw
      rw [if_pos hw] at hs
      exact hs
    · rename_i hw
      rw [if_neg hw] at hs
      exact ⟨fun _ _ => trivial, hs⟩
  · have hl := all_listed2 hac I.lsz hr
    have hF : ∀ j, j < ds.length → (kl.all fun l => !l.contains j) = true → Fact VS ds j a w := fun j hj hk => I.facts j (hl j (by omega)) (fun i' _ => by
      by_cases h : i' < kl.length
      · have h1 := List.all_eq_true.1 hk _ (List.getElem_mem h)
        rw [List.getD_eq_getElem?_getD, List.getElem?_eq_getElem h]
        simpa using h1
      · rw [List.getD_eq_getElem?_getD, List.getElem?_eq_none (by omega)]; rfl)
    have e := puts_eq a ds (ds.map fun d => match d with | some d => a.tmps.getD d undef | none => undef) a0 (by simp) I.tsz I.dfr (fun d hd k hk => by
      have h1 := List.all_eq_true.1 hin _ hd
      rw [hk] at h1
      simpa using h1) (fun j d hd => by
      rw [List.getElem?_map, hd]
      have hj := (List.getElem?_eq_some_iff.1 hd).1
      have hdl : d < a.tmps.size := by
        rw [I.tsz]
        have h1 := List.all_eq_true.1 hin _ (List.mem_of_getElem? hd)
        simpa using h1
      simp only [Option.map_some]
      rw [Array.getD_eq_getD_getElem?, Array.getElem?_eq_getElem hdl]; rfl) (fun k hk => I.olds k (fun j hj hjl => by
      exfalso
      apply hk
      rw [List.getD_eq_getElem?_getD, List.getElem?_eq_getElem hjl] at hj
      simp only [Option.getD_some] at hj
      rw [← hj]
      exact List.getElem_mem hjl))
    rw [e]
    refine hfin _ w (by simp) I.s (fun j V hkj hV => ?_)
    have hj : j < ds.length := by rw [← hVS]; exact (List.getElem?_eq_some_iff.1 hV).1
    have hf := hF j hj hkj
    rw [List.getD_eq_getElem?_getD, List.getElem?_map]
    have hdj := List.getElem?_eq_getElem hj
    rw [hdj]
    simp only [Option.map_some, Option.getD_some]
    cases hc : ds[j] with
    | none => rw [hc] at hdj; exact hf.2 V hdj hV
    | some d =>
      rw [hc] at hdj
      obtain ⟨v, hv, hVv⟩ := hf.1 d V hdj hV
      simp only
      rw [Array.getD_eq_getD_getElem?, hv]; exact hVv
  · have hr : ∀ j, (Array.replicate ops.size false).getD j false = false := by
      intro j
      by_cases h : j < ops.size <;> simp [h]
    refine ⟨by simp, rfl, rfl, hS0, fun _ _ => rfl, fun j hj _ => ?_, fun j hj => ?_, fun j U _ hU => hP0 U (List.mem_of_getElem? hU)⟩
    · rw [hr] at hj; cases hj
    · rw [hr] at hj; cases hj
end
/-- The value of the bits listed, the most significant first. -/
def pvB (x : Nat) (pre : List Nat) : Nat := pre.foldl (fun a j => 2 * a + (x.testBit j).toNat) 0
theorem pvB_snoc (x : Nat) (pre : List Nat) (j : Nat) : pvB x (pre ++ [j]) = 2 * pvB x pre + (x.testBit j).toNat := by simp [pvB]
theorem pvB_lt (x : Nat) : ∀ (pre : List Nat), pvB x pre < 2 ^ pre.length := fun pre => by
  have : ∀ (r : List Nat), pvB x r.reverse < 2 ^ r.length := fun r => by
    induction r with
    | nil => show 0 < 1; decide
    | cons j r ih =>
      rw [List.reverse_cons, pvB_snoc, List.length_cons, Nat.pow_succ]
      have : (x.testBit j).toNat ≤ 1 := Bool.toNat_le _
      omega
  have h := this pre.reverse
  rwa [List.reverse_reverse, List.length_reverse] at h
theorem half_bit (x m : Nat) : x / 2 ^ m = 2 * (x / 2 ^ (m + 1)) + (x.testBit m).toNat := by
  rw [Nat.testBit_eq_decide_div_mod_eq, Nat.pow_succ, ← Nat.div_div_eq_div_mul]
  have := Nat.div_add_mod (x / 2 ^ m) 2
  have h2 : x / 2 ^ m % 2 < 2 := Nat.mod_lt _ (by decide)
  rcases (show x / 2 ^ m % 2 = 0 ∨ x / 2 ^ m % 2 = 1 by omega) with e | e <;> rw [e] at this ⊢ <;> simp <;> omega
theorem pvB_dn {n x : Nat} (hx : x < 2 ^ n) : ∀ k, k ≤ n → pvB x (dn n k) = x / 2 ^ (n - k)
  | 0, _ => by
    have : dn n 0 = [] := rfl
    rw [this, Nat.sub_zero, Nat.div_eq_of_lt hx]
    rfl
  | k + 1, h => by
    rw [dn_succ, pvB_snoc, pvB_dn hx k (by omega), half_bit x (n - (k + 1)), show n - (k + 1) + 1 = n - k by omega, show n - 1 - k = n - (k + 1) by omega]
theorem pvB_all {n x : Nat} (hx : x < 2 ^ n) : pvB x (dn n n) = x := by rw [pvB_dn hx n (Nat.le_refl _), Nat.sub_self, Nat.pow_zero, Nat.div_one]
/-- Characters of digits, as integers. -/
def cdI (l : List Nat) : List Int := l.map fun d : Nat => 48 + (d : Int)
theorem cdI_len (l : List Nat) : (cdI l).length = l.length := by simp [cdI]
theorem cdI_dgc {l : List Nat} (h : ∀ d ∈ l, d < 10) : cdI l = bI (l.map dgc) := by
  unfold cdI bI
  rw [List.map_map]
  refine List.map_congr_left fun (d : Nat) hd => ?_
  have h1 := h d hd
  show _ = ((dgc d).toNat : Int)
  have : ∀ d : Nat, d < 10 → (48 + (d : Int)) = ((dgc d).toNat : Int) := by decide
  exact this d h1
theorem leN_len_le {n k : Nat} (h : n < 2 ^ k) : (leN n).length ≤ k + 1 := by
  rw [leN_len]
  refine dec_len_le k n (Nat.lt_of_lt_of_le h ?_)
  calc 2 ^ k ≤ 10 ^ k := Nat.pow_le_pow_left (by decide) k
    _ ≤ 10 ^ (k + 1) := Nat.pow_le_pow_right (by decide) (by omega)
theorem leN_pos (n : Nat) : 1 ≤ (leN n).length := by rw [leN_len]; exact dec_len n
theorem dbl_dig : ∀ (l : List Nat) (k : Nat), ∀ d ∈ (dbl l k).1, d < 10
  | [], _, d, h => by cases h
  | e :: r, k, d, h => by
    rcases List.mem_cons.1 h with rfl | h
    · exact Nat.mod_lt _ (by decide)
    · exact dbl_dig r _ d h
/-- One digit more is doubled. -/
theorem dbl_step {l : List Nat} {k : Nat} (hk : k < l.length) (cr : Nat) : ((dbl (l.take (k + 1)) cr).1 ++ l.drop (k + 1) = ((dbl (l.take k) cr).1 ++ l.drop k).set k ((2 * l[k] + (dbl (l.take k) cr).2) % 10)) ∧ (dbl (l.take (k + 1)) cr).2 = (2 * l[k] + (dbl (l.take k) cr).2) / 10 := by
  rw [List.take_succ_eq_append_getElem hk, dbl_split]
  refine ⟨?_, rfl⟩
  have hl : (dbl (l.take k) cr).1.length = k := by rw [dbl_len, List.length_take]; omega
  rw [List.set_append_right _ _ (by omega), hl, Nat.sub_self, List.drop_eq_getElem_cons hk, List.set_cons_zero, List.append_assoc]
  rfl
theorem cdI_set (l : List Nat) (k v : Nat) : cdI (l.set k v) = (cdI l).set k (48 + (v : Int)) := by unfold cdI; rw [List.map_set]
theorem nth_cdI {l : List Nat} {k : Nat} (h : k < l.length) : nth (cdI l) k = 48 + (l[k] : Int) := by simp [nth, cdI, List.getD_eq_getElem?_getD, h]
theorem NT.put {T : TypeId} {u : World} {B g n c p : Nat} {l : List Int} {v : Int} (h : NT T u B (some ⟨g, 0, none⟩) n c l) (hv : 0 ≤ v) : NT T (u.setCell ⟨g, p, none⟩ (.int .u8 v)) B (some ⟨g, 0, none⟩) n c (l.set p v) := by
  refine ⟨by rw [List.length_set]; exact h.1, nnL_set h.2.1 p hv, by rw [← il_set, List.length_set]; exact h.2.2.1, ?_⟩
  rcases h.2.2.2 with ⟨e, h0⟩ | ⟨g', cap, cur, e, hB, hh, hc, hm, hs, ht⟩
  · simp only [Value.slice.injEq] at e
    exact absurd e.1 (by simp)
  · have e1 := e
    simp only [Value.slice.injEq, Option.some.injEq, Addr.mk.injEq, and_true] at e1
    obtain ⟨rfl, _, _⟩ := e1
    refine .inr ⟨g, cap, cur.setIfInBounds p (.int .u8 v), e, hB, Own.put (show Own u g _ cur from hh) p _, hc, hm, by simpa using hs, ?_⟩
    rw [Array.toList_setIfInBounds, List.take_set, ht, il_set]
theorem wpListIn_catU {l₀ N B : Nat} {ops : Array Oper} {rest : List Oper} {o : Oper} {a : Act} {w : World} {Q : Exit → Act → World → Prop} (hgd : o.guard = none) (s x : Operand)
    (ho : o.op = .call { callee := .builtin .append, args := #[s, x], argTypes := #[47, 47] }) (hty : o.type = 47) (hbase : B ≤ w.heap.size)
    {A : Option Addr} {n c : Nat} {l : List Int} (hs : a.eval s = .slice A n c) (hv : NT 5 w B A n c l) {X : Option Addr} {m d : Nat} {y : List Int} (hx : a.eval x = .slice X m d) (hr : Rb w X m y) (hm : 0 < m) (hn : n + m ≤ 1000000)
    (h : ∀ A' c' w', NT 5 w' B A' (n + m) c' (l ++ y) → w.grownBy w' (Value.slice A n c).ownBlock → wpListIn (Fence.wide.inRound l₀) N Tryz.prog ops Q rest (a.put o.dst (.slice A' (n + m) c')) w') : wpListIn (Fence.wide.inRound l₀) N Tryz.prog ops Q (o :: rest) a w :=
  wpListIn_plain hgd fun _K hK => wpIn_catU s x ho hty hbase hs hv hx hr hm hn fun A' c' w' h1 h2 => hK _ _ (h A' c' w' h1 h2)
/-- What a round of the inner loop leaves as it was. -/
structure SD (w W0 W : World) (X Y : Value) (u : World) : Prop where
  cv : Own u (w.heap.size + 1) 47 #[Y]
  bx : Own u (w.heap.size + 1 + 1) 75 #[X]
  blw : Below w.heap.size w u
  kf : KeepsFrom W0.heap.size W u
section
variable {w W0 W u u' : World} {X Y : Value} {k : Nat}
instance : Stb (SD w W0 W X Y) := ⟨fun _u _u' hb h => ⟨h.cv.step hb, h.bx.step hb, below_step h.blw hb, h.kf.trans ((keeps_below hb).from _)⟩⟩
theorem SD.set {g p : Nat} {cs : Array Value} {q : Value} (h : SD w W0 W X Y u) (O : Own u g 5 cs) (hg : w.heap.size ≤ g) : SD w W0 W X Y (u.setCell ⟨g, p, none⟩ q) := by
  have hgr : u.grownBy (u.setCell ⟨g, p, none⟩ q) (some g) := ⟨rfl, rfl, rfl, by simp, fun k _ hk => Below.heap_setCell u ⟨g, p, none⟩ q k (fun e => hk (by rw [e]))⟩
  have hr : ∀ r, some g = some r → ∃ cs, Own u r 5 cs := fun r e => by cases e; exact ⟨_, O⟩
  exact ⟨h.cv.rowT hgr hr (by decide), h.bx.rowT hgr hr (by decide), Below.grown h.blw hgr h.blw.size (fun r e => by cases e; exact hg), h.kf.trans ((keeps_cells hgr (fun r e => ⟨_, hr r e⟩)).from _)⟩
end
set_option maxRecDepth 100000 in
set_option maxHeartbeats 4000000 in
theorem udec_any (A : Option Addr) (n c x : Nat) (w : World) (h : B.Rd w A n x) (hn1 : 1 ≤ n) (hn : n ≤ 128) :
    Calls Tryz.prog 102 #[.slice A n c] w fun e w' => e = .returned (.string (str (decL x))) ∧ Below w.heap.size w w' := by
  obtain ⟨hx, hA⟩ := h
  obtain ⟨b, o, rfl, hb, hR⟩ := hA (by omega)
  refine (callsIn_wide (n := 6)).1 ?_
  refine callsIn_of_wp_marks Tryz.func102 rfl trivial ?_ rfl
  simp only [Tryz.ntmps102, List.size_toArray, List.length_cons, List.length_nil, Nat.reduceAdd, Nat.reduceSub, Array.replicate_succ, Array.replicate_zero, List.push_toArray, List.append_toArray, List.nil_append, List.cons_append]
  gi_wp2_with (refine ⟨trivial, ?_⟩; gi_at_call 143; refine (bb_in _ _ _ _ _).mono ?_; rintro e w' ⟨rfl, rfl⟩)
  have P9 := ((Own.at1 w 5 #[.int .u8 48] (g := w.heap.size) (by simp)).alloc (.cells #[.slice (some ⟨w.heap.size, 0, none⟩) 1 1] 47)).alloc (.cells #[.slice (some ⟨b, o, none⟩) n c] 75)
  have P0 := (Own.at1 (w.alloc (.cells #[.int .u8 48] 5)) 47 #[.slice (some ⟨w.heap.size, 0, none⟩) 1 1] (g := w.heap.size + 1) (by simp)).alloc (.cells #[.slice (some ⟨b, o, none⟩) n c] 75)
  have P1 := Own.at1 ((w.alloc (.cells #[.int .u8 48] 5)).alloc (.cells #[.slice (some ⟨w.heap.size, 0, none⟩) 1 1] 47)) 75 #[.slice (some ⟨b, o, none⟩) n c] (g := w.heap.size + 1 + 1) (by simp)
  have BB := below_new (below_new (below_new (Below.refl w.heap.size w) (.cells #[.int .u8 48] 5)) (.cells #[.slice (some ⟨w.heap.size, 0, none⟩) 1 1] 47)) (.cells #[.slice (some ⟨b, o, none⟩) n c] 75)
  obtain ⟨W0, hW0⟩ : ∃ W0, ((w.alloc (.cells #[.int .u8 48] 5)).alloc (.cells #[.slice (some ⟨w.heap.size, 0, none⟩) 1 1] 47)).alloc (.cells #[.slice (some ⟨b, o, none⟩) n c] 75) = W0 := ⟨_, rfl⟩
  have hs0 : W0.heap.size = w.heap.size + 1 + 1 + 1 := by rw [← hW0]; simp
  rw [hW0] at P0 P1 P9 BB ⊢
  clear hW0
  have N0 : NT 5 W0 w.heap.size (some ⟨w.heap.size, 0, none⟩) 1 1 (cdI (leN 0)) := by
    have e : cdI (leN 0) = [48] := by rw [leN_lt (by decide)]; rfl
    rw [e]
    exact ⟨rfl, nnL_one (by decide), rfl, .inr ⟨w.heap.size, 1, #[.int .u8 48], rfl, Nat.le_refl _, P9, by decide, by decide, rfl, rfl⟩⟩
  refine wpIn_rangeFunc_ownH rfl (by decide) (gf := 180) (lb := #[.pointer (some ⟨w.heap.size + 1 + 1, 0, none⟩)]) rfl trivial (enters_of Tryz.func180 (by kernel_rfl) rfl)
    (bb_stops (6 - 1) (by decide) (w.heap.size + 1 + 1) w.heap.size n c x b o (by omega) hb W0 (by omega) (by omega) (P1.cell 0) (fun i hi => (BB.cell (p := ⟨b, o + i, none⟩) hb).trans (hR i hi))) kpB_t (kpB_b (by omega)) (Below.refl _ _) (fun _ => rfl)
    (fun pre W => (∃ A m d, Own W (w.heap.size + 1) 47 #[.slice A m d] ∧ NT 5 W w.heap.size A m d (cdI (leN (pvB x pre)))) ∧ Own W (w.heap.size + 1 + 1) 75 #[.slice (some ⟨b, o, none⟩) n c] ∧ Below w.heap.size w W)
    (fun _ _ _ => False)
    ?hI ?hIx ⟨⟨_, _, _, P0, N0⟩, P1, BB⟩
    (fun j a' W => a' = { tmps := #[.slice (some ⟨b, o, none⟩) n c, undef, .string ⟨#[]⟩, .pointer (some ⟨w.heap.size + 1, 0, none⟩), undef, .bool (x.testBit j), undef, undef, .slice (some ⟨w.heap.size, 0, none⟩) 1 1, .slice (some ⟨b, o, none⟩) n c, .func (.func 180) #[] #[.pointer (some ⟨w.heap.size + 1 + 1, 0, none⟩)], .int .i64 (j : Nat), .bool (x.testBit j), undef, undef, undef, undef, undef, undef, undef, undef, undef, undef, undef, undef, undef, undef, undef, undef, undef, undef, undef, undef, undef, undef, undef, undef, undef], defers := [] })
    ?hAx ?assign ?body ?done ?stop
  case hI =>
    rintro pre A B row ⟨⟨A1, m1, d1, q1, q2⟩, q5, q7⟩ hg hr
    have hr' := fun r e => (hr r e).2
    exact ⟨⟨A1, m1, d1, q1.kept hg hr', q2.kept hg hr'⟩, q5.kept hg hr', q7.grown hg q7.size (fun k e => by have := (hr k e).1; omega)⟩
  case hIx => rintro cd pre A B row h; exact h.elim
  case hAx => rintro x a' _ A B row h hg hr; exact h
  case assign =>
    rintro l1 pre j W K ⟨q1, q5, q7⟩ hK
    gi_wp2
    exact hK _ _ ((KeepsOthers.refl W).from _) ⟨Below.refl _ _, fun _ h => h⟩ ⟨q1, q5, q7⟩ rfl
  case body =>
    rintro l1 pre j a' W hl hr ⟨⟨A1, m1, d1, q1, q2⟩, q5, q7⟩ rfl hlt
    have hps := pvB_snoc x pre j
    have hlv := leN_len_le (pvB_lt x pre)
    have hpos := leN_pos (pvB x pre)
    have hdg := leN_dig (pvB x pre)
    have hdb := dbl_le (pvB x pre) (x.testBit j).toNat (Bool.toNat_le _)
    rw [← hps] at hdb
    have hqe : x.testBit j = decide ((x.testBit j).toNat = 1) := by cases x.testBit j <;> rfl
    have hcr : (x.testBit j).toNat ≤ 1 := Bool.toNat_le _
    rw [hqe]
    generalize (x.testBit j).toNat = cr at *
    generalize leN (pvB x pre) = ds at *
    have hm : ds.length = m1 := by rw [← cdI_len]; exact q2.1
    have hm9 : m1 ≤ 200 := by omega
    obtain ⟨g1, cur, rfl, hg1, hO1, hcur, hc1⟩ := q2.own (by omega)
    have k1 := q1.cell 0
    gi_wp2
    gi_loopw [5, 15] (fun q i wr => ∃ k : Nat, k ≤ m1 ∧ i = .int .i64 k ∧ q = .bool (decide ((dbl (ds.take k) cr).2 = 1)) ∧ SD w W0 W (.slice (some ⟨b, o, none⟩) n c) (.slice (some ⟨g1, 0, none⟩) m1 d1) wr ∧ NT 5 wr w.heap.size (some ⟨g1, 0, none⟩) m1 d1 (cdI ((dbl (ds.take k) cr).1 ++ ds.drop k))) (fun _ i _ => m1 - (intOf i).toNat)
    case atStart => exact ⟨0, Nat.zero_le _, rfl, rfl, ⟨q1, q5, q7, (KeepsOthers.refl W).from _⟩, q2⟩
    case round =>
      obtain ⟨k, hk9, rfl, rfl, hSd, hNd⟩ := hrel
      by_cases hk : k < m1
      · have hkl : k < ds.length := by omega
        obtain ⟨s1, s2⟩ := dbl_step hkl cr
        have hlA : (dbl (ds.take k) cr).1.length = k := by rw [dbl_len, List.length_take]; omega
        have hnk : nth (cdI ((dbl (ds.take k) cr).1 ++ ds.drop k)) k = 48 + (ds[k] : Int) := by
          rw [nth_cdI (by rw [List.length_append, hlA, List.length_drop]; omega)]
          congr 1
          rw [List.getElem_append_right (by omega)]
          simp [hlA]
        have hc'1 : (dbl (ds.take k) cr).2 ≤ 1 := dbl_carry _ _ (fun d hd => hdg d (List.mem_of_mem_take hd)) hcr
        have hd10 : ds[k] < 10 := hdg _ (List.getElem_mem hkl)
        have hcell := (hNd.own (by omega))
        obtain ⟨g2, cur2, e2, _, hO2, _, hc2⟩ := hcell
        obtain rfl : g1 = g2 := by simpa using e2
        have hc3 := hc2 k hk
        rw [hnk] at hc3
        have HD := Lib.hid fun (u : World) => double_any ds[k] hd10 _ hc'1 u
        rw [← s2] at HD
        have i1 : (k : Int) < m1 := by omega
        have i0 : (0 : Int) ≤ k := by omega
        have kv := hSd.cv.cell 0
        have hs1 := Lib.hid s1
        have hset : ((cdI ((dbl (ds.take k) cr).1 ++ ds.drop k)).set k (48 + (((2 * ds[k] + (dbl (ds.take k) cr).2) % 10 : Nat) : Int))) = cdI ((dbl (ds.take (k + 1)) cr).1 ++ ds.drop (k + 1)) := by rw [s1, cdI_set]
        replace hset := Lib.hid hset
        clear s1 s2 hs1 hnk hlA hc2 hO2 e2
        obtain ⟨D, hD⟩ : ∃ D, D = (dbl (ds.take k) cr).1 ++ ds.drop k := ⟨_, rfl⟩
        rw [← hD] at hset hNd
        clear hD
        generalize (2 * ds[k] + (dbl (ds.take k) cr).2) % 10 = v at *
        obtain ⟨D2, hD2⟩ : ∃ D2, D2 = (dbl (ds.take (k + 1)) cr).1 ++ ds.drop (k + 1) := ⟨_, rfl⟩
        rw [← hD2] at hset
        replace hD2 := Lib.hid hD2
        obtain ⟨c2, hcc2⟩ : ∃ c2, c2 = (dbl (ds.take (k + 1)) cr).2 := ⟨_, rfl⟩
        rw [← hcc2] at HD
        replace hcc2 := Lib.hid hcc2
        generalize (dbl (ds.take k) cr).2 = c' at *
        generalize hdk : ds[k] = d at *
        replace hdk := Lib.hid hdk
        have hN9 : NT 5 wr.drew w.heap.size (some ⟨g1, 0, none⟩) m1 d1 (cdI D) := hNd.step (below_drew (Below.refl _ _))
        have hS9 : SD w W0 W (.slice (some ⟨b, o, none⟩) n c) (.slice (some ⟨g1, 0, none⟩) m1 d1) wr.drew := ⟨hSd.cv, hSd.bx, hSd.blw.drew, hSd.kf.trans ((KeepsOthers.drew wr).from _)⟩
        gi_wp2
        refine region_j (by kernel_rfl) (fun u => SD w W0 W (.slice (some ⟨b, o, none⟩) n c) (.slice (some ⟨g1, 0, none⟩) m1 d1) u) [tru, tru, tru, tru, tru, tru, tru, tru, tru, fun u => NT 5 u w.heap.size (some ⟨g1, 0, none⟩) m1 d1 (cdI D), tru] [isV (.slice (some ⟨g1, 0, none⟩) m1 d1), isV (.int .i64 k), isV (.int .u8 (48 + (d : Int))), isV (.bool (decide (c' = 1))), isV (.tuple #[.int .u8 (48 + (v : Int)), .bool (decide (c2 = 1))]), isV (.tuple #[.int .u8 (48 + (v : Int)), .bool (decide (c2 = 1))]), isV (.int .u8 (48 + (v : Int))), isV (.bool (decide (c2 = 1))), isV (.pointer (some ⟨g1, k, none⟩)), fun _ u => NT 5 u w.heap.size (some ⟨g1, 0, none⟩) m1 d1 ((cdI D).set k (48 + (v : Int))), isV (.bool (decide (c2 = 1)))] [some 21, some 22, some 23, some 24, some 25, some 20, some 26, some 27, some 28, none, some 5] [[], [], [], [], [2, 3], [4], [5], [5], [0, 1, 0, 1, 2, 3, 4, 5, 6], [8, 6, 4, 0, 1, 2, 3, 4, 5, 6], [7, 9, 0, 1, 2, 3, 4, 5, 6, 7, 8, 9]] [[], [], [], [], [2, 3], [4], [5], [5], [0, 1], [8, 6], [7]] [[], [], [], [], [], [], [], [], [], [], []] [[], [], [], [], [], [], [], [], [], [], []] (by kernel_rfl) (by kernel_rfl) (by kernel_rfl) (by kernel_rfl) (by kernel_rfl) rfl (by kernel_rfl) (by kernel_rfl) (by kernel_rfl) hS9 (by
          intro U hU
          simp only [List.mem_cons, List.not_mem_nil, or_false] at hU
          rcases hU with rfl | rfl | rfl | rfl | rfl | rfl | rfl | rfl | rfl | rfl | rfl
          all_goals first | trivial | exact hN9) ?_ ?_
        · refine ⟨?_, ?_, ?_, ?_, ?_, ?_, ?_, ?_, ?_, ?_, ?_, trivial⟩
          · intro a w' hS hO hF' hP K hK
            have ha := hO 3 (by rfl)
            refine if_ok (by rfl) ?_
            refine wpIn_of_wp (by intro c h; cases h) (fun _ _ _ => norow_v) ?_
            refine wp_loadT _ rfl (ev ha) hS.cv ?_
            exact hK _ w' (fun h => by cases h) (keepK_same hS) rfl
          · intro a w' hS hO hF' hP K hK
            have ha := hO 6 (by rfl)
            refine if_ok (by rfl) ?_
            refine wpIn_of_wp (by intro c h; cases h) (fun _ _ _ h => by cases h) ?_
            refine wp_mv _ rfl (ev ha) ?_
            exact hK _ w' (fun h => by cases h) (keepK_same hS) rfl
          · intro a w' hS hO hF' hP K hK
            have ha := hO 7 (by rfl)
            refine if_ok (by rfl) ?_
            refine wpIn_of_wp (by intro c h; cases h) (fun _ _ _ h => by cases h) ?_
            refine wp_mv _ rfl (ev ha) ?_
            exact hK _ w' (fun h => by cases h) (keepK_same hS) rfl
          · intro a w' hS hO hF' hP K hK
            have ha := hO 5 (by rfl)
            refine if_ok (by rfl) ?_
            refine wpIn_of_wp (by intro c h; cases h) (fun _ _ _ h => by cases h) ?_
            refine wp_mv _ rfl (ev ha) ?_
            exact hK _ w' (fun h => by cases h) (keepK_same hS) rfl
          · intro a w' hS hO hF' hP K hK
            obtain ⟨_, f0, rfl⟩ := (hF' 2 rfl).1 23 _ rfl rfl
            obtain ⟨_, f1, rfl⟩ := (hF' 3 rfl).1 24 _ rfl rfl
            refine if_ok (by rfl) ?_
            refine wpIn_of_wp (by intro c h; cases h) (fun _ _ _ h => by cases h) ?_
            refine wp_calls rfl (enters_of Tryz.func144 (by kernel_rfl) rfl) (args := #[.int .u8 (48 + (d : Int)), .bool (decide (c' = 1))]) (by simp [Act.eval, f0, f1]) ?_
            refine (HD.out w').mono ?_
            rintro e w2 ⟨rfl, rfl⟩
            exact ⟨_, rfl, hK _ w' (fun h => by cases h) (keepK_same hS) rfl⟩
          · intro a w' hS hO hF' hP K hK
            obtain ⟨_, f0, rfl⟩ := (hF' 4 rfl).1 25 _ rfl rfl
            refine if_ok (by rfl) ?_
            refine wpIn_of_wp (by intro c h; cases h) (fun _ _ _ h => by cases h) ?_
            refine wp_mv _ rfl (ev f0) ?_
            exact hK _ w' (fun h => by cases h) (keepK_same hS) rfl
          · intro a w' hS hO hF' hP K hK
            obtain ⟨_, f0, rfl⟩ := (hF' 5 rfl).1 20 _ rfl rfl
            refine if_ok (by rfl) ?_
            refine wpIn_of_wp (by intro c h; cases h) (fun _ _ _ => norow_v) ?_
            refine wp_val (w' := w') (q := .int .u8 (48 + (v : Int))) (by unfold execOp; simp only [ev f0]; simp [go_sem]) ?_
            exact hK _ w' (fun h => by cases h) (keepK_same hS) rfl
          · intro a w' hS hO hF' hP K hK
            obtain ⟨_, f0, rfl⟩ := (hF' 5 rfl).1 20 _ rfl rfl
            refine if_ok (by rfl) ?_
            refine wpIn_of_wp (by intro c h; cases h) (fun _ _ _ => norow_v) ?_
            refine wp_val (w' := w') (q := .bool (decide (c2 = 1))) (by unfold execOp; simp only [ev f0]; simp [go_sem]) ?_
            exact hK _ w' (fun h => by cases h) (keepK_same hS) rfl
          · intro a w' hS hO hF' hP K hK
            obtain ⟨_, f0, rfl⟩ := (hF' 0 rfl).1 21 _ rfl rfl
            obtain ⟨_, f1, rfl⟩ := (hF' 1 rfl).1 22 _ rfl rfl
            refine if_ok (by rfl) ?_
            refine wpIn_of_wp (by intro c h; cases h) (fun _ _ _ => norow_v) ?_
            refine wp_val (w' := w') (q := .pointer (some ⟨g1, k, none⟩)) (by unfold execOp; simp only [ev f0, ev f1]; simp [go_sem, i0, i1]) ?_
            exact hK _ w' (fun h => by cases h) (keepK_same hS) rfl
          · intro a w' hS hO hF' hP K hK
            obtain ⟨_, f0, rfl⟩ := (hF' 8 rfl).1 28 _ rfl rfl
            obtain ⟨_, f1, rfl⟩ := (hF' 6 rfl).1 26 _ rfl rfl
            have hN := hP 9 _ (by rfl) rfl
            obtain ⟨g2, cur2, e2, hg2, hO2, hcur2, hc2⟩ := hN.own (by omega)
            obtain rfl : g1 = g2 := by simpa using e2
            have hc3 := hc2 k hk
            have hf3 := hO2.free k
            refine if_ok (by rfl) ?_
            refine wpIn_of_wp (by intro c h; cases h) (fun _ _ _ => norow_u) ?_
            refine wp_unit (w' := w'.setCell ⟨g1, k, none⟩ (.int .u8 (48 + (v : Int)))) (by unfold execOp; simp only [ev f0, ev f1]; simp [go_sem, hc3, hf3]) ?_
            refine hK _ _ (fun _ => rfl) ⟨hS.set hO2 hg2, fun j hj U hU h => ?_, fun j hj hk V hV q h => ?_⟩ (hN.put (by omega))
            · rcases j with _ | _ | _ | _ | _ | _ | _ | _ | _ | _ | _ | j
              all_goals simp at hU hj
              all_goals subst hU
              all_goals exact h
            · rcases j with _ | _ | _ | _ | _ | _ | _ | _ | _ | _ | _ | j
              all_goals simp at hV hj hk
              all_goals subst hV
              all_goals exact h
          · intro a w' hS hO hF' hP K hK
            obtain ⟨_, f0, rfl⟩ := (hF' 7 rfl).1 27 _ rfl rfl
            refine if_ok (by rfl) ?_
            refine wpIn_of_wp (by intro c h; cases h) (fun _ _ _ h => by cases h) ?_
            refine wp_val (w' := w') (q := .bool (decide (c2 = 1))) (by unfold execOp; simp only [Sem.run_pure, ev f0]) ?_
            exact hK _ w' (fun h => by cases h) (keepK_same hS) rfl
        · intro vs u hl hS hV
          match vs, hl, hV with
          | [v0, v1, v2, v3, v4, v5, v6, v7, v8, v9, v10], _, hV =>
            simp only [puts, Act.put, List.setIfInBounds_toArray, List.set_cons_zero, List.set_cons_succ]
            obtain rfl : v10 = .bool (decide (c2 = 1)) := hV 10 _ rfl rfl
            have hN5 := hV 9 _ rfl rfl
            rw [hset.out] at hN5
            clear hV
            gi_wp2
            go_roundw
            case rel => exact ⟨k + 1, by omega, by go_num, by rw [hcc2.out], hS, by rw [hD2.out] at hN5; exact hN5⟩
            case measure => simp [intOf]; omega
      · obtain rfl : k = m1 := by omega
        have e1 : ds.take k = ds := List.take_of_length_le (by omega)
        have e2 : ds.drop k = [] := List.drop_of_length_le (by omega)
        rw [e1, e2, List.append_nil] at hNd
        rw [e1]
        replace hdb := Lib.hid hdb
        have hWu : ∀ u, Below w.heap.size w u → KeepsFrom W0.heap.size W u → Below w.heap.size W u := fun u h1 h2 => ⟨h1.os.trans q7.os.symm, h1.tape.trans q7.tape.symm, h1.output.trans q7.output.symm, h2.size, fun k hk => (h1.block k hk).trans (q7.block k hk).symm⟩
        have c4 := q5.cell 0
        cases hq : decide ((dbl ds cr).2 = 1)
        · have hq' : ¬ (dbl ds cr).2 = 1 := by simpa using hq
          replace hq' := Lib.hid hq'
          have c5 := hSd.bx.cell 0
          gi_wp2
          exact ⟨hSd.kf, ⟨hWu _ hSd.blw hSd.kf, fun s hs => by rw [c4] at hs; rw [c5]; exact hs⟩, ⟨_, _, _, hSd.cv, by have := hdb.out; rw [if_neg hq'.out, List.append_nil] at this; rw [← this]; exact hNd⟩, hSd.bx, hSd.blw⟩
        · have hq' : (dbl ds cr).2 = 1 := by simpa using hq
          replace hq' := Lib.hid hq'
          have hb2 := below_new (Below.refl wr.heap.size wr) (.cells #[.int .u8 49] 5)
          have kw := hSd.cv.cell 0
          have hrow := (hNd.alloc (.cells #[.int .u8 49] 5)).row
          have hszb := Nat.le_trans hSd.blw.size hb2.size
          gi_wp2_with (refine wpListIn_catU (B := w.heap.size) rfl (.tmp 31) (.tmp 32) rfl rfl hszb rfl (hNd.alloc (.cells #[.int .u8 49] 5)) rfl (rb_byte wr 5 49 (by decide)) (by decide) (by omega) ?_; intro A9 c9 w9 hN9 hg9; have q9 := (hSd.cv.alloc (.cells #[.int .u8 49] 5)).rowT hg9 (fun r e => (hrow r e).2) (by decide); have b9 := (hSd.bx.alloc (.cells #[.int .u8 49] 5)).rowT hg9 (fun r e => (hrow r e).2) (by decide); have l9 := Below.grown (below_step hSd.blw hb2) hg9 (below_step hSd.blw hb2).size (fun r e => (hrow r e).1); have kf9 := (hSd.kf.trans ((keeps_below hb2).from W0.heap.size)).trans ((keeps_cells hg9 (fun r e => ⟨_, (hrow r e).2⟩)).from W0.heap.size); have k9 := q9.cell 0; have f9 := q9.free 0)
          have hgs := grownBy_setCell' w9 (w.heap.size + 1) (.slice A9 (k + 1) c9)
          have c5 := (b9.grownT (by omega) hgs).cell 0
          have lS := below_set l9 (p := ⟨w.heap.size + 1, 0, none⟩) (by simp) (.slice A9 (k + 1) c9)
          have kS := kf9.trans ((KeepsOthers.setCell w9 ⟨w.heap.size + 1, 0, none⟩ (.slice A9 (k + 1) c9)).from W0.heap.size)
          exact ⟨kS, ⟨hWu _ lS kS, fun s hs => by rw [c4] at hs; rw [c5]; exact hs⟩, ⟨_, _, _, q9.put 0 _, by
            have := hdb.out
            rw [if_pos hq'.out] at this
            rw [← this]
            have e : cdI ((dbl ds cr).1 ++ [1]) = cdI (dbl ds cr).1 ++ [49] := by unfold cdI; rw [List.map_append]; rfl
            rw [e]
            exact hN9.grownT q9 (by decide) hgs⟩, b9.grownT (by omega) hgs, lS⟩
  case done =>
    rintro D xs W hD rfl ⟨⟨A1, m1, d1, q1, q2⟩, q5, q7⟩ hK
    rw [pvB_all hx] at q2
    have hpos := leN_pos x
    have hlv := leN_len_le (Nat.lt_of_lt_of_le hx (Nat.pow_le_pow_right (by decide) hn))
    have hm : (leN x).length = m1 := by rw [← cdI_len]; exact q2.1
    have hm1 : m1 ≤ 200 := by omega
    have hN0 : 0 < m1 := by omega
    rw [cdI_dgc (leN_dig x)] at q2
    have HR := Lib.hid (revU q2 hN0 (by omega))
    rw [bI_rev, ← dec_le] at HR
    have k1 := q1.cell 0
    gi_wp2_with (refine ⟨trivial, ?_⟩; gi_at_call 101; refine ((callsIn_wide).2 HR.out).mono ?_; rintro e w5 ⟨rfl, hN5, hb5, hsz5, hst5⟩; have q15 : Own w5 (w.heap.size + 1) 47 #[.slice A1 m1 d1] := hst5 _ _ q1 (fun _ _ e => by cases e); have k5 := q15.cell 0; have hK5 := hst5 _ _ hK (fun _ _ e => by cases e); have hcv := run_str hN5 hN0; replace q7 := hb5 w q7 (Nat.le_refl _))
    refine ⟨by simp, .inl ⟨_, _, rfl, run_takeDeferred hK5, ?_⟩⟩
    refine ⟨.string (str (decL x)), by simp [results, Tryz.results102, go_sem], rfl, ?_⟩
    exact q7.grown (grownBy_putObj' w5 D (.deferred none)) q7.size (fun r e => by cases e; omega)
  case stop => rintro D cd pre W hD hx h; exact h.elim
end Go.Proofs.YtgojnpblhfbdpaaGreatDoor

namespace Go.Proofs.YtgojnpblhfbdpaaGreatDoor
open Go Go.RowKit

theorem neg_val {n x : Nat} (hx : x < 2 ^ n) (h0 : 0 < x) : B.subv n 0 x = 2 ^ n - x := by
  unfold B.subv
  rw [Nat.mod_eq_of_lt hx, Nat.zero_add, Nat.mod_eq_of_lt (by omega)]
theorem ret_s {l m : List UInt8} (h : l = m) : Ending.returned (.string (str l)) = .returned (.string (str m)) := by rw [h]
theorem str_minus (l : List UInt8) : (⟨#[45]⟩ : ByteArray) ++ str l = str (45 :: l) := byt_inj (by
  rw [byt_str]
  unfold byt
  simp [str])
set_option maxRecDepth 100000 in
set_option maxHeartbeats 2000000 in
theorem decimal_raw (A : Option Addr) (n c p : Nat) (l : List Int) (w : World) (h : Rb w A n l) (hn1 : 1 ≤ n) (hn : n ≤ 128) (hp : p = n - 1) (s : Bool) (z : List UInt8) (hz : (if s && (num l).testBit p then 45 :: decL (B.subv n 0 (num l)) else decL (num l)) = z) :
    Calls Tryz.prog 56 #[.agg #[.slice A n c, .bool s]] w fun e w' => e = .returned (.string (str z)) ∧ Below w.heap.size w w' := by
  have hl := h.len
  have hmk := fun W => B.run_makeB n (by omega) W
  have O0 := ((Own.at1 w 26 #[.slice A n c, .bool s] (g := w.heap.size) (by simp)).alloc (.cells (B.ba n 0) 4))
  have O1 := (Own.at1 (w.alloc (.cells #[.slice A n c, .bool s] 26)) 4 (B.ba n 0) (g := w.heap.size + 1) (by simp))
  have BB := (below_new (below_new (Below.refl w.heap.size w) (.cells #[.slice A n c, .bool s] 26)) (.cells (B.ba n 0) 4))
  replace h := Lib.hid h
  replace hz := Lib.hid hz
  go_enter Tryz.func56, Tryz.ntmps56
  go_wp2
  go_loopw [14] (fun i wr => ∃ k : Nat, k ≤ n ∧ i = .int .i64 k ∧ Hid (Own wr (w.heap.size + 1) 4 (B.ba n (num l % 2 ^ k))) ∧ Hid (Below w.heap.size w wr) ∧ Hid (Own wr w.heap.size 26 #[.slice A n c, .bool s])) (fun i _ => n - (intOf i).toNat)
  case atStart => exact ⟨0, Nat.zero_le _, rfl, Lib.hid (by simpa [Nat.mod_one] using O1), Lib.hid BB, Lib.hid O0⟩
  case round =>
    obtain ⟨k, hk9, rfl, Q, HB, HO⟩ := hrel
    clear O0 O1 BB hmk
    by_cases hlt : k < n
    · obtain ⟨b, o, rfl, hb, hc⟩ := (h.out.step HB.out).at_ hlt
      have q0 := (Q.out.cell k).trans (B.ba_get _ _ _ hlt)
      have f0 := Q.out.free k
      have hnext := Lib.hid (num_next hl hlt)
      replace hl := Lib.hid hl
      generalize hy : nth l k = y at hc hnext
      generalize hz : (num l % 2 ^ k).testBit k = z at q0
      clear hy hz
      cases hv : (y == 1)
      all_goals
        rw [hv] at hnext
        go_wp2
        go_roundw
        case rel =>
          refine ⟨k + 1, by omega, by go_num, Lib.hid ?_, Lib.hid (below_set HB.out (by simp) _), Lib.hid (HO.out.far (p := ⟨w.heap.size + 1, k, none⟩) (by simp) _)⟩
          · rw [← hnext.out, ← B.ba_set _ hlt]
            first | exact Q.out.put k _ | (simpa [hv] using Q.out.put k _)
        case measure => simp [intOf]; omega
    · obtain rfl : k = n := by omega
      have Q1 := Q.out
      have hlt2 := num_lt' hl
      rw [Nat.mod_eq_of_lt hlt2] at Q1
      have hN := B.Nw.of_own (w := wr) (B := w.heap.size) Q1 hlt2 (by simp) (by unfold maxLen; omega)
      have c1 := HO.out.cell 1
      subst hp
      have qp := (Q1.cell (k - 1)).trans (B.ba_get _ _ _ (by omega))
      have HU := Lib.hid fun (X : Option Addr) (c : Nat) (y : Nat) (u : World) (hX : B.Rd u X k y) => udec_any X k c y u hX hn1 hn
      have HNg := Lib.hid fun (X : Option Addr) (c : Nat) (y : Nat) (u : World) (hX : B.Rd u X k y) => B.neg_any X k c y u hX (by omega)
      have hsm := str_minus
      replace hlt2 := Lib.hid hlt2
      clear h Q Q1 hl
      cases s
      · go_wp2_with (first | (go_at_call 102; (refine (HU.out _ _ _ _ hN.rd).mono ?_); rintro e w2 ⟨rfl, hb2⟩))
        go_ret
        exact ⟨ret_s (by rw [← hz.out]; rfl), below_step HB.out hb2⟩
      · cases hq : (num l).testBit (k - 1)
        all_goals
          rw [hq] at qp
          replace hq := Lib.hid hq
        · go_wp2_with (first | (go_at_call 102; (refine (HU.out _ _ _ _ hN.rd).mono ?_); rintro e w2 ⟨rfl, hb2⟩))
          go_ret
          exact ⟨ret_s (by rw [← hz.out, hq.out]; rfl), below_step HB.out hb2⟩
        · have hno : ¬ 9223372036854775807 < 1 + (decL (B.subv k 0 (num l))).length := by
            have h1 : B.subv k 0 (num l) < 2 ^ k := Nat.mod_lt _ (Nat.pow_pos (by decide))
            have h2 := leN_len_le h1
            rw [leN_len] at h2
            omega
          go_wp2_with (first
            | (go_at_call 103; (refine (HNg.out _ _ _ _ hN.rd).mono ?_); rintro e w1 ⟨A1, c9, rfl, hN1, hb1⟩)
            | (go_at_call 102; (refine (HU.out _ _ _ _ hN1.rd).mono ?_); rintro e w2 ⟨rfl, hb2⟩))
          go_ret
          exact ⟨ret_s (by rw [← hz.out, hq.out]; rfl), below_step (below_step HB.out hb1) hb2⟩
theorem digD_raw {l : List Int} {n : Nat} (hl : l.length = n) (hk : knL l = true) (s : Bool) : digD ⟨l, s⟩ = if s && (num l).testBit (n - 1) then 45 :: decL (B.subv n 0 (num l)) else decL (num l) := by
  unfold digD digD.neg1
  rw [if_pos hk]
  simp only
  rw [num_bit, hl]
  cases hq : (s && (nth l (n - 1) == 1))
  · rfl
  · simp only [if_true]
    have h0 : 0 < num l := by
      rcases Nat.eq_zero_or_pos (num l) with e | e
      · exfalso
        have e2 := num_bit l (n - 1)
        rw [e, Nat.zero_testBit] at e2
        rw [← e2] at hq
        simp at hq
      · exact e
    rw [neg_val (num_lt' hl) h0]
theorem decimal_any (A : Option Addr) (n c : Nat) (l : List Int) (w : World) (h : Rb w A n l) (hn1 : 1 ≤ n) (hn : n ≤ 128) (hk : knL l = true) (s : Bool) :
    Calls Tryz.prog 56 #[.agg #[.slice A n c, .bool s]] w fun e w' => e = .returned (.string (str (digD ⟨l, s⟩))) ∧ Below w.heap.size w w' := by
  rw [digD_raw h.len hk]
  exact decimal_raw A n c _ l w h hn1 hn rfl s _ rfl
end Go.Proofs.YtgojnpblhfbdpaaGreatDoor

namespace Go.Proofs.YtgojnpblhfbdpaaGreatDoor
open Go Go.RowKit

theorem grp_bsz (c : UInt8) : grpC (c.toNat : Int) = (bszC c).map fun b => (b, limB b) := by
  have h : ∀ x : Fin 256, grpC ((UInt8.ofNat x.val).toNat : Int) = (bszC (UInt8.ofNat x.val)).map fun b => (b, limB b) := by decide +kernel
  have := h ⟨c.toNat, UInt8.toNat_lt c⟩
  simpa using this
theorem bits4_ok {l : List Int} (hn : nnL l) (hok : okB l = true) : bits4 l := fun i hi => by
  have e : nth l i = l[i] := by simp [nth, List.getD_eq_getElem?_getD, hi]
  rw [e]
  refine ⟨hn _ (List.getElem_mem hi), ?_⟩
  unfold okB at hok
  simp only [Bool.and_eq_true, Bool.not_eq_true'] at hok
  have := List.any_eq_false.1 hok.2 _ (List.getElem_mem hi)
  unfold badB validB at this
  simp at this
  omega
theorem kn_eq {l : List Int} {s : Bool} (hok : okB l = true) : kn ⟨l, s⟩ = knL l := by
  unfold kn
  rw [nrm_of (v := ⟨l, s⟩) hok]
theorem digL_one {l : List Int} (h1 : 1 ≤ l.length) : digL l.length l = [grp l] := by
  unfold digL grps
  have e : (l.length + l.length - 1) / l.length = 1 := by
    rw [Nat.div_eq_iff (by omega)]
    omega
  rw [e]
  simp
theorem okB_chunk {l : List Int} {k j : Nat} (hok : okB l = true) (hk : 1 ≤ k) (hj : j < ckN l.length k) : okB (chk1 l k j) = true := by
  have hlt := (ck_lt hk).1 hj
  have hlen := chk1_len l k j
  unfold ckL at hlen
  unfold okB at hok ⊢
  simp only [Bool.and_eq_true, Bool.not_eq_true', decide_eq_true_eq] at hok ⊢
  refine ⟨⟨by omega, by omega⟩, ?_⟩
  rw [List.any_eq_false]
  intro x hx
  exact List.any_eq_false.1 hok.2 x (List.mem_of_mem_drop (List.mem_of_mem_take hx))
/-- The characters of a valid vector's groups. -/
theorem groups_ok (A : Option Addr) (n c k : Nat) (l : List Int) (w : World) (E : Env w) (h : Rb w A n l) (hok : okB l = true) (hk : 1 ≤ k) (hk9 : k ≤ 128) (hc : n ≤ c) (hs : k ≤ 4 ∨ (k = n ∧ knL l = false)) :
    Calls Tryz.prog 55 #[.slice A n c, .int .i64 k] w fun e w' => e = .returned (.string (str (digL k l))) ∧ Below w.heap.size w w' := by
  have hl := h.len
  have hol := ok_len hok
  obtain ⟨b, o, rfl, _, _⟩ := h.2.2 (by omega)
  refine groups_any b o n c k l w h (by omega) (by omega) hc hk hk9 fun x u hx hu => ?_
  have hx' : x < ckN l.length k := by rw [hl]; exact hx
  have hr := (h.step hu).chunk hk hx
  have ho := okB_chunk hok hk hx'
  refine char_any _ _ _ _ u (E.step hu) hr ho (bits4_ok hr.2.1 ho) fun hkn => ?_
  rcases hs with h4 | ⟨rfl, hn⟩
  · unfold ckL; omega
  · exfalso
    have hlt := (ck_lt hk).1 hx
    have e0 : x = 0 := by
      rcases Nat.eq_zero_or_pos x with e | e
      · exact e
      · have : k * 1 ≤ k * x := Nat.mul_le_mul_left k e
        rw [Nat.mul_comm x k] at hlt
        omega
    subst e0
    have e : chk1 l k 0 = l := by unfold chk1; rw [Nat.zero_mul, List.drop_zero, List.take_of_length_le (by omega)]
    rw [e, hn] at hkn
    cases hkn
/-- What a call leaves that returns a text and an error. -/
def RetS (w : World) (p : List UInt8 × Int) (e : Ending) (w' : World) : Prop := e = .returned (.tuple #[.string (str p.1), .int .i64 p.2]) ∧ Below w.heap.size w w'
set_option maxRecDepth 100000 in
set_option maxHeartbeats 2000000 in
theorem dig_err (A : Option Addr) (n c : Nat) (s : Bool) (l : List Int) (base : Int) (w : World) (h : Rb w A n l) (he : chk l ≠ 0) : Calls Tryz.prog 22 #[.agg #[.slice A n c, .bool s], .int .u8 base] w (RetS w ([], chk l)) := by
  have O0 := (Own.at1 w 26 #[.slice A n c, .bool s] (g := w.heap.size) (by simp))
  have BB := (below_new (Below.refl w.heap.size w) (.cells #[.slice A n c, .bool s] 26))
  have q0 := O0.cell 0; have q1 := O0.cell 1
  have HC := Lib.hid (check_any A n c s l _ (h.step BB))
  have he1 : (chk l == 0) = false := by simpa using he
  have he2 : (chk l != 0) = true := by unfold bne; rw [he1]; rfl
  clear he h
  generalize chk l = er at *
  go_enter Tryz.func22, Tryz.ntmps22
  go_wp2_with (first | (go_at_call 30; (with_reducible refine HC.out.mono ?_); rintro e w1 ⟨rfl, hb⟩; replace BB := below_step BB hb; replace O0 := O0.step hb; have q0 := O0.cell 0; have q1 := O0.cell 1))
  go_ret2
  exact ⟨rfl, BB⟩
set_option maxRecDepth 100000 in
set_option maxHeartbeats 2000000 in
theorem dig_kind (A : Option Addr) (n c : Nat) (s : Bool) (l : List Int) (base : Int) (w : World) (h : Rb w A n l) (he : chk l = 0) (hg : grpC base = none) : Calls Tryz.prog 22 #[.agg #[.slice A n c, .bool s], .int .u8 base] w (RetS w ([], 11)) := by
  have O0 := (Own.at1 w 26 #[.slice A n c, .bool s] (g := w.heap.size) (by simp))
  have BB := (below_new (Below.refl w.heap.size w) (.cells #[.slice A n c, .bool s] 26))
  have q0 := O0.cell 0; have q1 := O0.cell 1
  have HC := Lib.hid (check_any A n c s l _ (h.step BB))
  rw [he] at HC
  have HR := Lib.hid fun (u : World) => radixOf_none hg u
  clear he h hg
  go_enter Tryz.func22, Tryz.ntmps22
  go_wp2_with (first | (go_at_call 30; (with_reducible refine HC.out.mono ?_); rintro e w1 ⟨rfl, hb⟩; replace BB := below_step BB hb; replace O0 := O0.step hb; have q0 := O0.cell 0; have q1 := O0.cell 1) | (go_at_call 54; (with_reducible refine (HR.out _).mono ?_); rintro e w2 ⟨rfl, hb⟩; replace BB := below_step BB hb; replace O0 := O0.step hb))
  go_ret2
  exact ⟨rfl, below_new BB _⟩
set_option maxRecDepth 100000 in
set_option maxHeartbeats 2000000 in
theorem dig_grp (A : Option Addr) (n c : Nat) (s : Bool) (l : List Int) (base : Int) (w : World) (E : Env w) (h : Rb w A n l) (he : chk l = 0) (hc : n ≤ c) (g b : Nat) (hg : grpC base = some (g, b)) (hg1 : 1 ≤ g) (hg4 : g ≤ 4) : Calls Tryz.prog 22 #[.agg #[.slice A n c, .bool s], .int .u8 base] w (RetS w (digL g l, 0)) := by
  have O0 := (Own.at1 w 26 #[.slice A n c, .bool s] (g := w.heap.size) (by simp))
  have BB := (below_new (Below.refl w.heap.size w) (.cells #[.slice A n c, .bool s] 26))
  have q0 := O0.cell 0; have q1 := O0.cell 1
  have HC := Lib.hid (check_any A n c s l _ (h.step BB))
  have hok := (chk_ok l).1 he
  rw [he] at HC
  have HR := Lib.hid fun (u : World) => radixOf_some hg u
  have HG := Lib.hid fun (u : World) (hu : Below w.heap.size w u) => groups_ok A n c g l u (E.step hu) (h.step hu) hok hg1 (by omega) hc (.inl hg4)
  have i1 : (0 : Int) < g := by omega
  clear he h hg hok E
  generalize digL g l = z at *
  go_enter Tryz.func22, Tryz.ntmps22
  go_wp2_with (first | (go_at_call 30; (with_reducible refine HC.out.mono ?_); rintro e w1 ⟨rfl, hb⟩; replace BB := below_step BB hb; replace O0 := O0.step hb; have q0 := O0.cell 0; have q1 := O0.cell 1) | (go_at_call 54; (with_reducible refine (HR.out _).mono ?_); rintro e w2 ⟨b2, rfl, hcb, hb⟩; have ON := Own.new w2 81 #[.int .i64 (g : Int), .func (.func 136) #[] #[.pointer (some ⟨b2, 0, none⟩)]]; replace BB := below_new (below_step BB hb) (.cells #[.int .i64 (g : Int), .func (.func 136) #[] #[.pointer (some ⟨b2, 0, none⟩)]] 81); replace O0 := (O0.step hb).alloc (.cells #[.int .i64 (g : Int), .func (.func 136) #[] #[.pointer (some ⟨b2, 0, none⟩)]] 81); have n0 := ON.cell 0; have r0 := O0.cell 0; have r1 := O0.cell 1) | (go_at_call 55; (with_reducible refine (HG.out _ BB).mono ?_); rintro e w3 ⟨rfl, hb⟩; replace BB := below_step BB hb))
  go_ret2
  exact ⟨rfl, BB⟩
set_option maxRecDepth 100000 in
set_option maxHeartbeats 2000000 in
theorem dig_dec (A : Option Addr) (n c : Nat) (s : Bool) (l : List Int) (base : Int) (w : World) (h : Rb w A n l) (he : chk l = 0) (b : Nat) (hg : grpC base = some (0, b)) (hk : knL l = true) : Calls Tryz.prog 22 #[.agg #[.slice A n c, .bool s], .int .u8 base] w (RetS w (digD ⟨l, s⟩, 0)) := by
  have O0 := (Own.at1 w 26 #[.slice A n c, .bool s] (g := w.heap.size) (by simp))
  have BB := (below_new (Below.refl w.heap.size w) (.cells #[.slice A n c, .bool s] 26))
  have q0 := O0.cell 0; have q1 := O0.cell 1
  have HC := Lib.hid (check_any A n c s l _ (h.step BB))
  have hok := (chk_ok l).1 he
  have hol := ok_len hok
  have hl := h.len
  rw [he] at HC
  have HR := Lib.hid fun (u : World) => radixOf_some hg u
  have HK := Lib.hid fun (u : World) (hu : Below w.heap.size w u) => known_v A n c s l u (h.step hu)
  rw [kn_eq hok, hk] at HK
  have HD := Lib.hid fun (u : World) (hu : Below w.heap.size w u) => decimal_any A n c l u (h.step hu) (by omega) (by omega) hk s
  clear he h hg hok hk hl hol
  generalize digD ⟨l, s⟩ = z at *
  go_enter Tryz.func22, Tryz.ntmps22
  go_wp2_with (first | (go_at_call 30; (with_reducible refine HC.out.mono ?_); rintro e w1 ⟨rfl, hb⟩; replace BB := below_step BB hb; replace O0 := O0.step hb; have q0 := O0.cell 0; have q1 := O0.cell 1) | (go_at_call 54; (with_reducible refine (HR.out _).mono ?_); rintro e w2 ⟨b2, rfl, hcb, hb⟩; have ON := Own.new w2 81 #[.int .i64 (0 : Int), .func (.func 136) #[] #[.pointer (some ⟨b2, 0, none⟩)]]; replace BB := below_new (below_step BB hb) (.cells #[.int .i64 (0 : Int), .func (.func 136) #[] #[.pointer (some ⟨b2, 0, none⟩)]] 81); replace O0 := (O0.step hb).alloc (.cells #[.int .i64 (0 : Int), .func (.func 136) #[] #[.pointer (some ⟨b2, 0, none⟩)]] 81); have n0 := ON.cell 0; have r0 := O0.cell 0; have r1 := O0.cell 1) | (go_at_call 31; (with_reducible refine (HK.out _ BB).mono ?_); rintro e w4 ⟨rfl, hb⟩; replace BB := below_step BB hb; replace O0 := O0.step hb; have t0 := O0.cell 0; have t1 := O0.cell 1) | (go_at_call 56; (with_reducible refine (HD.out _ BB).mono ?_); rintro e w5 ⟨rfl, hb⟩; replace BB := below_step BB hb))
  go_ret2
  exact ⟨rfl, BB⟩
set_option maxRecDepth 100000 in
set_option maxHeartbeats 2000000 in
theorem dig_unk (A : Option Addr) (n c : Nat) (s : Bool) (l : List Int) (base : Int) (w : World) (E : Env w) (h : Rb w A n l) (he : chk l = 0) (hc : n ≤ c) (b : Nat) (hg : grpC base = some (0, b)) (hk : knL l = false) : Calls Tryz.prog 22 #[.agg #[.slice A n c, .bool s], .int .u8 base] w (RetS w ([grp l], 0)) := by
  have O0 := (Own.at1 w 26 #[.slice A n c, .bool s] (g := w.heap.size) (by simp))
  have BB := (below_new (Below.refl w.heap.size w) (.cells #[.slice A n c, .bool s] 26))
  have q0 := O0.cell 0; have q1 := O0.cell 1
  have HC := Lib.hid (check_any A n c s l _ (h.step BB))
  have hok := (chk_ok l).1 he
  have hol := ok_len hok
  have hl := h.len
  rw [he] at HC
  have HR := Lib.hid fun (u : World) => radixOf_some hg u
  have HK := Lib.hid fun (u : World) (hu : Below w.heap.size w u) => known_v A n c s l u (h.step hu)
  rw [kn_eq hok, hk] at HK
  have HG := Lib.hid fun (u : World) (hu : Below w.heap.size w u) => groups_ok A n c n l u (E.step hu) (h.step hu) hok (by omega) (by omega) hc (.inr ⟨rfl, hk⟩)
  rw [show digL n l = [grp l] by rw [← hl]; exact digL_one (by omega)] at HG
  clear he h hg hok E hk hl hol
  generalize [grp l] = z at *
  go_enter Tryz.func22, Tryz.ntmps22
  go_wp2_with (first | (go_at_call 30; (with_reducible refine HC.out.mono ?_); rintro e w1 ⟨rfl, hb⟩; replace BB := below_step BB hb; replace O0 := O0.step hb; have q0 := O0.cell 0; have q1 := O0.cell 1) | (go_at_call 54; (with_reducible refine (HR.out _).mono ?_); rintro e w2 ⟨b2, rfl, hcb, hb⟩; have ON := Own.new w2 81 #[.int .i64 (0 : Int), .func (.func 136) #[] #[.pointer (some ⟨b2, 0, none⟩)]]; replace BB := below_new (below_step BB hb) (.cells #[.int .i64 (0 : Int), .func (.func 136) #[] #[.pointer (some ⟨b2, 0, none⟩)]] 81); replace O0 := (O0.step hb).alloc (.cells #[.int .i64 (0 : Int), .func (.func 136) #[] #[.pointer (some ⟨b2, 0, none⟩)]] 81); have n0 := ON.cell 0; have r0 := O0.cell 0; have r1 := O0.cell 1) | (go_at_call 31; (with_reducible refine (HK.out _ BB).mono ?_); rintro e w4 ⟨rfl, hb⟩; replace BB := below_step BB hb; replace O0 := O0.step hb; have t0 := O0.cell 0; have t1 := O0.cell 1) | (go_at_call 55; (with_reducible refine (HG.out _ BB).mono ?_); rintro e w3 ⟨rfl, hb⟩; replace BB := below_step BB hb))
  go_ret2
  exact ⟨rfl, BB⟩
theorem digits_any (A : Option Addr) (n c : Nat) (s : Bool) (l : List Int) (base : UInt8) (w : World) (E : Env w) (h : Rb w A n l) (hc : n ≤ c) :
    Calls Tryz.prog 22 #[.agg #[.slice A n c, .bool s], .int .u8 (base.toNat : Int)] w (RetS w (digV ⟨l, s⟩ base)) := by
  unfold digV
  by_cases he : chk l = 0
  · rw [if_pos he]
    have hb := grp_bsz base
    cases hz : bszC base with
    | none =>
      rw [hz] at hb
      exact dig_kind A n c s l _ w h he hb
    | some bits =>
      rw [hz] at hb
      simp only
      have h4 := bits_of hz
      unfold digB
      by_cases h0 : bits = 0
      · subst h0
        rw [if_pos rfl]
        cases hk : knL l
        · have e : digD ⟨l, s⟩ = [grp l] := by unfold digD; simp only; rw [if_neg (by simp [hk])]
          rw [e]
          exact dig_unk A n c s l _ w E h he hc _ hb hk
        · exact dig_dec A n c s l _ w h he _ hb hk
      · rw [if_neg h0]
        exact dig_grp A n c s l _ w E h he hc bits _ hb (by omega) h4
  · rw [if_neg he]
    exact dig_err A n c s l _ w h he
end Go.Proofs.YtgojnpblhfbdpaaGreatDoor

namespace Go.Proofs.YtgojnpblhfbdpaaGreatDoor
open Go Go.RowKit

set_option maxRecDepth 100000 in
set_option maxHeartbeats 2000000 in
theorem fmt_err (A : Option Addr) (n c : Nat) (s : Bool) (base er : Int) (d : List UInt8) (w : World) (HD9 : ∀ u, Below w.heap.size w u → Calls Tryz.prog 22 #[.agg #[.slice A n c, .bool s], .int .u8 base] u (RetS u (d, er))) (he : er ≠ 0) : Calls Tryz.prog 20 #[.agg #[.slice A n c, .bool s], .int .u8 base] w (RetS w ([], er)) := by
  have O0 := (Own.at1 w 26 #[.slice A n c, .bool s] (g := w.heap.size) (by simp))
  have BB := (below_new (Below.refl w.heap.size w) (.cells #[.slice A n c, .bool s] 26))
  have q0 := O0.cell 0; have q1 := O0.cell 1
  have HD := Lib.hid HD9
  have he1 : (er == 0) = false := by simpa using he
  have he2 : (er != 0) = true := by unfold bne; rw [he1]; rfl
  clear he HD9
  go_enter Tryz.func20, Tryz.ntmps20
  go_wp2_with (first | (go_at_call 22; (with_reducible refine (HD.out _ BB).mono ?_); rintro e w1 ⟨rfl, hb⟩; replace BB := below_step BB hb; replace O0 := O0.step hb; have t0 := O0.cell 0; have t1 := O0.cell 1))
  go_ret2
  exact ⟨rfl, BB⟩
theorem ret2_s {l m : List UInt8} {x y : Int} (h : l = m) (h2 : x = y) : Ending.returned (.tuple #[.string (str l), .int .i64 x]) = .returned (.tuple #[.string (str m), .int .i64 y]) := by rw [h, h2]
set_option maxRecDepth 100000 in
set_option maxHeartbeats 2000000 in
theorem fmt_98u (A : Option Addr) (n c : Nat) (w : World) (d p1 p2 p3 z : List UInt8) (y : V) (nn er : Int) (q : Bool) (HD9 : ∀ u, Below w.heap.size w u → Calls Tryz.prog 22 #[.agg #[.slice A n c, .bool false], .int .u8 98] u (RetS u (d, 0)))
    (HI9 : ∀ u, Below w.heap.size w u → Calls Tryz.prog 50 #[.int .i64 (n : Int)] u fun e w' => e = .returned (.string (str p1)) ∧ Below u.heap.size u w') (hA : str p1 ++ (⟨#[39]⟩ : ByteArray) = str p2) (hB : str p2 ++ (⟨#[98]⟩ : ByteArray) = str p3) (hC : str p3 ++ str d = str z)
    (h1 : p1.length + 1 ≤ 1000) (h2 : p2.length + 1 ≤ 1000) (h3 : p3.length + d.length ≤ 1000)
    (HP9 : ∀ u, Below w.heap.size w u → Calls Tryz.prog 15 #[.string (str z), .int .i64 0] u (RetT u y nn er))
    (HS9 : ∀ A3 k3 c3 u, Below w.heap.size w u → Rb u A3 k3 y.l → k3 ≤ 1000 → Calls Tryz.prog 51 #[.agg #[.slice A3 k3 c3, .bool y.s], .agg #[.slice A n c, .bool false]] u fun e w' => e = .returned (.bool q) ∧ Below u.heap.size u w') (r : List UInt8 × Int) (hr : (if er = 0 ∧ q = true then (z, 0) else ([], 8)) = r) :
    Calls Tryz.prog 20 #[.agg #[.slice A n c, .bool false], .int .u8 98] w (RetS w r) := by
  have O0 := (Own.at1 w 26 #[.slice A n c, .bool false] (g := w.heap.size) (by simp))
  have BB := (below_new (Below.refl w.heap.size w) (.cells #[.slice A n c, .bool false] 26))
  have q0 := O0.cell 0; have q1 := O0.cell 1
  have HD := Lib.hid HD9
  have HI := Lib.hid HI9
  have HP := Lib.hid HP9
  have HS := Lib.hid HS9
  have k1 : ¬ 9223372036854775807 < p1.length + 1 := by omega
  have k2 : ¬ 9223372036854775807 < p2.length + 1 := by omega
  have k3 : ¬ 9223372036854775807 < p3.length + d.length := by omega
  have hU : Utf8.encode 98 = (⟨#[98]⟩ : ByteArray) := by kernel_rfl
  have hS1 := True.intro
  replace h1 := Lib.hid h1
  replace h2 := Lib.hid h2
  replace h3 := Lib.hid h3
  clear HD9 HI9 HP9 HS9
  cases he : er == 0
  · have he2 : (er != 0) = true := by unfold bne; rw [he]; rfl
    have hr2 : r = ([], 8) := by rw [← hr, if_neg (fun h => by rw [h.1] at he; cases he)]
    rw [hr2]
    clear hr hr2
    go_enter Tryz.func20, Tryz.ntmps20
    go_wp2_with (first | (go_at_call 22; (with_reducible refine (HD.out _ BB).mono ?_); rintro e w1 ⟨rfl, hb⟩; replace BB := below_step BB hb; replace O0 := O0.step hb; have t0 := O0.cell 0; have t1 := O0.cell 1) | (go_at_call 50; (with_reducible refine (HI.out _ BB).mono ?_); rintro e w2 ⟨rfl, hb⟩; replace BB := below_step BB hb; replace O0 := O0.step hb; have u0 := O0.cell 0; have u1 := O0.cell 1) | (go_at_call 15; (with_reducible refine (HP.out _ BB).mono ?_); rintro e w3 ⟨A3, k3, c3, rfl, hc3, hk3, hN3, hb⟩; have hr3 := hN3.rd; replace BB := below_step BB hb; replace O0 := O0.step hb; have ON := Own.new w3 26 #[.slice A3 k3 c3, .bool y.s]; replace BB := below_new BB (.cells #[.slice A3 k3 c3, .bool y.s] 26); replace O0 := O0.alloc (.cells #[.slice A3 k3 c3, .bool y.s] 26); replace hr3 := hr3.alloc (.cells #[.slice A3 k3 c3, .bool y.s] 26); have n0 := ON.cell 0; have n1 := ON.cell 1; have v0 := O0.cell 0; have v1 := O0.cell 1) | (go_at_call 51; (with_reducible refine (HS.out _ _ _ _ BB hr3 hk3).mono ?_); rintro e w4 ⟨rfl, hb⟩; replace BB := below_step BB hb))
    go_ret2
    exact ⟨rfl, BB⟩
  · obtain rfl : er = 0 := by simpa using he
    clear he
    cases q
    · have hr2 : r = ([], 8) := by rw [← hr, if_neg (fun h => by cases h.2)]
      rw [hr2]
      clear hr hr2
      go_enter Tryz.func20, Tryz.ntmps20
      go_wp2_with (first | (go_at_call 22; (with_reducible refine (HD.out _ BB).mono ?_); rintro e w1 ⟨rfl, hb⟩; replace BB := below_step BB hb; replace O0 := O0.step hb; have t0 := O0.cell 0; have t1 := O0.cell 1) | (go_at_call 50; (with_reducible refine (HI.out _ BB).mono ?_); rintro e w2 ⟨rfl, hb⟩; replace BB := below_step BB hb; replace O0 := O0.step hb; have u0 := O0.cell 0; have u1 := O0.cell 1) | (go_at_call 15; (with_reducible refine (HP.out _ BB).mono ?_); rintro e w3 ⟨A3, k3, c3, rfl, hc3, hk3, hN3, hb⟩; have hr3 := hN3.rd; replace BB := below_step BB hb; replace O0 := O0.step hb; have ON := Own.new w3 26 #[.slice A3 k3 c3, .bool y.s]; replace BB := below_new BB (.cells #[.slice A3 k3 c3, .bool y.s] 26); replace O0 := O0.alloc (.cells #[.slice A3 k3 c3, .bool y.s] 26); replace hr3 := hr3.alloc (.cells #[.slice A3 k3 c3, .bool y.s] 26); have n0 := ON.cell 0; have n1 := ON.cell 1; have v0 := O0.cell 0; have v1 := O0.cell 1) | (go_at_call 51; (with_reducible refine (HS.out _ _ _ _ BB hr3 hk3).mono ?_); rintro e w4 ⟨rfl, hb⟩; replace BB := below_step BB hb))
      go_ret2
      exact ⟨rfl, BB⟩
    · have hr2 : r = (z, 0) := by rw [← hr, if_pos ⟨rfl, rfl⟩]
      rw [hr2]
      clear hr hr2
      go_enter Tryz.func20, Tryz.ntmps20
      go_wp2_with (first | (go_at_call 22; (with_reducible refine (HD.out _ BB).mono ?_); rintro e w1 ⟨rfl, hb⟩; replace BB := below_step BB hb; replace O0 := O0.step hb; have t0 := O0.cell 0; have t1 := O0.cell 1) | (go_at_call 50; (with_reducible refine (HI.out _ BB).mono ?_); rintro e w2 ⟨rfl, hb⟩; replace BB := below_step BB hb; replace O0 := O0.step hb; have u0 := O0.cell 0; have u1 := O0.cell 1) | (go_at_call 15; (with_reducible refine (HP.out _ BB).mono ?_); rintro e w3 ⟨A3, k3, c3, rfl, hc3, hk3, hN3, hb⟩; have hr3 := hN3.rd; replace BB := below_step BB hb; replace O0 := O0.step hb; have ON := Own.new w3 26 #[.slice A3 k3 c3, .bool y.s]; replace BB := below_new BB (.cells #[.slice A3 k3 c3, .bool y.s] 26); replace O0 := O0.alloc (.cells #[.slice A3 k3 c3, .bool y.s] 26); replace hr3 := hr3.alloc (.cells #[.slice A3 k3 c3, .bool y.s] 26); have n0 := ON.cell 0; have n1 := ON.cell 1; have v0 := O0.cell 0; have v1 := O0.cell 1) | (go_at_call 51; (with_reducible refine (HS.out _ _ _ _ BB hr3 hk3).mono ?_); rintro e w4 ⟨rfl, hb⟩; replace BB := below_step BB hb))
      go_ret2
      exact ⟨rfl, BB⟩
set_option maxRecDepth 100000 in
set_option maxHeartbeats 2000000 in
theorem fmt_98s (A : Option Addr) (n c : Nat) (w : World) (d p1 p2 p3 z : List UInt8) (y : V) (nn er : Int) (q : Bool) (HD9 : ∀ u, Below w.heap.size w u → Calls Tryz.prog 22 #[.agg #[.slice A n c, .bool true], .int .u8 98] u (RetS u (d, 0)))
    (HI9 : ∀ u, Below w.heap.size w u → Calls Tryz.prog 50 #[.int .i64 (n : Int)] u fun e w' => e = .returned (.string (str p1)) ∧ Below u.heap.size u w') (hA : str p1 ++ (⟨#[39]⟩ : ByteArray) = str p2) (hB : str p2 ++ (⟨#[115, 98]⟩ : ByteArray) = str p3) (hC : str p3 ++ str d = str z)
    (h1 : p1.length + 1 ≤ 1000) (h2 : p2.length + 2 ≤ 1000) (h3 : p3.length + d.length ≤ 1000)
    (HP9 : ∀ u, Below w.heap.size w u → Calls Tryz.prog 15 #[.string (str z), .int .i64 0] u (RetT u y nn er))
    (HS9 : ∀ A3 k3 c3 u, Below w.heap.size w u → Rb u A3 k3 y.l → k3 ≤ 1000 → Calls Tryz.prog 51 #[.agg #[.slice A3 k3 c3, .bool y.s], .agg #[.slice A n c, .bool true]] u fun e w' => e = .returned (.bool q) ∧ Below u.heap.size u w') (r : List UInt8 × Int) (hr : (if er = 0 ∧ q = true then (z, 0) else ([], 8)) = r) :
    Calls Tryz.prog 20 #[.agg #[.slice A n c, .bool true], .int .u8 98] w (RetS w r) := by
  have O0 := (Own.at1 w 26 #[.slice A n c, .bool true] (g := w.heap.size) (by simp))
  have BB := (below_new (Below.refl w.heap.size w) (.cells #[.slice A n c, .bool true] 26))
  have q0 := O0.cell 0; have q1 := O0.cell 1
  have HD := Lib.hid HD9
  have HI := Lib.hid HI9
  have HP := Lib.hid HP9
  have HS := Lib.hid HS9
  have k1 : ¬ 9223372036854775807 < p1.length + 1 := by omega
  have k2 : ¬ 9223372036854775807 < p2.length + 2 := by omega
  have k3 : ¬ 9223372036854775807 < p3.length + d.length := by omega
  have hU : Utf8.encode 98 = (⟨#[98]⟩ : ByteArray) := by kernel_rfl
  have hS1 : (⟨#[115]⟩ : ByteArray) ++ (⟨#[98]⟩ : ByteArray) = (⟨#[115, 98]⟩ : ByteArray) := by kernel_rfl
  replace h1 := Lib.hid h1
  replace h2 := Lib.hid h2
  replace h3 := Lib.hid h3
  clear HD9 HI9 HP9 HS9
  cases he : er == 0
  · have he2 : (er != 0) = true := by unfold bne; rw [he]; rfl
    have hr2 : r = ([], 8) := by rw [← hr, if_neg (fun h => by rw [h.1] at he; cases he)]
    rw [hr2]
    clear hr hr2
    go_enter Tryz.func20, Tryz.ntmps20
    go_wp2_with (first | (go_at_call 22; (with_reducible refine (HD.out _ BB).mono ?_); rintro e w1 ⟨rfl, hb⟩; replace BB := below_step BB hb; replace O0 := O0.step hb; have t0 := O0.cell 0; have t1 := O0.cell 1) | (go_at_call 50; (with_reducible refine (HI.out _ BB).mono ?_); rintro e w2 ⟨rfl, hb⟩; replace BB := below_step BB hb; replace O0 := O0.step hb; have u0 := O0.cell 0; have u1 := O0.cell 1) | (go_at_call 15; (with_reducible refine (HP.out _ BB).mono ?_); rintro e w3 ⟨A3, k3, c3, rfl, hc3, hk3, hN3, hb⟩; have hr3 := hN3.rd; replace BB := below_step BB hb; replace O0 := O0.step hb; have ON := Own.new w3 26 #[.slice A3 k3 c3, .bool y.s]; replace BB := below_new BB (.cells #[.slice A3 k3 c3, .bool y.s] 26); replace O0 := O0.alloc (.cells #[.slice A3 k3 c3, .bool y.s] 26); replace hr3 := hr3.alloc (.cells #[.slice A3 k3 c3, .bool y.s] 26); have n0 := ON.cell 0; have n1 := ON.cell 1; have v0 := O0.cell 0; have v1 := O0.cell 1) | (go_at_call 51; (with_reducible refine (HS.out _ _ _ _ BB hr3 hk3).mono ?_); rintro e w4 ⟨rfl, hb⟩; replace BB := below_step BB hb))
    go_ret2
    exact ⟨rfl, BB⟩
  · obtain rfl : er = 0 := by simpa using he
    clear he
    cases q
    · have hr2 : r = ([], 8) := by rw [← hr, if_neg (fun h => by cases h.2)]
      rw [hr2]
      clear hr hr2
      go_enter Tryz.func20, Tryz.ntmps20
      go_wp2_with (first | (go_at_call 22; (with_reducible refine (HD.out _ BB).mono ?_); rintro e w1 ⟨rfl, hb⟩; replace BB := below_step BB hb; replace O0 := O0.step hb; have t0 := O0.cell 0; have t1 := O0.cell 1) | (go_at_call 50; (with_reducible refine (HI.out _ BB).mono ?_); rintro e w2 ⟨rfl, hb⟩; replace BB := below_step BB hb; replace O0 := O0.step hb; have u0 := O0.cell 0; have u1 := O0.cell 1) | (go_at_call 15; (with_reducible refine (HP.out _ BB).mono ?_); rintro e w3 ⟨A3, k3, c3, rfl, hc3, hk3, hN3, hb⟩; have hr3 := hN3.rd; replace BB := below_step BB hb; replace O0 := O0.step hb; have ON := Own.new w3 26 #[.slice A3 k3 c3, .bool y.s]; replace BB := below_new BB (.cells #[.slice A3 k3 c3, .bool y.s] 26); replace O0 := O0.alloc (.cells #[.slice A3 k3 c3, .bool y.s] 26); replace hr3 := hr3.alloc (.cells #[.slice A3 k3 c3, .bool y.s] 26); have n0 := ON.cell 0; have n1 := ON.cell 1; have v0 := O0.cell 0; have v1 := O0.cell 1) | (go_at_call 51; (with_reducible refine (HS.out _ _ _ _ BB hr3 hk3).mono ?_); rintro e w4 ⟨rfl, hb⟩; replace BB := below_step BB hb))
      go_ret2
      exact ⟨rfl, BB⟩
    · have hr2 : r = (z, 0) := by rw [← hr, if_pos ⟨rfl, rfl⟩]
      rw [hr2]
      clear hr hr2
      go_enter Tryz.func20, Tryz.ntmps20
      go_wp2_with (first | (go_at_call 22; (with_reducible refine (HD.out _ BB).mono ?_); rintro e w1 ⟨rfl, hb⟩; replace BB := below_step BB hb; replace O0 := O0.step hb; have t0 := O0.cell 0; have t1 := O0.cell 1) | (go_at_call 50; (with_reducible refine (HI.out _ BB).mono ?_); rintro e w2 ⟨rfl, hb⟩; replace BB := below_step BB hb; replace O0 := O0.step hb; have u0 := O0.cell 0; have u1 := O0.cell 1) | (go_at_call 15; (with_reducible refine (HP.out _ BB).mono ?_); rintro e w3 ⟨A3, k3, c3, rfl, hc3, hk3, hN3, hb⟩; have hr3 := hN3.rd; replace BB := below_step BB hb; replace O0 := O0.step hb; have ON := Own.new w3 26 #[.slice A3 k3 c3, .bool y.s]; replace BB := below_new BB (.cells #[.slice A3 k3 c3, .bool y.s] 26); replace O0 := O0.alloc (.cells #[.slice A3 k3 c3, .bool y.s] 26); replace hr3 := hr3.alloc (.cells #[.slice A3 k3 c3, .bool y.s] 26); have n0 := ON.cell 0; have n1 := ON.cell 1; have v0 := O0.cell 0; have v1 := O0.cell 1) | (go_at_call 51; (with_reducible refine (HS.out _ _ _ _ BB hr3 hk3).mono ?_); rintro e w4 ⟨rfl, hb⟩; replace BB := below_step BB hb))
      go_ret2
      exact ⟨rfl, BB⟩
set_option maxRecDepth 100000 in
set_option maxHeartbeats 2000000 in
theorem fmt_111u (A : Option Addr) (n c : Nat) (w : World) (d p1 p2 p3 z : List UInt8) (y : V) (nn er : Int) (q : Bool) (HD9 : ∀ u, Below w.heap.size w u → Calls Tryz.prog 22 #[.agg #[.slice A n c, .bool false], .int .u8 111] u (RetS u (d, 0)))
    (HI9 : ∀ u, Below w.heap.size w u → Calls Tryz.prog 50 #[.int .i64 (n : Int)] u fun e w' => e = .returned (.string (str p1)) ∧ Below u.heap.size u w') (hA : str p1 ++ (⟨#[39]⟩ : ByteArray) = str p2) (hB : str p2 ++ (⟨#[111]⟩ : ByteArray) = str p3) (hC : str p3 ++ str d = str z)
    (h1 : p1.length + 1 ≤ 1000) (h2 : p2.length + 1 ≤ 1000) (h3 : p3.length + d.length ≤ 1000)
    (HP9 : ∀ u, Below w.heap.size w u → Calls Tryz.prog 15 #[.string (str z), .int .i64 0] u (RetT u y nn er))
    (HS9 : ∀ A3 k3 c3 u, Below w.heap.size w u → Rb u A3 k3 y.l → k3 ≤ 1000 → Calls Tryz.prog 51 #[.agg #[.slice A3 k3 c3, .bool y.s], .agg #[.slice A n c, .bool false]] u fun e w' => e = .returned (.bool q) ∧ Below u.heap.size u w') (r : List UInt8 × Int) (hr : (if er = 0 ∧ q = true then (z, 0) else ([], 8)) = r) :
    Calls Tryz.prog 20 #[.agg #[.slice A n c, .bool false], .int .u8 111] w (RetS w r) := by
  have O0 := (Own.at1 w 26 #[.slice A n c, .bool false] (g := w.heap.size) (by simp))
  have BB := (below_new (Below.refl w.heap.size w) (.cells #[.slice A n c, .bool false] 26))
  have q0 := O0.cell 0; have q1 := O0.cell 1
  have HD := Lib.hid HD9
  have HI := Lib.hid HI9
  have HP := Lib.hid HP9
  have HS := Lib.hid HS9
  have k1 : ¬ 9223372036854775807 < p1.length + 1 := by omega
  have k2 : ¬ 9223372036854775807 < p2.length + 1 := by omega
  have k3 : ¬ 9223372036854775807 < p3.length + d.length := by omega
  have hU : Utf8.encode 111 = (⟨#[111]⟩ : ByteArray) := by kernel_rfl
  have hS1 := True.intro
  replace h1 := Lib.hid h1
  replace h2 := Lib.hid h2
  replace h3 := Lib.hid h3
  clear HD9 HI9 HP9 HS9
  cases he : er == 0
  · have he2 : (er != 0) = true := by unfold bne; rw [he]; rfl
    have hr2 : r = ([], 8) := by rw [← hr, if_neg (fun h => by rw [h.1] at he; cases he)]
    rw [hr2]
    clear hr hr2
    go_enter Tryz.func20, Tryz.ntmps20
    go_wp2_with (first | (go_at_call 22; (with_reducible refine (HD.out _ BB).mono ?_); rintro e w1 ⟨rfl, hb⟩; replace BB := below_step BB hb; replace O0 := O0.step hb; have t0 := O0.cell 0; have t1 := O0.cell 1) | (go_at_call 50; (with_reducible refine (HI.out _ BB).mono ?_); rintro e w2 ⟨rfl, hb⟩; replace BB := below_step BB hb; replace O0 := O0.step hb; have u0 := O0.cell 0; have u1 := O0.cell 1) | (go_at_call 15; (with_reducible refine (HP.out _ BB).mono ?_); rintro e w3 ⟨A3, k3, c3, rfl, hc3, hk3, hN3, hb⟩; have hr3 := hN3.rd; replace BB := below_step BB hb; replace O0 := O0.step hb; have ON := Own.new w3 26 #[.slice A3 k3 c3, .bool y.s]; replace BB := below_new BB (.cells #[.slice A3 k3 c3, .bool y.s] 26); replace O0 := O0.alloc (.cells #[.slice A3 k3 c3, .bool y.s] 26); replace hr3 := hr3.alloc (.cells #[.slice A3 k3 c3, .bool y.s] 26); have n0 := ON.cell 0; have n1 := ON.cell 1; have v0 := O0.cell 0; have v1 := O0.cell 1) | (go_at_call 51; (with_reducible refine (HS.out _ _ _ _ BB hr3 hk3).mono ?_); rintro e w4 ⟨rfl, hb⟩; replace BB := below_step BB hb))
    go_ret2
    exact ⟨rfl, BB⟩
  · obtain rfl : er = 0 := by simpa using he
    clear he
    cases q
    · have hr2 : r = ([], 8) := by rw [← hr, if_neg (fun h => by cases h.2)]
      rw [hr2]
      clear hr hr2
      go_enter Tryz.func20, Tryz.ntmps20
      go_wp2_with (first | (go_at_call 22; (with_reducible refine (HD.out _ BB).mono ?_); rintro e w1 ⟨rfl, hb⟩; replace BB := below_step BB hb; replace O0 := O0.step hb; have t0 := O0.cell 0; have t1 := O0.cell 1) | (go_at_call 50; (with_reducible refine (HI.out _ BB).mono ?_); rintro e w2 ⟨rfl, hb⟩; replace BB := below_step BB hb; replace O0 := O0.step hb; have u0 := O0.cell 0; have u1 := O0.cell 1) | (go_at_call 15; (with_reducible refine (HP.out _ BB).mono ?_); rintro e w3 ⟨A3, k3, c3, rfl, hc3, hk3, hN3, hb⟩; have hr3 := hN3.rd; replace BB := below_step BB hb; replace O0 := O0.step hb; have ON := Own.new w3 26 #[.slice A3 k3 c3, .bool y.s]; replace BB := below_new BB (.cells #[.slice A3 k3 c3, .bool y.s] 26); replace O0 := O0.alloc (.cells #[.slice A3 k3 c3, .bool y.s] 26); replace hr3 := hr3.alloc (.cells #[.slice A3 k3 c3, .bool y.s] 26); have n0 := ON.cell 0; have n1 := ON.cell 1; have v0 := O0.cell 0; have v1 := O0.cell 1) | (go_at_call 51; (with_reducible refine (HS.out _ _ _ _ BB hr3 hk3).mono ?_); rintro e w4 ⟨rfl, hb⟩; replace BB := below_step BB hb))
      go_ret2
      exact ⟨rfl, BB⟩
    · have hr2 : r = (z, 0) := by rw [← hr, if_pos ⟨rfl, rfl⟩]
      rw [hr2]
      clear hr hr2
      go_enter Tryz.func20, Tryz.ntmps20
      go_wp2_with (first | (go_at_call 22; (with_reducible refine (HD.out _ BB).mono ?_); rintro e w1 ⟨rfl, hb⟩; replace BB := below_step BB hb; replace O0 := O0.step hb; have t0 := O0.cell 0; have t1 := O0.cell 1) | (go_at_call 50; (with_reducible refine (HI.out _ BB).mono ?_); rintro e w2 ⟨rfl, hb⟩; replace BB := below_step BB hb; replace O0 := O0.step hb; have u0 := O0.cell 0; have u1 := O0.cell 1) | (go_at_call 15; (with_reducible refine (HP.out _ BB).mono ?_); rintro e w3 ⟨A3, k3, c3, rfl, hc3, hk3, hN3, hb⟩; have hr3 := hN3.rd; replace BB := below_step BB hb; replace O0 := O0.step hb; have ON := Own.new w3 26 #[.slice A3 k3 c3, .bool y.s]; replace BB := below_new BB (.cells #[.slice A3 k3 c3, .bool y.s] 26); replace O0 := O0.alloc (.cells #[.slice A3 k3 c3, .bool y.s] 26); replace hr3 := hr3.alloc (.cells #[.slice A3 k3 c3, .bool y.s] 26); have n0 := ON.cell 0; have n1 := ON.cell 1; have v0 := O0.cell 0; have v1 := O0.cell 1) | (go_at_call 51; (with_reducible refine (HS.out _ _ _ _ BB hr3 hk3).mono ?_); rintro e w4 ⟨rfl, hb⟩; replace BB := below_step BB hb))
      go_ret2
      exact ⟨rfl, BB⟩
set_option maxRecDepth 100000 in
set_option maxHeartbeats 2000000 in
theorem fmt_111s (A : Option Addr) (n c : Nat) (w : World) (d p1 p2 p3 z : List UInt8) (y : V) (nn er : Int) (q : Bool) (HD9 : ∀ u, Below w.heap.size w u → Calls Tryz.prog 22 #[.agg #[.slice A n c, .bool true], .int .u8 111] u (RetS u (d, 0)))
    (HI9 : ∀ u, Below w.heap.size w u → Calls Tryz.prog 50 #[.int .i64 (n : Int)] u fun e w' => e = .returned (.string (str p1)) ∧ Below u.heap.size u w') (hA : str p1 ++ (⟨#[39]⟩ : ByteArray) = str p2) (hB : str p2 ++ (⟨#[115, 111]⟩ : ByteArray) = str p3) (hC : str p3 ++ str d = str z)
    (h1 : p1.length + 1 ≤ 1000) (h2 : p2.length + 2 ≤ 1000) (h3 : p3.length + d.length ≤ 1000)
    (HP9 : ∀ u, Below w.heap.size w u → Calls Tryz.prog 15 #[.string (str z), .int .i64 0] u (RetT u y nn er))
    (HS9 : ∀ A3 k3 c3 u, Below w.heap.size w u → Rb u A3 k3 y.l → k3 ≤ 1000 → Calls Tryz.prog 51 #[.agg #[.slice A3 k3 c3, .bool y.s], .agg #[.slice A n c, .bool true]] u fun e w' => e = .returned (.bool q) ∧ Below u.heap.size u w') (r : List UInt8 × Int) (hr : (if er = 0 ∧ q = true then (z, 0) else ([], 8)) = r) :
    Calls Tryz.prog 20 #[.agg #[.slice A n c, .bool true], .int .u8 111] w (RetS w r) := by
  have O0 := (Own.at1 w 26 #[.slice A n c, .bool true] (g := w.heap.size) (by simp))
  have BB := (below_new (Below.refl w.heap.size w) (.cells #[.slice A n c, .bool true] 26))
  have q0 := O0.cell 0; have q1 := O0.cell 1
  have HD := Lib.hid HD9
  have HI := Lib.hid HI9
  have HP := Lib.hid HP9
  have HS := Lib.hid HS9
  have k1 : ¬ 9223372036854775807 < p1.length + 1 := by omega
  have k2 : ¬ 9223372036854775807 < p2.length + 2 := by omega
  have k3 : ¬ 9223372036854775807 < p3.length + d.length := by omega
  have hU : Utf8.encode 111 = (⟨#[111]⟩ : ByteArray) := by kernel_rfl
  have hS1 : (⟨#[115]⟩ : ByteArray) ++ (⟨#[111]⟩ : ByteArray) = (⟨#[115, 111]⟩ : ByteArray) := by kernel_rfl
  replace h1 := Lib.hid h1
  replace h2 := Lib.hid h2
  replace h3 := Lib.hid h3
  clear HD9 HI9 HP9 HS9
  cases he : er == 0
  · have he2 : (er != 0) = true := by unfold bne; rw [he]; rfl
    have hr2 : r = ([], 8) := by rw [← hr, if_neg (fun h => by rw [h.1] at he; cases he)]
    rw [hr2]
    clear hr hr2
    go_enter Tryz.func20, Tryz.ntmps20
    go_wp2_with (first | (go_at_call 22; (with_reducible refine (HD.out _ BB).mono ?_); rintro e w1 ⟨rfl, hb⟩; replace BB := below_step BB hb; replace O0 := O0.step hb; have t0 := O0.cell 0; have t1 := O0.cell 1) | (go_at_call 50; (with_reducible refine (HI.out _ BB).mono ?_); rintro e w2 ⟨rfl, hb⟩; replace BB := below_step BB hb; replace O0 := O0.step hb; have u0 := O0.cell 0; have u1 := O0.cell 1) | (go_at_call 15; (with_reducible refine (HP.out _ BB).mono ?_); rintro e w3 ⟨A3, k3, c3, rfl, hc3, hk3, hN3, hb⟩; have hr3 := hN3.rd; replace BB := below_step BB hb; replace O0 := O0.step hb; have ON := Own.new w3 26 #[.slice A3 k3 c3, .bool y.s]; replace BB := below_new BB (.cells #[.slice A3 k3 c3, .bool y.s] 26); replace O0 := O0.alloc (.cells #[.slice A3 k3 c3, .bool y.s] 26); replace hr3 := hr3.alloc (.cells #[.slice A3 k3 c3, .bool y.s] 26); have n0 := ON.cell 0; have n1 := ON.cell 1; have v0 := O0.cell 0; have v1 := O0.cell 1) | (go_at_call 51; (with_reducible refine (HS.out _ _ _ _ BB hr3 hk3).mono ?_); rintro e w4 ⟨rfl, hb⟩; replace BB := below_step BB hb))
    go_ret2
    exact ⟨rfl, BB⟩
  · obtain rfl : er = 0 := by simpa using he
    clear he
    cases q
    · have hr2 : r = ([], 8) := by rw [← hr, if_neg (fun h => by cases h.2)]
      rw [hr2]
      clear hr hr2
      go_enter Tryz.func20, Tryz.ntmps20
      go_wp2_with (first | (go_at_call 22; (with_reducible refine (HD.out _ BB).mono ?_); rintro e w1 ⟨rfl, hb⟩; replace BB := below_step BB hb; replace O0 := O0.step hb; have t0 := O0.cell 0; have t1 := O0.cell 1) | (go_at_call 50; (with_reducible refine (HI.out _ BB).mono ?_); rintro e w2 ⟨rfl, hb⟩; replace BB := below_step BB hb; replace O0 := O0.step hb; have u0 := O0.cell 0; have u1 := O0.cell 1) | (go_at_call 15; (with_reducible refine (HP.out _ BB).mono ?_); rintro e w3 ⟨A3, k3, c3, rfl, hc3, hk3, hN3, hb⟩; have hr3 := hN3.rd; replace BB := below_step BB hb; replace O0 := O0.step hb; have ON := Own.new w3 26 #[.slice A3 k3 c3, .bool y.s]; replace BB := below_new BB (.cells #[.slice A3 k3 c3, .bool y.s] 26); replace O0 := O0.alloc (.cells #[.slice A3 k3 c3, .bool y.s] 26); replace hr3 := hr3.alloc (.cells #[.slice A3 k3 c3, .bool y.s] 26); have n0 := ON.cell 0; have n1 := ON.cell 1; have v0 := O0.cell 0; have v1 := O0.cell 1) | (go_at_call 51; (with_reducible refine (HS.out _ _ _ _ BB hr3 hk3).mono ?_); rintro e w4 ⟨rfl, hb⟩; replace BB := below_step BB hb))
      go_ret2
      exact ⟨rfl, BB⟩
    · have hr2 : r = (z, 0) := by rw [← hr, if_pos ⟨rfl, rfl⟩]
      rw [hr2]
      clear hr hr2
      go_enter Tryz.func20, Tryz.ntmps20
      go_wp2_with (first | (go_at_call 22; (with_reducible refine (HD.out _ BB).mono ?_); rintro e w1 ⟨rfl, hb⟩; replace BB := below_step BB hb; replace O0 := O0.step hb; have t0 := O0.cell 0; have t1 := O0.cell 1) | (go_at_call 50; (with_reducible refine (HI.out _ BB).mono ?_); rintro e w2 ⟨rfl, hb⟩; replace BB := below_step BB hb; replace O0 := O0.step hb; have u0 := O0.cell 0; have u1 := O0.cell 1) | (go_at_call 15; (with_reducible refine (HP.out _ BB).mono ?_); rintro e w3 ⟨A3, k3, c3, rfl, hc3, hk3, hN3, hb⟩; have hr3 := hN3.rd; replace BB := below_step BB hb; replace O0 := O0.step hb; have ON := Own.new w3 26 #[.slice A3 k3 c3, .bool y.s]; replace BB := below_new BB (.cells #[.slice A3 k3 c3, .bool y.s] 26); replace O0 := O0.alloc (.cells #[.slice A3 k3 c3, .bool y.s] 26); replace hr3 := hr3.alloc (.cells #[.slice A3 k3 c3, .bool y.s] 26); have n0 := ON.cell 0; have n1 := ON.cell 1; have v0 := O0.cell 0; have v1 := O0.cell 1) | (go_at_call 51; (with_reducible refine (HS.out _ _ _ _ BB hr3 hk3).mono ?_); rintro e w4 ⟨rfl, hb⟩; replace BB := below_step BB hb))
      go_ret2
      exact ⟨rfl, BB⟩
set_option maxRecDepth 100000 in
set_option maxHeartbeats 2000000 in
theorem fmt_100u (A : Option Addr) (n c : Nat) (w : World) (d p1 p2 p3 z : List UInt8) (y : V) (nn er : Int) (q : Bool) (HD9 : ∀ u, Below w.heap.size w u → Calls Tryz.prog 22 #[.agg #[.slice A n c, .bool false], .int .u8 100] u (RetS u (d, 0)))
    (HI9 : ∀ u, Below w.heap.size w u → Calls Tryz.prog 50 #[.int .i64 (n : Int)] u fun e w' => e = .returned (.string (str p1)) ∧ Below u.heap.size u w') (hA : str p1 ++ (⟨#[39]⟩ : ByteArray) = str p2) (hB : str p2 ++ (⟨#[100]⟩ : ByteArray) = str p3) (hC : str p3 ++ str d = str z)
    (h1 : p1.length + 1 ≤ 1000) (h2 : p2.length + 1 ≤ 1000) (h3 : p3.length + d.length ≤ 1000)
    (HP9 : ∀ u, Below w.heap.size w u → Calls Tryz.prog 15 #[.string (str z), .int .i64 0] u (RetT u y nn er))
    (HS9 : ∀ A3 k3 c3 u, Below w.heap.size w u → Rb u A3 k3 y.l → k3 ≤ 1000 → Calls Tryz.prog 51 #[.agg #[.slice A3 k3 c3, .bool y.s], .agg #[.slice A n c, .bool false]] u fun e w' => e = .returned (.bool q) ∧ Below u.heap.size u w') (r : List UInt8 × Int) (hr : (if er = 0 ∧ q = true then (z, 0) else ([], 8)) = r) :
    Calls Tryz.prog 20 #[.agg #[.slice A n c, .bool false], .int .u8 100] w (RetS w r) := by
  have O0 := (Own.at1 w 26 #[.slice A n c, .bool false] (g := w.heap.size) (by simp))
  have BB := (below_new (Below.refl w.heap.size w) (.cells #[.slice A n c, .bool false] 26))
  have q0 := O0.cell 0; have q1 := O0.cell 1
  have HD := Lib.hid HD9
  have HI := Lib.hid HI9
  have HP := Lib.hid HP9
  have HS := Lib.hid HS9
  have k1 : ¬ 9223372036854775807 < p1.length + 1 := by omega
  have k2 : ¬ 9223372036854775807 < p2.length + 1 := by omega
  have k3 : ¬ 9223372036854775807 < p3.length + d.length := by omega
  have hU : Utf8.encode 100 = (⟨#[100]⟩ : ByteArray) := by kernel_rfl
  have hS1 := True.intro
  replace h1 := Lib.hid h1
  replace h2 := Lib.hid h2
  replace h3 := Lib.hid h3
  clear HD9 HI9 HP9 HS9
  cases he : er == 0
  · have he2 : (er != 0) = true := by unfold bne; rw [he]; rfl
    have hr2 : r = ([], 8) := by rw [← hr, if_neg (fun h => by rw [h.1] at he; cases he)]
    rw [hr2]
    clear hr hr2
    go_enter Tryz.func20, Tryz.ntmps20
    go_wp2_with (first | (go_at_call 22; (with_reducible refine (HD.out _ BB).mono ?_); rintro e w1 ⟨rfl, hb⟩; replace BB := below_step BB hb; replace O0 := O0.step hb; have t0 := O0.cell 0; have t1 := O0.cell 1) | (go_at_call 50; (with_reducible refine (HI.out _ BB).mono ?_); rintro e w2 ⟨rfl, hb⟩; replace BB := below_step BB hb; replace O0 := O0.step hb; have u0 := O0.cell 0; have u1 := O0.cell 1) | (go_at_call 15; (with_reducible refine (HP.out _ BB).mono ?_); rintro e w3 ⟨A3, k3, c3, rfl, hc3, hk3, hN3, hb⟩; have hr3 := hN3.rd; replace BB := below_step BB hb; replace O0 := O0.step hb; have ON := Own.new w3 26 #[.slice A3 k3 c3, .bool y.s]; replace BB := below_new BB (.cells #[.slice A3 k3 c3, .bool y.s] 26); replace O0 := O0.alloc (.cells #[.slice A3 k3 c3, .bool y.s] 26); replace hr3 := hr3.alloc (.cells #[.slice A3 k3 c3, .bool y.s] 26); have n0 := ON.cell 0; have n1 := ON.cell 1; have v0 := O0.cell 0; have v1 := O0.cell 1) | (go_at_call 51; (with_reducible refine (HS.out _ _ _ _ BB hr3 hk3).mono ?_); rintro e w4 ⟨rfl, hb⟩; replace BB := below_step BB hb))
    go_ret2
    exact ⟨rfl, BB⟩
  · obtain rfl : er = 0 := by simpa using he
    clear he
    cases q
    · have hr2 : r = ([], 8) := by rw [← hr, if_neg (fun h => by cases h.2)]
      rw [hr2]
      clear hr hr2
      go_enter Tryz.func20, Tryz.ntmps20
      go_wp2_with (first | (go_at_call 22; (with_reducible refine (HD.out _ BB).mono ?_); rintro e w1 ⟨rfl, hb⟩; replace BB := below_step BB hb; replace O0 := O0.step hb; have t0 := O0.cell 0; have t1 := O0.cell 1) | (go_at_call 50; (with_reducible refine (HI.out _ BB).mono ?_); rintro e w2 ⟨rfl, hb⟩; replace BB := below_step BB hb; replace O0 := O0.step hb; have u0 := O0.cell 0; have u1 := O0.cell 1) | (go_at_call 15; (with_reducible refine (HP.out _ BB).mono ?_); rintro e w3 ⟨A3, k3, c3, rfl, hc3, hk3, hN3, hb⟩; have hr3 := hN3.rd; replace BB := below_step BB hb; replace O0 := O0.step hb; have ON := Own.new w3 26 #[.slice A3 k3 c3, .bool y.s]; replace BB := below_new BB (.cells #[.slice A3 k3 c3, .bool y.s] 26); replace O0 := O0.alloc (.cells #[.slice A3 k3 c3, .bool y.s] 26); replace hr3 := hr3.alloc (.cells #[.slice A3 k3 c3, .bool y.s] 26); have n0 := ON.cell 0; have n1 := ON.cell 1; have v0 := O0.cell 0; have v1 := O0.cell 1) | (go_at_call 51; (with_reducible refine (HS.out _ _ _ _ BB hr3 hk3).mono ?_); rintro e w4 ⟨rfl, hb⟩; replace BB := below_step BB hb))
      go_ret2
      exact ⟨rfl, BB⟩
    · have hr2 : r = (z, 0) := by rw [← hr, if_pos ⟨rfl, rfl⟩]
      rw [hr2]
      clear hr hr2
      go_enter Tryz.func20, Tryz.ntmps20
      go_wp2_with (first | (go_at_call 22; (with_reducible refine (HD.out _ BB).mono ?_); rintro e w1 ⟨rfl, hb⟩; replace BB := below_step BB hb; replace O0 := O0.step hb; have t0 := O0.cell 0; have t1 := O0.cell 1) | (go_at_call 50; (with_reducible refine (HI.out _ BB).mono ?_); rintro e w2 ⟨rfl, hb⟩; replace BB := below_step BB hb; replace O0 := O0.step hb; have u0 := O0.cell 0; have u1 := O0.cell 1) | (go_at_call 15; (with_reducible refine (HP.out _ BB).mono ?_); rintro e w3 ⟨A3, k3, c3, rfl, hc3, hk3, hN3, hb⟩; have hr3 := hN3.rd; replace BB := below_step BB hb; replace O0 := O0.step hb; have ON := Own.new w3 26 #[.slice A3 k3 c3, .bool y.s]; replace BB := below_new BB (.cells #[.slice A3 k3 c3, .bool y.s] 26); replace O0 := O0.alloc (.cells #[.slice A3 k3 c3, .bool y.s] 26); replace hr3 := hr3.alloc (.cells #[.slice A3 k3 c3, .bool y.s] 26); have n0 := ON.cell 0; have n1 := ON.cell 1; have v0 := O0.cell 0; have v1 := O0.cell 1) | (go_at_call 51; (with_reducible refine (HS.out _ _ _ _ BB hr3 hk3).mono ?_); rintro e w4 ⟨rfl, hb⟩; replace BB := below_step BB hb))
      go_ret2
      exact ⟨rfl, BB⟩
set_option maxRecDepth 100000 in
set_option maxHeartbeats 2000000 in
theorem fmt_100s (A : Option Addr) (n c : Nat) (w : World) (d p1 p2 p3 z : List UInt8) (y : V) (nn er : Int) (q : Bool) (HD9 : ∀ u, Below w.heap.size w u → Calls Tryz.prog 22 #[.agg #[.slice A n c, .bool true], .int .u8 100] u (RetS u (d, 0)))
    (HI9 : ∀ u, Below w.heap.size w u → Calls Tryz.prog 50 #[.int .i64 (n : Int)] u fun e w' => e = .returned (.string (str p1)) ∧ Below u.heap.size u w') (hA : str p1 ++ (⟨#[39]⟩ : ByteArray) = str p2) (hB : str p2 ++ (⟨#[115, 100]⟩ : ByteArray) = str p3) (hC : str p3 ++ str d = str z)
    (h1 : p1.length + 1 ≤ 1000) (h2 : p2.length + 2 ≤ 1000) (h3 : p3.length + d.length ≤ 1000)
    (HP9 : ∀ u, Below w.heap.size w u → Calls Tryz.prog 15 #[.string (str z), .int .i64 0] u (RetT u y nn er))
    (HS9 : ∀ A3 k3 c3 u, Below w.heap.size w u → Rb u A3 k3 y.l → k3 ≤ 1000 → Calls Tryz.prog 51 #[.agg #[.slice A3 k3 c3, .bool y.s], .agg #[.slice A n c, .bool true]] u fun e w' => e = .returned (.bool q) ∧ Below u.heap.size u w') (r : List UInt8 × Int) (hr : (if er = 0 ∧ q = true then (z, 0) else ([], 8)) = r) :
    Calls Tryz.prog 20 #[.agg #[.slice A n c, .bool true], .int .u8 100] w (RetS w r) := by
  have O0 := (Own.at1 w 26 #[.slice A n c, .bool true] (g := w.heap.size) (by simp))
  have BB := (below_new (Below.refl w.heap.size w) (.cells #[.slice A n c, .bool true] 26))
  have q0 := O0.cell 0; have q1 := O0.cell 1
  have HD := Lib.hid HD9
  have HI := Lib.hid HI9
  have HP := Lib.hid HP9
  have HS := Lib.hid HS9
  have k1 : ¬ 9223372036854775807 < p1.length + 1 := by omega
  have k2 : ¬ 9223372036854775807 < p2.length + 2 := by omega
  have k3 : ¬ 9223372036854775807 < p3.length + d.length := by omega
  have hU : Utf8.encode 100 = (⟨#[100]⟩ : ByteArray) := by kernel_rfl
  have hS1 : (⟨#[115]⟩ : ByteArray) ++ (⟨#[100]⟩ : ByteArray) = (⟨#[115, 100]⟩ : ByteArray) := by kernel_rfl
  replace h1 := Lib.hid h1
  replace h2 := Lib.hid h2
  replace h3 := Lib.hid h3
  clear HD9 HI9 HP9 HS9
  cases he : er == 0
  · have he2 : (er != 0) = true := by unfold bne; rw [he]; rfl
    have hr2 : r = ([], 8) := by rw [← hr, if_neg (fun h => by rw [h.1] at he; cases he)]
    rw [hr2]
    clear hr hr2
    go_enter Tryz.func20, Tryz.ntmps20
    go_wp2_with (first | (go_at_call 22; (with_reducible refine (HD.out _ BB).mono ?_); rintro e w1 ⟨rfl, hb⟩; replace BB := below_step BB hb; replace O0 := O0.step hb; have t0 := O0.cell 0; have t1 := O0.cell 1) | (go_at_call 50; (with_reducible refine (HI.out _ BB).mono ?_); rintro e w2 ⟨rfl, hb⟩; replace BB := below_step BB hb; replace O0 := O0.step hb; have u0 := O0.cell 0; have u1 := O0.cell 1) | (go_at_call 15; (with_reducible refine (HP.out _ BB).mono ?_); rintro e w3 ⟨A3, k3, c3, rfl, hc3, hk3, hN3, hb⟩; have hr3 := hN3.rd; replace BB := below_step BB hb; replace O0 := O0.step hb; have ON := Own.new w3 26 #[.slice A3 k3 c3, .bool y.s]; replace BB := below_new BB (.cells #[.slice A3 k3 c3, .bool y.s] 26); replace O0 := O0.alloc (.cells #[.slice A3 k3 c3, .bool y.s] 26); replace hr3 := hr3.alloc (.cells #[.slice A3 k3 c3, .bool y.s] 26); have n0 := ON.cell 0; have n1 := ON.cell 1; have v0 := O0.cell 0; have v1 := O0.cell 1) | (go_at_call 51; (with_reducible refine (HS.out _ _ _ _ BB hr3 hk3).mono ?_); rintro e w4 ⟨rfl, hb⟩; replace BB := below_step BB hb))
    go_ret2
    exact ⟨rfl, BB⟩
  · obtain rfl : er = 0 := by simpa using he
    clear he
    cases q
    · have hr2 : r = ([], 8) := by rw [← hr, if_neg (fun h => by cases h.2)]
      rw [hr2]
      clear hr hr2
      go_enter Tryz.func20, Tryz.ntmps20
      go_wp2_with (first | (go_at_call 22; (with_reducible refine (HD.out _ BB).mono ?_); rintro e w1 ⟨rfl, hb⟩; replace BB := below_step BB hb; replace O0 := O0.step hb; have t0 := O0.cell 0; have t1 := O0.cell 1) | (go_at_call 50; (with_reducible refine (HI.out _ BB).mono ?_); rintro e w2 ⟨rfl, hb⟩; replace BB := below_step BB hb; replace O0 := O0.step hb; have u0 := O0.cell 0; have u1 := O0.cell 1) | (go_at_call 15; (with_reducible refine (HP.out _ BB).mono ?_); rintro e w3 ⟨A3, k3, c3, rfl, hc3, hk3, hN3, hb⟩; have hr3 := hN3.rd; replace BB := below_step BB hb; replace O0 := O0.step hb; have ON := Own.new w3 26 #[.slice A3 k3 c3, .bool y.s]; replace BB := below_new BB (.cells #[.slice A3 k3 c3, .bool y.s] 26); replace O0 := O0.alloc (.cells #[.slice A3 k3 c3, .bool y.s] 26); replace hr3 := hr3.alloc (.cells #[.slice A3 k3 c3, .bool y.s] 26); have n0 := ON.cell 0; have n1 := ON.cell 1; have v0 := O0.cell 0; have v1 := O0.cell 1) | (go_at_call 51; (with_reducible refine (HS.out _ _ _ _ BB hr3 hk3).mono ?_); rintro e w4 ⟨rfl, hb⟩; replace BB := below_step BB hb))
      go_ret2
      exact ⟨rfl, BB⟩
    · have hr2 : r = (z, 0) := by rw [← hr, if_pos ⟨rfl, rfl⟩]
      rw [hr2]
      clear hr hr2
      go_enter Tryz.func20, Tryz.ntmps20
      go_wp2_with (first | (go_at_call 22; (with_reducible refine (HD.out _ BB).mono ?_); rintro e w1 ⟨rfl, hb⟩; replace BB := below_step BB hb; replace O0 := O0.step hb; have t0 := O0.cell 0; have t1 := O0.cell 1) | (go_at_call 50; (with_reducible refine (HI.out _ BB).mono ?_); rintro e w2 ⟨rfl, hb⟩; replace BB := below_step BB hb; replace O0 := O0.step hb; have u0 := O0.cell 0; have u1 := O0.cell 1) | (go_at_call 15; (with_reducible refine (HP.out _ BB).mono ?_); rintro e w3 ⟨A3, k3, c3, rfl, hc3, hk3, hN3, hb⟩; have hr3 := hN3.rd; replace BB := below_step BB hb; replace O0 := O0.step hb; have ON := Own.new w3 26 #[.slice A3 k3 c3, .bool y.s]; replace BB := below_new BB (.cells #[.slice A3 k3 c3, .bool y.s] 26); replace O0 := O0.alloc (.cells #[.slice A3 k3 c3, .bool y.s] 26); replace hr3 := hr3.alloc (.cells #[.slice A3 k3 c3, .bool y.s] 26); have n0 := ON.cell 0; have n1 := ON.cell 1; have v0 := O0.cell 0; have v1 := O0.cell 1) | (go_at_call 51; (with_reducible refine (HS.out _ _ _ _ BB hr3 hk3).mono ?_); rintro e w4 ⟨rfl, hb⟩; replace BB := below_step BB hb))
      go_ret2
      exact ⟨rfl, BB⟩
set_option maxRecDepth 100000 in
set_option maxHeartbeats 2000000 in
theorem fmt_104u (A : Option Addr) (n c : Nat) (w : World) (d p1 p2 p3 z : List UInt8) (y : V) (nn er : Int) (q : Bool) (HD9 : ∀ u, Below w.heap.size w u → Calls Tryz.prog 22 #[.agg #[.slice A n c, .bool false], .int .u8 104] u (RetS u (d, 0)))
    (HI9 : ∀ u, Below w.heap.size w u → Calls Tryz.prog 50 #[.int .i64 (n : Int)] u fun e w' => e = .returned (.string (str p1)) ∧ Below u.heap.size u w') (hA : str p1 ++ (⟨#[39]⟩ : ByteArray) = str p2) (hB : str p2 ++ (⟨#[104]⟩ : ByteArray) = str p3) (hC : str p3 ++ str d = str z)
    (h1 : p1.length + 1 ≤ 1000) (h2 : p2.length + 1 ≤ 1000) (h3 : p3.length + d.length ≤ 1000)
    (HP9 : ∀ u, Below w.heap.size w u → Calls Tryz.prog 15 #[.string (str z), .int .i64 0] u (RetT u y nn er))
    (HS9 : ∀ A3 k3 c3 u, Below w.heap.size w u → Rb u A3 k3 y.l → k3 ≤ 1000 → Calls Tryz.prog 51 #[.agg #[.slice A3 k3 c3, .bool y.s], .agg #[.slice A n c, .bool false]] u fun e w' => e = .returned (.bool q) ∧ Below u.heap.size u w') (r : List UInt8 × Int) (hr : (if er = 0 ∧ q = true then (z, 0) else ([], 8)) = r) :
    Calls Tryz.prog 20 #[.agg #[.slice A n c, .bool false], .int .u8 104] w (RetS w r) := by
  have O0 := (Own.at1 w 26 #[.slice A n c, .bool false] (g := w.heap.size) (by simp))
  have BB := (below_new (Below.refl w.heap.size w) (.cells #[.slice A n c, .bool false] 26))
  have q0 := O0.cell 0; have q1 := O0.cell 1
  have HD := Lib.hid HD9
  have HI := Lib.hid HI9
  have HP := Lib.hid HP9
  have HS := Lib.hid HS9
  have k1 : ¬ 9223372036854775807 < p1.length + 1 := by omega
  have k2 : ¬ 9223372036854775807 < p2.length + 1 := by omega
  have k3 : ¬ 9223372036854775807 < p3.length + d.length := by omega
  have hU : Utf8.encode 104 = (⟨#[104]⟩ : ByteArray) := by kernel_rfl
  have hS1 := True.intro
  replace h1 := Lib.hid h1
  replace h2 := Lib.hid h2
  replace h3 := Lib.hid h3
  clear HD9 HI9 HP9 HS9
  cases he : er == 0
  · have he2 : (er != 0) = true := by unfold bne; rw [he]; rfl
    have hr2 : r = ([], 8) := by rw [← hr, if_neg (fun h => by rw [h.1] at he; cases he)]
    rw [hr2]
    clear hr hr2
    go_enter Tryz.func20, Tryz.ntmps20
    go_wp2_with (first | (go_at_call 22; (with_reducible refine (HD.out _ BB).mono ?_); rintro e w1 ⟨rfl, hb⟩; replace BB := below_step BB hb; replace O0 := O0.step hb; have t0 := O0.cell 0; have t1 := O0.cell 1) | (go_at_call 50; (with_reducible refine (HI.out _ BB).mono ?_); rintro e w2 ⟨rfl, hb⟩; replace BB := below_step BB hb; replace O0 := O0.step hb; have u0 := O0.cell 0; have u1 := O0.cell 1) | (go_at_call 15; (with_reducible refine (HP.out _ BB).mono ?_); rintro e w3 ⟨A3, k3, c3, rfl, hc3, hk3, hN3, hb⟩; have hr3 := hN3.rd; replace BB := below_step BB hb; replace O0 := O0.step hb; have ON := Own.new w3 26 #[.slice A3 k3 c3, .bool y.s]; replace BB := below_new BB (.cells #[.slice A3 k3 c3, .bool y.s] 26); replace O0 := O0.alloc (.cells #[.slice A3 k3 c3, .bool y.s] 26); replace hr3 := hr3.alloc (.cells #[.slice A3 k3 c3, .bool y.s] 26); have n0 := ON.cell 0; have n1 := ON.cell 1; have v0 := O0.cell 0; have v1 := O0.cell 1) | (go_at_call 51; (with_reducible refine (HS.out _ _ _ _ BB hr3 hk3).mono ?_); rintro e w4 ⟨rfl, hb⟩; replace BB := below_step BB hb))
    go_ret2
    exact ⟨rfl, BB⟩
  · obtain rfl : er = 0 := by simpa using he
    clear he
    cases q
    · have hr2 : r = ([], 8) := by rw [← hr, if_neg (fun h => by cases h.2)]
      rw [hr2]
      clear hr hr2
      go_enter Tryz.func20, Tryz.ntmps20
      go_wp2_with (first | (go_at_call 22; (with_reducible refine (HD.out _ BB).mono ?_); rintro e w1 ⟨rfl, hb⟩; replace BB := below_step BB hb; replace O0 := O0.step hb; have t0 := O0.cell 0; have t1 := O0.cell 1) | (go_at_call 50; (with_reducible refine (HI.out _ BB).mono ?_); rintro e w2 ⟨rfl, hb⟩; replace BB := below_step BB hb; replace O0 := O0.step hb; have u0 := O0.cell 0; have u1 := O0.cell 1) | (go_at_call 15; (with_reducible refine (HP.out _ BB).mono ?_); rintro e w3 ⟨A3, k3, c3, rfl, hc3, hk3, hN3, hb⟩; have hr3 := hN3.rd; replace BB := below_step BB hb; replace O0 := O0.step hb; have ON := Own.new w3 26 #[.slice A3 k3 c3, .bool y.s]; replace BB := below_new BB (.cells #[.slice A3 k3 c3, .bool y.s] 26); replace O0 := O0.alloc (.cells #[.slice A3 k3 c3, .bool y.s] 26); replace hr3 := hr3.alloc (.cells #[.slice A3 k3 c3, .bool y.s] 26); have n0 := ON.cell 0; have n1 := ON.cell 1; have v0 := O0.cell 0; have v1 := O0.cell 1) | (go_at_call 51; (with_reducible refine (HS.out _ _ _ _ BB hr3 hk3).mono ?_); rintro e w4 ⟨rfl, hb⟩; replace BB := below_step BB hb))
      go_ret2
      exact ⟨rfl, BB⟩
    · have hr2 : r = (z, 0) := by rw [← hr, if_pos ⟨rfl, rfl⟩]
      rw [hr2]
      clear hr hr2
      go_enter Tryz.func20, Tryz.ntmps20
      go_wp2_with (first | (go_at_call 22; (with_reducible refine (HD.out _ BB).mono ?_); rintro e w1 ⟨rfl, hb⟩; replace BB := below_step BB hb; replace O0 := O0.step hb; have t0 := O0.cell 0; have t1 := O0.cell 1) | (go_at_call 50; (with_reducible refine (HI.out _ BB).mono ?_); rintro e w2 ⟨rfl, hb⟩; replace BB := below_step BB hb; replace O0 := O0.step hb; have u0 := O0.cell 0; have u1 := O0.cell 1) | (go_at_call 15; (with_reducible refine (HP.out _ BB).mono ?_); rintro e w3 ⟨A3, k3, c3, rfl, hc3, hk3, hN3, hb⟩; have hr3 := hN3.rd; replace BB := below_step BB hb; replace O0 := O0.step hb; have ON := Own.new w3 26 #[.slice A3 k3 c3, .bool y.s]; replace BB := below_new BB (.cells #[.slice A3 k3 c3, .bool y.s] 26); replace O0 := O0.alloc (.cells #[.slice A3 k3 c3, .bool y.s] 26); replace hr3 := hr3.alloc (.cells #[.slice A3 k3 c3, .bool y.s] 26); have n0 := ON.cell 0; have n1 := ON.cell 1; have v0 := O0.cell 0; have v1 := O0.cell 1) | (go_at_call 51; (with_reducible refine (HS.out _ _ _ _ BB hr3 hk3).mono ?_); rintro e w4 ⟨rfl, hb⟩; replace BB := below_step BB hb))
      go_ret2
      exact ⟨rfl, BB⟩
set_option maxRecDepth 100000 in
set_option maxHeartbeats 2000000 in
theorem fmt_104s (A : Option Addr) (n c : Nat) (w : World) (d p1 p2 p3 z : List UInt8) (y : V) (nn er : Int) (q : Bool) (HD9 : ∀ u, Below w.heap.size w u → Calls Tryz.prog 22 #[.agg #[.slice A n c, .bool true], .int .u8 104] u (RetS u (d, 0)))
    (HI9 : ∀ u, Below w.heap.size w u → Calls Tryz.prog 50 #[.int .i64 (n : Int)] u fun e w' => e = .returned (.string (str p1)) ∧ Below u.heap.size u w') (hA : str p1 ++ (⟨#[39]⟩ : ByteArray) = str p2) (hB : str p2 ++ (⟨#[115, 104]⟩ : ByteArray) = str p3) (hC : str p3 ++ str d = str z)
    (h1 : p1.length + 1 ≤ 1000) (h2 : p2.length + 2 ≤ 1000) (h3 : p3.length + d.length ≤ 1000)
    (HP9 : ∀ u, Below w.heap.size w u → Calls Tryz.prog 15 #[.string (str z), .int .i64 0] u (RetT u y nn er))
    (HS9 : ∀ A3 k3 c3 u, Below w.heap.size w u → Rb u A3 k3 y.l → k3 ≤ 1000 → Calls Tryz.prog 51 #[.agg #[.slice A3 k3 c3, .bool y.s], .agg #[.slice A n c, .bool true]] u fun e w' => e = .returned (.bool q) ∧ Below u.heap.size u w') (r : List UInt8 × Int) (hr : (if er = 0 ∧ q = true then (z, 0) else ([], 8)) = r) :
    Calls Tryz.prog 20 #[.agg #[.slice A n c, .bool true], .int .u8 104] w (RetS w r) := by
  have O0 := (Own.at1 w 26 #[.slice A n c, .bool true] (g := w.heap.size) (by simp))
  have BB := (below_new (Below.refl w.heap.size w) (.cells #[.slice A n c, .bool true] 26))
  have q0 := O0.cell 0; have q1 := O0.cell 1
  have HD := Lib.hid HD9
  have HI := Lib.hid HI9
  have HP := Lib.hid HP9
  have HS := Lib.hid HS9
  have k1 : ¬ 9223372036854775807 < p1.length + 1 := by omega
  have k2 : ¬ 9223372036854775807 < p2.length + 2 := by omega
  have k3 : ¬ 9223372036854775807 < p3.length + d.length := by omega
  have hU : Utf8.encode 104 = (⟨#[104]⟩ : ByteArray) := by kernel_rfl
  have hS1 : (⟨#[115]⟩ : ByteArray) ++ (⟨#[104]⟩ : ByteArray) = (⟨#[115, 104]⟩ : ByteArray) := by kernel_rfl
  replace h1 := Lib.hid h1
  replace h2 := Lib.hid h2
  replace h3 := Lib.hid h3
  clear HD9 HI9 HP9 HS9
  cases he : er == 0
  · have he2 : (er != 0) = true := by unfold bne; rw [he]; rfl
    have hr2 : r = ([], 8) := by rw [← hr, if_neg (fun h => by rw [h.1] at he; cases he)]
    rw [hr2]
    clear hr hr2
    go_enter Tryz.func20, Tryz.ntmps20
    go_wp2_with (first | (go_at_call 22; (with_reducible refine (HD.out _ BB).mono ?_); rintro e w1 ⟨rfl, hb⟩; replace BB := below_step BB hb; replace O0 := O0.step hb; have t0 := O0.cell 0; have t1 := O0.cell 1) | (go_at_call 50; (with_reducible refine (HI.out _ BB).mono ?_); rintro e w2 ⟨rfl, hb⟩; replace BB := below_step BB hb; replace O0 := O0.step hb; have u0 := O0.cell 0; have u1 := O0.cell 1) | (go_at_call 15; (with_reducible refine (HP.out _ BB).mono ?_); rintro e w3 ⟨A3, k3, c3, rfl, hc3, hk3, hN3, hb⟩; have hr3 := hN3.rd; replace BB := below_step BB hb; replace O0 := O0.step hb; have ON := Own.new w3 26 #[.slice A3 k3 c3, .bool y.s]; replace BB := below_new BB (.cells #[.slice A3 k3 c3, .bool y.s] 26); replace O0 := O0.alloc (.cells #[.slice A3 k3 c3, .bool y.s] 26); replace hr3 := hr3.alloc (.cells #[.slice A3 k3 c3, .bool y.s] 26); have n0 := ON.cell 0; have n1 := ON.cell 1; have v0 := O0.cell 0; have v1 := O0.cell 1) | (go_at_call 51; (with_reducible refine (HS.out _ _ _ _ BB hr3 hk3).mono ?_); rintro e w4 ⟨rfl, hb⟩; replace BB := below_step BB hb))
    go_ret2
    exact ⟨rfl, BB⟩
  · obtain rfl : er = 0 := by simpa using he
    clear he
    cases q
    · have hr2 : r = ([], 8) := by rw [← hr, if_neg (fun h => by cases h.2)]
      rw [hr2]
      clear hr hr2
      go_enter Tryz.func20, Tryz.ntmps20
      go_wp2_with (first | (go_at_call 22; (with_reducible refine (HD.out _ BB).mono ?_); rintro e w1 ⟨rfl, hb⟩; replace BB := below_step BB hb; replace O0 := O0.step hb; have t0 := O0.cell 0; have t1 := O0.cell 1) | (go_at_call 50; (with_reducible refine (HI.out _ BB).mono ?_); rintro e w2 ⟨rfl, hb⟩; replace BB := below_step BB hb; replace O0 := O0.step hb; have u0 := O0.cell 0; have u1 := O0.cell 1) | (go_at_call 15; (with_reducible refine (HP.out _ BB).mono ?_); rintro e w3 ⟨A3, k3, c3, rfl, hc3, hk3, hN3, hb⟩; have hr3 := hN3.rd; replace BB := below_step BB hb; replace O0 := O0.step hb; have ON := Own.new w3 26 #[.slice A3 k3 c3, .bool y.s]; replace BB := below_new BB (.cells #[.slice A3 k3 c3, .bool y.s] 26); replace O0 := O0.alloc (.cells #[.slice A3 k3 c3, .bool y.s] 26); replace hr3 := hr3.alloc (.cells #[.slice A3 k3 c3, .bool y.s] 26); have n0 := ON.cell 0; have n1 := ON.cell 1; have v0 := O0.cell 0; have v1 := O0.cell 1) | (go_at_call 51; (with_reducible refine (HS.out _ _ _ _ BB hr3 hk3).mono ?_); rintro e w4 ⟨rfl, hb⟩; replace BB := below_step BB hb))
      go_ret2
      exact ⟨rfl, BB⟩
    · have hr2 : r = (z, 0) := by rw [← hr, if_pos ⟨rfl, rfl⟩]
      rw [hr2]
      clear hr hr2
      go_enter Tryz.func20, Tryz.ntmps20
      go_wp2_with (first | (go_at_call 22; (with_reducible refine (HD.out _ BB).mono ?_); rintro e w1 ⟨rfl, hb⟩; replace BB := below_step BB hb; replace O0 := O0.step hb; have t0 := O0.cell 0; have t1 := O0.cell 1) | (go_at_call 50; (with_reducible refine (HI.out _ BB).mono ?_); rintro e w2 ⟨rfl, hb⟩; replace BB := below_step BB hb; replace O0 := O0.step hb; have u0 := O0.cell 0; have u1 := O0.cell 1) | (go_at_call 15; (with_reducible refine (HP.out _ BB).mono ?_); rintro e w3 ⟨A3, k3, c3, rfl, hc3, hk3, hN3, hb⟩; have hr3 := hN3.rd; replace BB := below_step BB hb; replace O0 := O0.step hb; have ON := Own.new w3 26 #[.slice A3 k3 c3, .bool y.s]; replace BB := below_new BB (.cells #[.slice A3 k3 c3, .bool y.s] 26); replace O0 := O0.alloc (.cells #[.slice A3 k3 c3, .bool y.s] 26); replace hr3 := hr3.alloc (.cells #[.slice A3 k3 c3, .bool y.s] 26); have n0 := ON.cell 0; have n1 := ON.cell 1; have v0 := O0.cell 0; have v1 := O0.cell 1) | (go_at_call 51; (with_reducible refine (HS.out _ _ _ _ BB hr3 hk3).mono ?_); rintro e w4 ⟨rfl, hb⟩; replace BB := below_step BB hb))
      go_ret2
      exact ⟨rfl, BB⟩
theorem format_any (A : Option Addr) (n c : Nat) (s : Bool) (l : List Int) (base : UInt8) (w : World) (E : Env w) (h : Rb w A n l) (hc : n ≤ c) (hn : n ≤ 1000000) :
    Calls Tryz.prog 20 #[.agg #[.slice A n c, .bool s], .int .u8 (base.toNat : Int)] w (RetS w (fmtV ⟨l, s⟩ base)) := by
  have hl := h.len
  have HD := fun (u : World) (hu : Below w.heap.size w u) => digits_any A n c s l base u (E.step hu) (h.step hu) hc
  by_cases he : (digV ⟨l, s⟩ base).2 = 0
  · have hck : chk l = 0 := by
      unfold digV at he
      by_cases e : chk l = 0
      · exact e
      · rw [if_neg e] at he; exact he
    have hok := (chk_ok l).1 hck
    have hol := ok_len hok
    have h4 := bits4_ok h.2.1 hok
    cases hz : bszC base with
    | none => unfold digV at he; rw [if_pos hck, hz] at he; cases he
    | some bits =>
      have e1 : digV ⟨l, s⟩ base = (digB bits ⟨l, s⟩, 0) := by unfold digV; rw [if_pos hck, hz]
      rw [e1] at HD
      rw [fmt_again (v := ⟨l, s⟩) hok hck h4 hz]
      have hsh := litT_short (v := ⟨l, s⟩) hok hz
      simp only at hsh ⊢
      have HI := fun (u : World) (hu : Below w.heap.size w u) => itoa_any n u (E.step hu) (by omega)
      have HP := fun (u : World) (hu : Below w.heap.size w u) => parse_any (litT l.length s base (digB bits ⟨l, s⟩)) 0 u (E.step hu)
      have HS := fun (A3 : Option Addr) (k3 c3 : Nat) (u : World) (hu : Below w.heap.size w u) (hr : Rb u A3 k3 (prsV (litT l.length s base (digB bits ⟨l, s⟩)) 0).1.l) (hk : k3 ≤ 1000) => same_v A3 A k3 n c3 c (prsV (litT l.length s base (digB bits ⟨l, s⟩)) 0).1.s s _ l u hr (h.step hu) (by omega) hn
      generalize prsV (litT l.length s base (digB bits ⟨l, s⟩)) 0 = P at *
      obtain ⟨y, nn, er⟩ := P
      simp only at HP HS ⊢
      generalize sameV y ⟨l, s⟩ = q at *
      rw [hl] at hsh HP ⊢
      generalize digB bits ⟨l, s⟩ = D at *
      have hlt := litT_len n s base D
      rcases base_of hz with rfl | rfl | rfl | rfl
      all_goals cases s
      all_goals simp only [List.length_append, List.length_cons, List.length_nil, if_true, if_false, Bool.false_eq_true] at hlt
      · exact fmt_98u A n c w D (decL n) (decL n ++ [39]) (decL n ++ [39] ++ [98]) _ y nn er q HD HI (str_app _ [39]) (str_app _ [98]) (by rw [str_app]; congr 1; simp [litT]) (by omega) (by simp; omega) (by simp; omega) HP HS _ rfl
      · exact fmt_98s A n c w D (decL n) (decL n ++ [39]) (decL n ++ [39] ++ [115, 98]) _ y nn er q HD HI (str_app _ [39]) (str_app _ [115, 98]) (by rw [str_app]; congr 1; simp [litT]) (by omega) (by simp; omega) (by simp; omega) HP HS _ rfl
      · exact fmt_111u A n c w D (decL n) (decL n ++ [39]) (decL n ++ [39] ++ [111]) _ y nn er q HD HI (str_app _ [39]) (str_app _ [111]) (by rw [str_app]; congr 1; simp [litT]) (by omega) (by simp; omega) (by simp; omega) HP HS _ rfl
      · exact fmt_111s A n c w D (decL n) (decL n ++ [39]) (decL n ++ [39] ++ [115, 111]) _ y nn er q HD HI (str_app _ [39]) (str_app _ [115, 111]) (by rw [str_app]; congr 1; simp [litT]) (by omega) (by simp; omega) (by simp; omega) HP HS _ rfl
      · exact fmt_100u A n c w D (decL n) (decL n ++ [39]) (decL n ++ [39] ++ [100]) _ y nn er q HD HI (str_app _ [39]) (str_app _ [100]) (by rw [str_app]; congr 1; simp [litT]) (by omega) (by simp; omega) (by simp; omega) HP HS _ rfl
      · exact fmt_100s A n c w D (decL n) (decL n ++ [39]) (decL n ++ [39] ++ [115, 100]) _ y nn er q HD HI (str_app _ [39]) (str_app _ [115, 100]) (by rw [str_app]; congr 1; simp [litT]) (by omega) (by simp; omega) (by simp; omega) HP HS _ rfl
      · exact fmt_104u A n c w D (decL n) (decL n ++ [39]) (decL n ++ [39] ++ [104]) _ y nn er q HD HI (str_app _ [39]) (str_app _ [104]) (by rw [str_app]; congr 1; simp [litT]) (by omega) (by simp; omega) (by simp; omega) HP HS _ rfl
      · exact fmt_104s A n c w D (decL n) (decL n ++ [39]) (decL n ++ [39] ++ [115, 104]) _ y nn er q HD HI (str_app _ [39]) (str_app _ [115, 104]) (by rw [str_app]; congr 1; simp [litT]) (by omega) (by simp; omega) (by simp; omega) HP HS _ rfl
  · have e2 : fmtV ⟨l, s⟩ base = ([], (digV ⟨l, s⟩ base).2) := by unfold fmtV; rw [if_neg he]
    rw [e2]
    exact fmt_err A n c s _ _ _ w HD he
end Go.Proofs.YtgojnpblhfbdpaaGreatDoor

