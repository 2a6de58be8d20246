/-
  Slices of Booleans as numbers: 'Rd' (a slice that reads as the bits of a number), 'Nw' (such a slice in a row of the call's own), and the laws of make and append in these words. No conditions.
-/
import Derived.Test.YtaedfoblniadfaaProg
import Derived.Test.YtaedfoblniadfaaLib
import Derived.Test.YtaedfoblniadfaaBvM
import Derived.Maps.AppendAt
import Derived.Laws.MakeOwn
import Derived.Deep.OwnRows
import Derived.Laws.CopyOwn
import Derived.Laws.AppendOwnNone
namespace Go.Proofs.Ytaedfoblniadfaa
open Go Go.RowKit

/-- The lowest n bits of x as cells. -/
def bl (n x : Nat) : List Value := (List.range n).map fun i => .bool (x.testBit i)
def ba (n x : Nat) : Array Value := (bl n x).toArray
theorem bl_length (n x : Nat) : (bl n x).length = n := by simp [bl]
theorem ba_size (n x : Nat) : (ba n x).size = n := by simp [ba, bl_length]
theorem bl_get (n x i : Nat) (h : i < n) : (bl n x)[i]? = some (.bool (x.testBit i)) := by simp [bl, h]
theorem ba_get (n x i : Nat) (h : i < n) : (ba n x)[i]? = some (.bool (x.testBit i)) := by simp [ba, bl, h]
theorem bl_congr {n x y : Nat} (h : ∀ i, i < n → x.testBit i = y.testBit i) : bl n x = bl n y := by
  unfold bl; exact List.map_congr_left fun i hi => by rw [h i (by simpa using hi)]
theorem bl_one (n x : Nat) : ∀ u ∈ bl n x, u.oneCell' = true := fun u hu => by
  simp only [bl, List.mem_map] at hu; obtain ⟨i, _, rfl⟩ := hu; rfl
theorem bl_cat {n m x y : Nat} (h : x < 2 ^ n) : bl n x ++ bl m y = bl (n + m) (x + 2 ^ n * y) := by
  apply List.ext_getElem?
  intro i
  by_cases hi : i < n
  · rw [List.getElem?_append_left (by rw [bl_length]; exact hi), bl_get _ _ _ hi, bl_get _ _ _ (by omega), Nat.add_comm, Nat.testBit_two_pow_mul_add _ h, if_pos hi]
  · rw [List.getElem?_append_right (by rw [bl_length]; omega), bl_length]
    by_cases h2 : i < n + m
    · rw [bl_get _ _ _ (by omega), bl_get _ _ _ h2, Nat.add_comm, Nat.testBit_two_pow_mul_add _ h, if_neg hi]
    · rw [List.getElem?_eq_none (by rw [bl_length]; omega), List.getElem?_eq_none (by rw [bl_length]; omega)]
theorem cat_lt {n m x y : Nat} (h : x < 2 ^ n) (k : y < 2 ^ m) : x + 2 ^ n * y < 2 ^ (n + m) := by
  rw [Nat.pow_add]
  calc x + 2 ^ n * y < 2 ^ n + 2 ^ n * y := by omega
    _ = 2 ^ n * (y + 1) := by rw [Nat.mul_add]; omega
    _ ≤ 2 ^ n * 2 ^ m := Nat.mul_le_mul_left _ k
theorem bl_single (b : Bool) : [Value.bool b] = bl 1 b.toNat := by cases b <;> rfl
theorem toNat_lt (b : Bool) : b.toNat < 2 ^ 1 := by cases b <;> decide
theorem ba_set {n x p : Nat} (s : Bool) (_hp : p < n) : (ba n x).setIfInBounds p (.bool s) = ba n (setb x p s) := by
  apply Array.ext_getElem?
  intro i
  rw [Array.getElem?_setIfInBounds, ba_size]
  by_cases hi : p = i
  · subst hi; rw [if_pos rfl, if_pos _hp, ba_get _ _ _ _hp, setb_bit, if_pos rfl]
  · rw [if_neg hi]
    by_cases h2 : i < n
    · rw [ba_get _ _ _ h2, ba_get _ _ _ h2, setb_bit, if_neg (by omega)]
    · rw [Array.getElem?_eq_none (by rw [ba_size]; omega), Array.getElem?_eq_none (by rw [ba_size]; omega)]
theorem ba_made (n : Nat) : madeCells #[.bool false] n = ba n 0 := by
  apply Array.ext_getElem?
  intro i
  by_cases h2 : i < n
  · rw [ba_get _ _ _ h2]; simp [madeCells, h2, Nat.mod_one]
  · rw [Array.getElem?_eq_none (by rw [size_madeCells]; omega), Array.getElem?_eq_none (by rw [ba_size]; omega)]

/-- The slice at A of length n reads as the bits of x. -/
def Rd (w : World) (A : Option Addr) (n x : Nat) : Prop := x < 2 ^ n ∧ (0 < n → ∃ b o, A = some ⟨b, o, none⟩ ∧ b < w.heap.size ∧ ∀ i, i < n → w.cell? ⟨b, o + i, none⟩ = some (.bool (x.testBit i)))
/-- .. and lies in a row that was made behind block B. -/
def Nw (w : World) (B : Nat) (A : Option Addr) (n c x : Nat) : Prop := x < 2 ^ n ∧ w.ownsRow B 4 1 (.slice A n c) n (bl n x)

section
variable {w u W : World} {A : Option Addr} {n c x B g : Nat}
theorem Rd.lt (h : Rd w A n x) : x < 2 ^ n := h.1
theorem Rd.at_ {k : Nat} (h : Rd w A n x) (hk : k < n) : ∃ b o, A = some ⟨b, o, none⟩ ∧ b < w.heap.size ∧ w.cell? ⟨b, o + k, none⟩ = some (.bool (x.testBit k)) := by
  obtain ⟨b, o, e, hb, hc⟩ := h.2 (by omega)
  exact ⟨b, o, e, hb, hc k hk⟩
theorem Rd.step (h : Rd w A n x) (hb : Below w.heap.size w u) : Rd u A n x :=
  ⟨h.1, fun hn => by
    obtain ⟨b, o, e, hlt, hc⟩ := h.2 hn
    exact ⟨b, o, e, Nat.lt_of_lt_of_le hlt hb.size, fun i hi => (hb.cell (p := ⟨b, o + i, none⟩) hlt).trans (hc i hi)⟩⟩
theorem Rd.alloc (h : Rd w A n x) (o : Obj) : Rd (w.alloc o) A n x := h.step (below_new (Below.refl _ _) o)
theorem Rd.drewN (h : Rd w A n x) (k : Nat) : Rd (w.drewN k) A n x := h
theorem Rd.drew (h : Rd w A n x) : Rd w.drew A n x := h
theorem Rd.nil (w : World) : Rd w none 0 0 := ⟨by decide, fun h => absurd h (by decide)⟩
theorem Rd.of_own (h : Own w g 4 (ba n x)) (hx : x < 2 ^ n) : Rd w (some ⟨g, 0, none⟩) n x :=
  ⟨hx, fun _ => ⟨g, 0, rfl, h.lt, fun i hi => by rw [Nat.zero_add, h.cell i, ba_get _ _ _ hi]⟩⟩
theorem Nw.rd (h : Nw w B A n c x) : Rd w A n x := by
  refine ⟨h.1, fun hn => ?_⟩
  obtain ⟨g, cap, e, _, hlt⟩ := h.2.form hn
  simp only [Value.slice.injEq] at e
  obtain ⟨rfl, _, rfl⟩ := e
  exact ⟨g, 0, rfl, hlt, fun i hi => by rw [Nat.zero_add, h.2.cellAt i (by omega), bl_get _ _ _ hi]⟩
theorem Nw.le (h : Nw w B A n c x) : n ≤ c := by
  rcases h.2.2 with ⟨e, h0⟩ | ⟨g, cap, cur, e, _, _, hc, _⟩
  · omega
  · simp only [Value.slice.injEq] at e; omega
theorem Nw.mono {B' : Nat} (h : Nw w B A n c x) (hB : B' ≤ B) : Nw w B' A n c x :=
  ⟨h.1, h.2.1, h.2.2.imp id fun ⟨g, cap, cur, h1, h2, h3⟩ => ⟨g, cap, cur, h1, Nat.le_trans hB h2, h3⟩⟩
theorem Nw.step (h : Nw w B A n c x) (hb : Below w.heap.size w u) : Nw u B A n c x := by
  refine ⟨h.1, h.2.1, h.2.2.imp id fun ⟨g, cap, cur, h1, h2, h3, h4⟩ => ⟨g, cap, cur, h1, h2, ?_, h4⟩⟩
  exact (hb.block g (Array.getElem?_eq_some_iff.1 h3).1).trans h3
theorem Nw.alloc (h : Nw w B A n c x) (o : Obj) : Nw (w.alloc o) B A n c x := h.step (below_new (Below.refl _ _) o)
theorem Nw.drewN (h : Nw w B A n c x) (k : Nat) : Nw (w.drewN k) B A n c x := h
theorem Nw.nil (w : World) (B : Nat) : Nw w B none 0 0 0 := ⟨by decide, by simp [bl], .inl ⟨rfl, rfl⟩⟩
theorem Nw.of_own (h : Own w g 4 (ba n x)) (hx : x < 2 ^ n) (hB : B ≤ g) (hn : n ≤ maxLen) : Nw w B (some ⟨g, 0, none⟩) n n x :=
  ⟨hx, by simp [bl_length], .inr ⟨g, n, ba n x, rfl, hB, h, Nat.le_refl _, hn, by simp [ba_size], by simp [ba, bl_length, List.take_of_length_le]⟩⟩
theorem Nw.empty (h : Own w g 4 #[]) (hB : B ≤ g) : Nw w B (some ⟨g, 0, none⟩) 0 0 0 := Nw.of_own (n := 0) (x := 0) h (by decide) hB (by decide)
end

/-- What a call leaves that returns a vector of its own, n wide, of value x. -/
def RetN (w : World) (n x : Nat) (e : Ending) (w' : World) : Prop := ∃ A c, e = .returned (.slice A n c) ∧ Nw w' w.heap.size A n c x ∧ Below w.heap.size w w'

theorem bool_info : (Try.prog.info? 4).map (fun i => (i.zero, i.size, i.bytes)) = some (some (.bool false), 1, 1) := by kernel_rfl
theorem run_makeB (n : Nat) (hn : n ≤ 1000000) (w : World) :
    (Instr.makeSlice 22 (.int .i64 (n : Int)) (.int .i64 (n : Int))).run Try.prog w = .ok (.slice (some ⟨w.heap.size, 0, none⟩) n n) (w.alloc (.cells (ba n 0) 4)) := by
  rw [← ba_made]
  exact run_make_row' _ _ _ 1 Try.underlying22 bool_info rfl _ _ n (by omega) (by omega) w

section
variable {w W : World} {B : Nat}
theorem grown_own {A : Option Addr} {n c x : Nat} {w' : World} (hv : Nw w W.heap.size A n c x) (hg : w.grownBy w' (Value.slice A n c).ownBlock) (hb : Below W.heap.size W w) : Below W.heap.size W w' :=
  hb.grown hg hb.size fun k hk => (hv.2.lt k hk).1
/-- append(v, xs...) onto a row of the call's own. -/
theorem run_cat (hbase : B ≤ w.heap.size) {A : Option Addr} {n c x : Nat} (hv : Nw w B A n c x) {X : Option Addr} {m d y : Nat} (hx : Rd w X m y) (hn : n + m ≤ 1000000) :
    ∃ A' c' w', (Builtin.append_ #[22, 22] 22 #[.slice A n c, .slice X m d]).run Try.prog w = .ok (.slice A' (n + m) c') w' ∧ Nw w' B A' (n + m) c' (x + 2 ^ n * y) ∧ w.grownBy w' (Value.slice A n c).ownBlock := by
  obtain ⟨i, hi, hzz⟩ := Option.map_eq_some_iff.1 bool_info
  simp only [Prod.mk.injEq] at hzz
  obtain ⟨hz, hs, hby⟩ := hzz
  have hform : ∀ v' w', w'.ownsRow B 4 1 v' (n + m) (bl n x ++ bl m y) → ∃ A' c', v' = .slice A' (n + m) c' ∧ Nw w' B A' (n + m) c' (x + 2 ^ n * y) := by
    intro v' w' h
    rw [bl_cat hv.1] at h
    rcases h.2 with ⟨rfl, h0⟩ | ⟨g, cap, cur, rfl, _⟩
    · rw [h0] at h ⊢; exact ⟨_, _, rfl, by rw [← h0]; exact cat_lt hv.1 hx.1, h⟩
    · exact ⟨_, _, rfl, cat_lt hv.1 hx.1, h⟩
  rcases X with _ | ad
  · have hm : m = 0 := by
      rcases Nat.eq_zero_or_pos m with h0 | h0
      · exact h0
      · obtain ⟨b, o, h, _⟩ := hx.2 h0; cases h
    subst hm
    have hy : y = 0 := by have := hx.1; simpa using this
    subst hy
    refine ⟨A, c, w, ?_, by simpa using hv, World.grownBy.refl w _⟩
    rcases hv.2.2 with ⟨e, h0⟩ | ⟨g, cap, cur, e, _, hh, hnc, _⟩
    · simp only [Value.slice.injEq] at e
      obtain ⟨rfl, rfl, rfl⟩ := e
      simp [Builtin.append_, run_underlying Try.underlying22, sizeOf, typeInfo, hi, Builtin.lenOf, Builtin.firstCells]
    · simp only [Value.slice.injEq] at e
      obtain ⟨rfl, _, rfl⟩ := e
      simp [Builtin.append_, run_underlying Try.underlying22, sizeOf, typeInfo, hi, Builtin.lenOf, Builtin.firstCells, hnc, storeCells]
  · have hcells : ∀ j u, (bl m y)[j]? = some u → w.cell? (ad.add j) = some u := by
      intro j u hu
      have hj : j < m := by have := (List.getElem?_eq_some_iff.1 hu).1; rwa [bl_length] at this
      rw [bl_get _ _ _ hj] at hu
      obtain ⟨b, o, h, _, hc⟩ := hx.2 (by omega)
      injection h with h
      subst h
      have := hc j hj
      unfold Addr.add
      split
      · rename_i h0; subst h0; rw [← hu]; exact this
      · rw [← hu]; exact this
    obtain ⟨v', w', hrun, h2, h3, _, _⟩ := run_append_own_at (P := Try.prog) w B 22 22 4 i _ 1 1 Try.underlying22 hi hz hs hby rfl (by decide) _ n _ hv.2 ad m d (bl m y) (by simp [bl_length]) hcells (bl_one m y) (by unfold maxLen; omega) (by omega) hbase
    obtain ⟨A', c', rfl, h4⟩ := hform v' w' h2
    exact ⟨A', c', w', hrun, h4, h3⟩

theorem wpList_cat {ops : Array Oper} {rest : List Oper} {o : Oper} {a : Act} {Q : Exit → Act → World → Prop} (hgd : o.guard = none) (s x : Operand)
    (ho : o.op = .call { callee := .builtin .append, args := #[s, x], argTypes := #[22, 22] }) (hty : o.type = 22)
    (hb : Below W.heap.size W w) {A : Option Addr} {n c S : Nat} (hs : a.eval s = .slice A n c) (hv : Nw w W.heap.size A n c S) {X : Option Addr} {m d y : Nat} (hx : a.eval x = .slice X m d) (hr : Rd w X m y) (hn : n + m ≤ 1000000)
    (h : ∀ A' c' w', Nw w' W.heap.size A' (n + m) c' (S + 2 ^ n * y) → Below W.heap.size W w' → wpList Try.prog ops Q rest (a.put o.dst (.slice A' (n + m) c')) w') : wpList Try.prog ops Q (o :: rest) a w := by
  refine wpList_plain hgd fun K hK => ?_
  obtain ⟨A', c', w', hrun, h2, h3⟩ := run_cat (d := d) hb.size hv hr hn
  unfold Oper.wp execOp
  simp only [ho, hty, resolve, invoke, builtin, Sem.run_bind, Sem.run_pure, Result.andThen_ok, List.map_toArray, List.map_cons, List.map_nil, hs, hx, hrun]
  exact hK _ _ (h A' c' w' h2 (grown_own hv h3 hb))

/-- append(v, b), b in a cell of its own. -/
theorem wpList_push {ops : Array Oper} {rest : List Oper} {o : Oper} {a : Act} {Q : Exit → Act → World → Prop} (hgd : o.guard = none) (s x : Operand)
    (ho : o.op = .call { callee := .builtin .append, args := #[s, x], argTypes := #[22, 22] }) (hty : o.type = 22)
    (hb : Below W.heap.size W w) {A : Option Addr} {n c S : Nat} (hs : a.eval s = .slice A n c) (hv : Nw w W.heap.size A n c S) (H : Nat) (hH : w.heap.size = H) (b : Bool) (hx : a.eval x = .slice (some ⟨H, 0, none⟩) 1 1) (hn : n ≤ 100000)
    (h : ∀ A' c' w', Nw w' W.heap.size A' (n + 1) c' (S + 2 ^ n * b.toNat) → Below W.heap.size W w' → wpList Try.prog ops Q rest (a.put o.dst (.slice A' (n + 1) c')) w') : wpList Try.prog ops Q (o :: rest) a (w.alloc (.cells #[.bool b] 4)) := by
  subst hH
  have ho1 : Own (w.alloc (.cells #[.bool b] 4)) w.heap.size 4 (ba 1 b.toNat) := by
    have := Own.new w 4 #[.bool b]
    rwa [show (#[Value.bool b] : Array Value) = ba 1 b.toNat from by rw [ba, ← bl_single]] at this ⊢
  exact wpList_cat hgd s x ho hty (below_new hb _) hs (hv.alloc _) hx (Rd.of_own ho1 (toNat_lt b)) (by omega) h
end
end Go.Proofs.Ytaedfoblniadfaa
