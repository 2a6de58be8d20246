/-
  Slices of Booleans as numbers: 'Rd' (a slice that reads as the bits of a number), 'Nw' (such a slice in a row of the call's own), and the laws of make and append in these words. No conditions.
  Contracts of the small functions: a bit of a vector, the full adder and its maker, the sign, the limited distance, powers of two. Widths and indices up to a million.
  Contracts of the reference's functions on numbers: Fit, sum, minus, times, Trim. Widths up to some thousands.
  Contracts of the reference's functions on numbers: minus, times, Trim. Widths up to some thousands.
  Contracts of the program's sums: sum, Add, Sub, Neg. Widths up to some thousands.
  Contracts of the program's product and power. Widths up to some thousands.
-/
import Derived.Test.YtgojnpblhfbdpaaGreatDoorProg
import Derived.Test.YtgojnpblhfbdpaaGreatDoorQa
import Derived.Maps.AppendAt
import Derived.Laws.MakeOwn
import Derived.Deep.OwnRows
import Derived.Laws.CopyOwn
import Derived.Laws.AppendOwnNone
import Derived.Deep.RegionHeld3
import Derived.Deep.DrawnRows
import Derived.RegionTactic
import Derived.IntWalk
import Derived.Deep.RegionLaw

namespace Go.Proofs.YtgojnpblhfbdpaaGreatDoor.B
open Go Go.RowKit

/-- The lowest n bits of x as cells. -/
def bl (n x : Nat) : List Value := (List.range n).map fun i => .bool (x.testBit i)
def ba (n x : Nat) : Array Value := (bl n x).toArray
theorem bl_length (n x : Nat) : (bl n x).length = n := by simp [bl]
theorem ba_size (n x : Nat) : (ba n x).size = n := by simp [ba, bl_length]
theorem bl_get (n x i : Nat) (h : i < n) : (bl n x)[i]? = some (.bool (x.testBit i)) := by simp [bl, h]
theorem ba_get (n x i : Nat) (h : i < n) : (ba n x)[i]? = some (.bool (x.testBit i)) := by simp [ba, bl, h]
theorem bl_congr {n x y : Nat} (h : ∀ i, i < n → x.testBit i = y.testBit i) : bl n x = bl n y := by
  unfold bl; exact List.map_congr_left fun i hi => by rw [h i (by simpa using hi)]
theorem bl_one (n x : Nat) : ∀ u ∈ bl n x, u.oneCell' = true := fun u hu => by
  simp only [bl, List.mem_map] at hu; obtain ⟨i, _, rfl⟩ := hu; rfl
theorem bl_cat {n m x y : Nat} (h : x < 2 ^ n) : bl n x ++ bl m y = bl (n + m) (x + 2 ^ n * y) := by
  apply List.ext_getElem?
  intro i
  by_cases hi : i < n
  · rw [List.getElem?_append_left (by rw [bl_length]; exact hi), bl_get _ _ _ hi, bl_get _ _ _ (by omega), Nat.add_comm, Nat.testBit_two_pow_mul_add _ h, if_pos hi]
  · rw [List.getElem?_append_right (by rw [bl_length]; omega), bl_length]
    by_cases h2 : i < n + m
    · rw [bl_get _ _ _ (by omega), bl_get _ _ _ h2, Nat.add_comm, Nat.testBit_two_pow_mul_add _ h, if_neg hi]
    · rw [List.getElem?_eq_none (by rw [bl_length]; omega), List.getElem?_eq_none (by rw [bl_length]; omega)]
theorem cat_lt {n m x y : Nat} (h : x < 2 ^ n) (k : y < 2 ^ m) : x + 2 ^ n * y < 2 ^ (n + m) := by
  rw [Nat.pow_add]
  calc x + 2 ^ n * y < 2 ^ n + 2 ^ n * y := by omega
    _ = 2 ^ n * (y + 1) := by rw [Nat.mul_add]; omega
    _ ≤ 2 ^ n * 2 ^ m := Nat.mul_le_mul_left _ k
theorem bl_single (b : Bool) : [Value.bool b] = bl 1 b.toNat := by cases b <;> rfl
theorem toNat_lt (b : Bool) : b.toNat < 2 ^ 1 := by cases b <;> decide
theorem ba_set {n x p : Nat} (s : Bool) (_hp : p < n) : (ba n x).setIfInBounds p (.bool s) = ba n (setb x p s) := by
  apply Array.ext_getElem?
  intro i
  rw [Array.getElem?_setIfInBounds, ba_size]
  by_cases hi : p = i
  · subst hi; rw [if_pos rfl, if_pos _hp, ba_get _ _ _ _hp, setb_bit, if_pos rfl]
  · rw [if_neg hi]
    by_cases h2 : i < n
    · rw [ba_get _ _ _ h2, ba_get _ _ _ h2, setb_bit, if_neg (by omega)]
    · rw [Array.getElem?_eq_none (by rw [ba_size]; omega), Array.getElem?_eq_none (by rw [ba_size]; omega)]
theorem ba_made (n : Nat) : madeCells #[.bool false] n = ba n 0 := by
  apply Array.ext_getElem?
  intro i
  by_cases h2 : i < n
  · rw [ba_get _ _ _ h2]; simp [madeCells, h2, Nat.mod_one]
  · rw [Array.getElem?_eq_none (by rw [size_madeCells]; omega), Array.getElem?_eq_none (by rw [ba_size]; omega)]

/-- The slice at A of length n reads as the bits of x. -/
def Rd (w : World) (A : Option Addr) (n x : Nat) : Prop := x < 2 ^ n ∧ (0 < n → ∃ b o, A = some ⟨b, o, none⟩ ∧ b < w.heap.size ∧ ∀ i, i < n → w.cell? ⟨b, o + i, none⟩ = some (.bool (x.testBit i)))
/-- .. and lies in a row that was made behind block B. -/
def Nw (w : World) (B : Nat) (A : Option Addr) (n c x : Nat) : Prop := x < 2 ^ n ∧ w.ownsRow B 4 1 (.slice A n c) n (bl n x)

section
variable {w u W : World} {A : Option Addr} {n c x B g : Nat}
theorem Rd.lt (h : Rd w A n x) : x < 2 ^ n := h.1
theorem Rd.at_ {k : Nat} (h : Rd w A n x) (hk : k < n) : ∃ b o, A = some ⟨b, o, none⟩ ∧ b < w.heap.size ∧ w.cell? ⟨b, o + k, none⟩ = some (.bool (x.testBit k)) := by
  obtain ⟨b, o, e, hb, hc⟩ := h.2 (by omega)
  exact ⟨b, o, e, hb, hc k hk⟩
theorem Rd.step (h : Rd w A n x) (hb : Below w.heap.size w u) : Rd u A n x :=
  ⟨h.1, fun hn => by
    obtain ⟨b, o, e, hlt, hc⟩ := h.2 hn
    exact ⟨b, o, e, Nat.lt_of_lt_of_le hlt hb.size, fun i hi => (hb.cell (p := ⟨b, o + i, none⟩) hlt).trans (hc i hi)⟩⟩
theorem Rd.alloc (h : Rd w A n x) (o : Obj) : Rd (w.alloc o) A n x := h.step (below_new (Below.refl _ _) o)
theorem Rd.drewN (h : Rd w A n x) (k : Nat) : Rd (w.drewN k) A n x := h
theorem Rd.drew (h : Rd w A n x) : Rd w.drew A n x := h
theorem Rd.nil (w : World) : Rd w none 0 0 := ⟨by decide, fun h => absurd h (by decide)⟩
theorem Rd.of_own (h : Own w g 4 (ba n x)) (hx : x < 2 ^ n) : Rd w (some ⟨g, 0, none⟩) n x :=
  ⟨hx, fun _ => ⟨g, 0, rfl, h.lt, fun i hi => by rw [Nat.zero_add, h.cell i, ba_get _ _ _ hi]⟩⟩
theorem Nw.rd (h : Nw w B A n c x) : Rd w A n x := by
  refine ⟨h.1, fun hn => ?_⟩
  obtain ⟨g, cap, e, _, hlt⟩ := h.2.form hn
  simp only [Value.slice.injEq] at e
  obtain ⟨rfl, _, rfl⟩ := e
  exact ⟨g, 0, rfl, hlt, fun i hi => by rw [Nat.zero_add, h.2.cellAt i (by omega), bl_get _ _ _ hi]⟩
theorem Nw.le (h : Nw w B A n c x) : n ≤ c := by
  rcases h.2.2 with ⟨e, h0⟩ | ⟨g, cap, cur, e, _, _, hc, _⟩
  · omega
  · simp only [Value.slice.injEq] at e; omega
theorem Nw.mono {B' : Nat} (h : Nw w B A n c x) (hB : B' ≤ B) : Nw w B' A n c x :=
  ⟨h.1, h.2.1, h.2.2.imp id fun ⟨g, cap, cur, h1, h2, h3⟩ => ⟨g, cap, cur, h1, Nat.le_trans hB h2, h3⟩⟩
theorem Nw.step (h : Nw w B A n c x) (hb : Below w.heap.size w u) : Nw u B A n c x := by
  refine ⟨h.1, h.2.1, h.2.2.imp id fun ⟨g, cap, cur, h1, h2, h3, h4⟩ => ⟨g, cap, cur, h1, h2, ?_, h4⟩⟩
  exact (hb.block g (Array.getElem?_eq_some_iff.1 h3).1).trans h3
theorem Nw.alloc (h : Nw w B A n c x) (o : Obj) : Nw (w.alloc o) B A n c x := h.step (below_new (Below.refl _ _) o)
theorem Nw.drewN (h : Nw w B A n c x) (k : Nat) : Nw (w.drewN k) B A n c x := h
theorem Nw.nil (w : World) (B : Nat) : Nw w B none 0 0 0 := ⟨by decide, by simp [bl], .inl ⟨rfl, rfl⟩⟩
theorem Nw.of_own (h : Own w g 4 (ba n x)) (hx : x < 2 ^ n) (hB : B ≤ g) (hn : n ≤ maxLen) : Nw w B (some ⟨g, 0, none⟩) n n x :=
  ⟨hx, by simp [bl_length], .inr ⟨g, n, ba n x, rfl, hB, h, Nat.le_refl _, hn, by simp [ba_size], by simp [ba, bl_length, List.take_of_length_le]⟩⟩
theorem Nw.empty (h : Own w g 4 #[]) (hB : B ≤ g) : Nw w B (some ⟨g, 0, none⟩) 0 0 0 := Nw.of_own (n := 0) (x := 0) h (by decide) hB (by decide)
end

/-- What a call leaves that returns a vector of its own, n wide, of value x. -/
def RetN (w : World) (n x : Nat) (e : Ending) (w' : World) : Prop := ∃ A c, e = .returned (.slice A n c) ∧ Nw w' w.heap.size A n c x ∧ Below w.heap.size w w'

theorem bool_info : (Tryz.prog.info? 4).map (fun i => (i.zero, i.size, i.bytes)) = some (some (.bool false), 1, 1) := by kernel_rfl
theorem run_makeB (n : Nat) (hn : n ≤ 1000000) (w : World) :
    (Instr.makeSlice 75 (.int .i64 (n : Int)) (.int .i64 (n : Int))).run Tryz.prog w = .ok (.slice (some ⟨w.heap.size, 0, none⟩) n n) (w.alloc (.cells (ba n 0) 4)) := by
  rw [← ba_made]
  exact run_make_row' _ _ _ 1 Tryz.underlying75 bool_info rfl _ _ n (by omega) (by omega) w

section
variable {w W : World} {B : Nat}
theorem grown_own {A : Option Addr} {n c x : Nat} {w' : World} (hv : Nw w W.heap.size A n c x) (hg : w.grownBy w' (Value.slice A n c).ownBlock) (hb : Below W.heap.size W w) : Below W.heap.size W w' :=
  hb.grown hg hb.size fun k hk => (hv.2.lt k hk).1
/-- append(v, xs...) onto a row of the call's own. -/
theorem run_cat (hbase : B ≤ w.heap.size) {A : Option Addr} {n c x : Nat} (hv : Nw w B A n c x) {X : Option Addr} {m d y : Nat} (hx : Rd w X m y) (hn : n + m ≤ 1000000) :
    ∃ A' c' w', (Builtin.append_ #[75, 75] 75 #[.slice A n c, .slice X m d]).run Tryz.prog w = .ok (.slice A' (n + m) c') w' ∧ Nw w' B A' (n + m) c' (x + 2 ^ n * y) ∧ w.grownBy w' (Value.slice A n c).ownBlock := by
  obtain ⟨i, hi, hzz⟩ := Option.map_eq_some_iff.1 bool_info
  simp only [Prod.mk.injEq] at hzz
  obtain ⟨hz, hs, hby⟩ := hzz
  have hform : ∀ v' w', w'.ownsRow B 4 1 v' (n + m) (bl n x ++ bl m y) → ∃ A' c', v' = .slice A' (n + m) c' ∧ Nw w' B A' (n + m) c' (x + 2 ^ n * y) := by
    intro v' w' h
    rw [bl_cat hv.1] at h
    rcases h.2 with ⟨rfl, h0⟩ | ⟨g, cap, cur, rfl, _⟩
    · rw [h0] at h ⊢; exact ⟨_, _, rfl, by rw [← h0]; exact cat_lt hv.1 hx.1, h⟩
    · exact ⟨_, _, rfl, cat_lt hv.1 hx.1, h⟩
  rcases X with _ | ad
  · have hm : m = 0 := by
      rcases Nat.eq_zero_or_pos m with h0 | h0
      · exact h0
      · obtain ⟨b, o, h, _⟩ := hx.2 h0; cases h
    subst hm
    have hy : y = 0 := by have := hx.1; simpa using this
    subst hy
    refine ⟨A, c, w, ?_, by simpa using hv, World.grownBy.refl w _⟩
    rcases hv.2.2 with ⟨e, h0⟩ | ⟨g, cap, cur, e, _, hh, hnc, _⟩
    · simp only [Value.slice.injEq] at e
      obtain ⟨rfl, rfl, rfl⟩ := e
      simp [Builtin.append_, run_underlying Tryz.underlying75, sizeOf, typeInfo, hi, Builtin.lenOf, Builtin.firstCells]
    · simp only [Value.slice.injEq] at e
      obtain ⟨rfl, _, rfl⟩ := e
      simp [Builtin.append_, run_underlying Tryz.underlying75, sizeOf, typeInfo, hi, Builtin.lenOf, Builtin.firstCells, hnc, storeCells]
  · have hcells : ∀ j u, (bl m y)[j]? = some u → w.cell? (ad.add j) = some u := by
      intro j u hu
      have hj : j < m := by have := (List.getElem?_eq_some_iff.1 hu).1; rwa [bl_length] at this
      rw [bl_get _ _ _ hj] at hu
      obtain ⟨b, o, h, _, hc⟩ := hx.2 (by omega)
      obtain rfl := Option.some.inj h
      have := hc j hj
      unfold Addr.add
      split
      · rename_i h0; subst h0; rw [← hu]; exact this
      · rw [← hu]; exact this
    obtain ⟨v', w', hrun, h2, h3, _, _⟩ := run_append_own_at (P := Tryz.prog) w B 75 75 4 i _ 1 1 Tryz.underlying75 hi hz hs hby rfl (by decide) _ n _ hv.2 ad m d (bl m y) (by simp [bl_length]) hcells (bl_one m y) (by unfold maxLen; omega) (by omega) hbase
    obtain ⟨A', c', rfl, h4⟩ := hform v' w' h2
    exact ⟨A', c', w', hrun, h4, h3⟩

theorem wpList_cat {ops : Array Oper} {rest : List Oper} {o : Oper} {a : Act} {Q : Exit → Act → World → Prop} (hgd : o.guard = none) (s x : Operand)
    (ho : o.op = .call { callee := .builtin .append, args := #[s, x], argTypes := #[75, 75] }) (hty : o.type = 75)
    (hb : Below W.heap.size W w) {A : Option Addr} {n c S : Nat} (hs : a.eval s = .slice A n c) (hv : Nw w W.heap.size A n c S) {X : Option Addr} {m d y : Nat} (hx : a.eval x = .slice X m d) (hr : Rd w X m y) (hn : n + m ≤ 1000000)
    (h : ∀ A' c' w', Nw w' W.heap.size A' (n + m) c' (S + 2 ^ n * y) → Below W.heap.size W w' → wpList Tryz.prog ops Q rest (a.put o.dst (.slice A' (n + m) c')) w') : wpList Tryz.prog ops Q (o :: rest) a w := by
  refine wpList_plain hgd fun K hK => ?_
  obtain ⟨A', c', w', hrun, h2, h3⟩ := run_cat (d := d) hb.size hv hr hn
  unfold Oper.wp execOp
  simp only [ho, hty, resolve, invoke, builtin, Sem.run_bind, Sem.run_pure, Result.andThen_ok, List.map_toArray, List.map_cons, List.map_nil, hs, hx, hrun]
  exact hK _ _ (h A' c' w' h2 (grown_own hv h3 hb))

/-- append(v, b), b in a cell of its own. -/
theorem wpList_push {ops : Array Oper} {rest : List Oper} {o : Oper} {a : Act} {Q : Exit → Act → World → Prop} (hgd : o.guard = none) (s x : Operand)
    (ho : o.op = .call { callee := .builtin .append, args := #[s, x], argTypes := #[75, 75] }) (hty : o.type = 75)
    (hb : Below W.heap.size W w) {A : Option Addr} {n c S : Nat} (hs : a.eval s = .slice A n c) (hv : Nw w W.heap.size A n c S) (H : Nat) (hH : w.heap.size = H) (b : Bool) (hx : a.eval x = .slice (some ⟨H, 0, none⟩) 1 1) (hn : n ≤ 100000)
    (h : ∀ A' c' w', Nw w' W.heap.size A' (n + 1) c' (S + 2 ^ n * b.toNat) → Below W.heap.size W w' → wpList Tryz.prog ops Q rest (a.put o.dst (.slice A' (n + 1) c')) w') : wpList Tryz.prog ops Q (o :: rest) a (w.alloc (.cells #[.bool b] 4)) := by
  subst hH
  have ho1 : Own (w.alloc (.cells #[.bool b] 4)) w.heap.size 4 (ba 1 b.toNat) := by
    have := Own.new w 4 #[.bool b]
    rwa [show (#[Value.bool b] : Array Value) = ba 1 b.toNat from by rw [ba, ← bl_single]] at this ⊢
  exact wpList_cat hgd s x ho hty (below_new hb _) hs (hv.alloc _) hx (Rd.of_own ho1 (toNat_lt b)) (by omega) h
end

end Go.Proofs.YtgojnpblhfbdpaaGreatDoor.B

namespace Go.Proofs.YtgojnpblhfbdpaaGreatDoor.B
open Go Go.RowKit

theorem at_any (A : Option Addr) (n c x k : Nat) (fill : Bool) (w : World) (h : Rd w A n x) (_hn : n ≤ 1000000) (_hk : k ≤ 2000000) :
    Calls Tryz.prog 206 #[.slice A n c, .int .i64 k, .bool fill] w fun e w' => e = .returned (.bool (if k < n then x.testBit k else fill)) ∧ w = w' := by
  by_cases hlt : k < n
  · obtain ⟨b, o, rfl, hb, hc⟩ := h.at_ hlt
    rw [if_pos hlt]
    clear h
    go_enter Tryz.func206, Tryz.ntmps206
    go_wp2
    go_ret
    exact ⟨rfl, rfl⟩
  · rw [if_neg hlt]
    clear h
    go_enter Tryz.func206, Tryz.ntmps206
    go_wp2
    go_ret
    exact ⟨rfl, rfl⟩

theorem rAt_any (A : Option Addr) (n c x k : Nat) (w : World) (h : Rd w A n x) (_hn : n ≤ 1000000) (_hk : k ≤ 2000000) :
    Calls Tryz.prog 146 #[.slice A n c, .int .i64 k] w fun e w' => e = .returned (.bool (x.testBit k)) ∧ w = w' := by
  by_cases hlt : k < n
  · obtain ⟨b, o, rfl, hb, hc⟩ := h.at_ hlt
    clear h
    have d : decide ((k : Int) < n) = true := by simpa using hlt
    have d2 : decide ((0 : Int) ≤ k) = true := by simp
    go_enter Tryz.func146, Tryz.ntmps146
    go_wp2
    go_ret
    exact ⟨rfl, rfl⟩
  · have hz : x.testBit k = false := high_bit h.1 (by omega)
    rw [hz]
    clear h hz
    have d : decide ((k : Int) < n) = false := by simpa using hlt
    have d2 : decide ((0 : Int) ≤ k) = true := by simp
    go_enter Tryz.func146, Tryz.ntmps146
    go_wp2
    go_ret
    exact ⟨rfl, rfl⟩

theorem adder1_any (g : Nat) (x y c : Bool) (w : World) (h : Own w g 4 #[.bool c]) :
    Calls Tryz.prog 212 #[.bool x, .bool y, .pointer (some ⟨g, 0, none⟩)] w fun e w' => e = .returned (.bool ((x != y) != c)) ∧ w' = w.setCell ⟨g, 0, none⟩ (.bool (x && y || c && (x || y))) := by
  have hc := h.cell 0
  have hf := h.free 0
  have hlt := h.lt
  clear h
  cases x <;> cases y <;> cases c
  all_goals
    go_enter Tryz.func212, Tryz.ntmps212
    go_wp2
    go_ret
    exact ⟨rfl, rfl⟩

theorem adder_any (c : Bool) (w : World) :
    Calls Tryz.prog 189 #[.bool c] w fun e w' => e = .returned (.func (.func 212) #[] #[.pointer (some ⟨w.heap.size, 0, none⟩)]) ∧ w.alloc (.cells #[.bool c] 4) = w' := by
  go_enter Tryz.func189, Tryz.ntmps189
  go_wp2
  go_ret
  exact ⟨rfl, rfl⟩

def neg (n x : Nat) : Bool := x.testBit (n - 1)
theorem negative_any (A : Option Addr) (n c x : Nat) (w : World) (h : Rd w A n x) (hn : n ≤ 1000000) :
    Calls Tryz.prog 205 #[.slice A n c] w fun e w' => e = .returned (.bool (neg n x)) ∧ w = w' := by
  rcases Nat.eq_zero_or_pos n with h0 | h0
  · subst h0
    have hz : neg 0 x = false := high_bit h.1 (Nat.zero_le _)
    rw [hz]
    clear h hz
    go_enter Tryz.func205, Tryz.ntmps205
    go_wp2
    go_ret
    exact ⟨rfl, rfl⟩
  · obtain ⟨k, rfl⟩ : ∃ k, n = k + 1 := ⟨n - 1, by omega⟩
    obtain ⟨b, o, rfl, hb, hc⟩ := h.at_ (Nat.lt_succ_self k)
    have hz : neg (k + 1) x = x.testBit k := rfl
    rw [hz]
    clear h hz
    have d : decide ((0 : Int) < ((k + 1 : Nat) : Int)) = true := by simp
    go_enter Tryz.func205, Tryz.ntmps205
    go_wp2
    go_ret
    exact ⟨rfl, rfl⟩
theorem rNegative_any (A : Option Addr) (n c x : Nat) (w : World) (h : Rd w A n x) (hn : n ≤ 1000000) :
    Calls Tryz.prog 60 #[.slice A n c] w fun e w' => e = .returned (.bool (neg n x)) ∧ w = w' := by
  rcases Nat.eq_zero_or_pos n with h0 | h0
  · subst h0
    have hz : neg 0 x = false := high_bit h.1 (Nat.zero_le _)
    rw [hz]
    clear h hz
    go_enter Tryz.func60, Tryz.ntmps60
    go_wp2
    go_ret
    exact ⟨rfl, rfl⟩
  · obtain ⟨k, rfl⟩ : ∃ k, n = k + 1 := ⟨n - 1, by omega⟩
    obtain ⟨b, o, rfl, hb, hc⟩ := h.at_ (Nat.lt_succ_self k)
    have hz : neg (k + 1) x = x.testBit k := rfl
    rw [hz]
    clear h hz
    have d : decide ((0 : Int) < ((k + 1 : Nat) : Int)) = true := by simp
    go_enter Tryz.func60, Tryz.ntmps60
    go_wp2
    go_ret
    exact ⟨rfl, rfl⟩

def lim (m : Int) (n : Nat) : Nat := min m.toNat n
theorem power_any (n : Nat) (w : World) (hn : n ≤ 100000) : Calls Tryz.prog 107 #[.int .i64 n] w (RetN w (n + 1) (2 ^ n)) := by
  have hmk := fun W => run_makeB n (by omega) W
  go_enter Tryz.func107, Tryz.ntmps107
  go_wp2_with (at_builtin; refine wpList_push rfl (.tmp 4) (.tmp 5) rfl rfl (below_new (Below.refl _ _) _) rfl (Nw.of_own (Own.new w _ (ba n 0)) (pow_p n) (Nat.le_refl _) (by unfold maxLen; omega)) (w.heap.size + 1) (by simp) true rfl (by omega) ?_; intro A' c' w' hv hb)
  go_ret
  exact ⟨A', c', rfl, by simpa using hv, hb⟩

end Go.Proofs.YtgojnpblhfbdpaaGreatDoor.B

namespace Go.Proofs.YtgojnpblhfbdpaaGreatDoor.B
open Go Go.RowKit

theorem rFit_any (A : Option Addr) (n c x m : Nat) (w : World) (h : Rd w A n x) (hn : n ≤ 1000000) (hm : m ≤ 100000) :
    Calls Tryz.prog 118 #[.slice A n c, .int .i64 m] w (RetN w m (x % 2 ^ m)) := by
  go_enter Tryz.func118, Tryz.ntmps118
  go_wp2
  go_loopw [5, 6] (fun v i wr => ∃ k : Nat, k ≤ m ∧ i = .int .i64 k ∧ ∃ A' c', v = .slice A' k c' ∧ Nw wr w.heap.size A' k c' (x % 2 ^ k) ∧ Below w.heap.size w wr) (fun _ i _ => m - (intOf i).toNat)
  case atStart => exact ⟨0, Nat.zero_le _, rfl, none, 0, rfl, by rw [Nat.pow_zero, Nat.mod_one]; exact Nw.nil _ _, Below.refl _ _⟩
  case round =>
    obtain ⟨k, hk, rfl, A', c', rfl, hv, hb⟩ := hrel
    have hr := h.step hb
    by_cases hlt : k < m
    · go_wp2_with (first | (go_at_call 146; refine (rAt_any _ _ _ _ _ _ hr hn (by omega)).mono ?_; rintro e w1 ⟨rfl, rfl⟩) | (at_builtin; refine wpList_push rfl (.tmp 12) (.tmp 16) rfl rfl hb rfl hv _ rfl _ rfl (by omega) ?_; intro A1 c1 w1 hv1 hb1))
      go_roundw
      case rel => exact ⟨k + 1, by omega, by go_num, A1, c1, rfl, by rw [mod_step]; exact hv1, hb1⟩
      case measure => simp [intOf]; omega
    · obtain rfl : k = m := by omega
      go_wp2
      go_ret
      exact ⟨A', c', rfl, hv, hb⟩

def Cy (v : Value) (q : Nat) : Prop := (v = .int .i64 0 ∧ q = 0) ∨ (v = .int .i64 1 ∧ q = 1)
theorem Cy.zero : Cy (.int .i64 0) 0 := .inl ⟨rfl, rfl⟩
theorem Cy.one : Cy (.int .i64 1) 1 := .inr ⟨rfl, rfl⟩
def SumR (n m x y : Nat) (w : World) (v cy i : Value) (wr : World) : Prop :=
  ∃ k q : Nat, k ≤ max n m + 1 ∧ i = .int .i64 k ∧ Cy cy q ∧ (k ≤ max n m ∨ q = 0) ∧ ∃ A' c' S, v = .slice A' k c' ∧ Nw wr w.heap.size A' k c' S ∧ S + 2 ^ k * q = x % 2 ^ k + y % 2 ^ k ∧ Below w.heap.size w wr
theorem SumR.next {n m x y k q S : Nat} {w : World} (hx : x < 2 ^ n) (hy : y < 2 ^ m) (hk1 : k ≤ max n m) (hS : S + 2 ^ k * q = x % 2 ^ k + y % 2 ^ k) (b : Bool) (q' : Nat) (cv : Value) (A1 : Option Addr) (c1 : Nat) (w1 : World)
    (hv1 : Nw w1 w.heap.size A1 (k + 1) c1 (S + 2 ^ k * b.toNat)) (hb1 : Below w.heap.size w w1) (hc : Cy cv q') (he : b.toNat + 2 * q' = (x.testBit k).toNat + (y.testBit k).toNat + q) : SumR n m x y w (.slice A1 (k + 1) c1) cv (.int .i64 ((k : Int) + 1)) w1 := by
  have he' : (S + 2 ^ k * b.toNat) + 2 ^ (k + 1) * q' = x % 2 ^ (k + 1) + y % 2 ^ (k + 1) := by
    rw [mod_step, mod_step, pow_s]
    have := add_step (P := 2 ^ k) (C := 0) (by simpa using hS) he
    simpa using this
  refine ⟨k + 1, q', by omega, by go_num, hc, ?_, A1, c1, _, rfl, hv1, he', hb1⟩
  rcases Nat.lt_or_ge (max n m) (k + 1) with h1 | h1
  · right
    have e1 : x < 2 ^ k := Nat.lt_of_lt_of_le hx (Nat.pow_le_pow_right (by decide) (by omega))
    have e2 : y < 2 ^ k := Nat.lt_of_lt_of_le hy (Nat.pow_le_pow_right (by decide) (by omega))
    have := pow_s k
    rw [Nat.mod_eq_of_lt (by omega), Nat.mod_eq_of_lt (by omega)] at he'
    rcases Nat.eq_zero_or_pos q' with h0 | h0
    · exact h0
    · have := Nat.le_mul_of_pos_right (2 ^ (k + 1)) h0
      omega
  · exact .inl h1
set_option maxHeartbeats 2000000 in
theorem rsum_any (A B : Option Addr) (n c x m d y : Nat) (w : World) (h : Rd w A n x) (h' : Rd w B m y) (hn : n ≤ 10000) (hm : m ≤ 10000) :
    Calls Tryz.prog 119 #[.slice A n c, .slice B m d] w fun e w' => ∃ l, l ≤ max n m + 1 ∧ RetN w l (x + y) e w' := by
  go_enter Tryz.func119, Tryz.ntmps119
  go_wp2
  go_loopw [5, 6, 7] (fun v cy i wr => SumR n m x y w v cy i wr) (fun _ _ i _ => max n m + 1 - (intOf i).toNat)
  case atStart => exact ⟨0, 0, Nat.zero_le _, rfl, Cy.zero, by omega, none, 0, 0, rfl, Nw.nil _ _, by simp [Nat.mod_one], Below.refl _ _⟩
  case round =>
    obtain ⟨k, q, hk, rfl, hcy, hkq, A', c', S, rfl, hv, hS, hb⟩ := hrel
    have hr := h.step hb
    have hr' := h'.step hb
    by_cases hgo : k < n ∨ k < m ∨ 0 < q
    · have hk1 : k ≤ max n m := by omega
      have hfin := SumR.next (w := w) h.1 h'.1 hk1 hS
      obtain ⟨bx, hbx⟩ : ∃ b, b = x.testBit k := ⟨_, rfl⟩
      obtain ⟨bz, hbz⟩ : ∃ b, b = y.testBit k := ⟨_, rfl⟩
      have cA : Calls Tryz.prog 146 #[.slice A n c, .int .i64 k] wr (fun e w' => e = .returned (.bool bx) ∧ wr = w') := by rw [hbx]; exact rAt_any _ _ _ _ _ _ hr (by omega) (by omega)
      have cB : Calls Tryz.prog 146 #[.slice B m d, .int .i64 k] wr (fun e w' => e = .returned (.bool bz) ∧ wr = w') := by rw [hbz]; exact rAt_any _ _ _ _ _ _ hr' (by omega) (by omega)
      rw [← hbx, ← hbz] at hfin
      have hfin := Lib.hid hfin
      have hcA := Lib.hid cA
      have hcB := Lib.hid cB
      clear hbx hbz hkq cA cB hS
      have hg : (k < n) ∨ (¬ k < n ∧ k < m) ∨ (¬ k < n ∧ ¬ k < m ∧ q = 1) := by
        rcases hcy with ⟨_, rfl⟩ | ⟨_, rfl⟩ <;> omega
      clear hgo
      rcases hg with g1 | ⟨g1, g2⟩ | ⟨g1, g2, g3⟩
      · have d1 : decide ((k : Int) < n) = true := by simpa using g1
        rcases hcy with ⟨rfl, rfl⟩ | ⟨rfl, rfl⟩ <;> cases bx <;> cases bz
        all_goals
          go_wp2_with (first | (go_at_call 146; (first | (with_reducible refine hcA.out.mono ?_) | (with_reducible refine hcB.out.mono ?_)); rintro e w1 ⟨rfl, rfl⟩) | (at_builtin; refine wpList_push rfl (.tmp 36) (.tmp 40) rfl rfl hb rfl hv _ rfl _ rfl (by omega) ?_; intro A1 c1 w1 hv1 hb1))
          go_roundw
          case rel => exact hfin.out _ _ _ A1 c1 _ hv1 hb1 (by first | exact Cy.zero | exact Cy.one) rfl
          case measure => simp [intOf]; omega
      · have d1 : decide ((k : Int) < n) = false := by simpa using g1
        have d2 : decide ((k : Int) < m) = true := by simpa using g2
        rcases hcy with ⟨rfl, rfl⟩ | ⟨rfl, rfl⟩ <;> cases bx <;> cases bz
        all_goals
          go_wp2_with (first | (go_at_call 146; (first | (with_reducible refine hcA.out.mono ?_) | (with_reducible refine hcB.out.mono ?_)); rintro e w1 ⟨rfl, rfl⟩) | (at_builtin; refine wpList_push rfl (.tmp 36) (.tmp 40) rfl rfl hb rfl hv _ rfl _ rfl (by omega) ?_; intro A1 c1 w1 hv1 hb1))
          go_roundw
          case rel => exact hfin.out _ _ _ A1 c1 _ hv1 hb1 (by first | exact Cy.zero | exact Cy.one) rfl
          case measure => simp [intOf]; omega
      · subst g3
        rcases hcy with ⟨_, h0⟩ | ⟨rfl, _⟩
        · exact absurd h0 (by decide)
        have d1 : decide ((k : Int) < n) = false := by simpa using g1
        have d2 : decide ((k : Int) < m) = false := by simpa using g2
        cases bx <;> cases bz
        all_goals
          go_wp2_with (first | (go_at_call 146; (first | (with_reducible refine hcA.out.mono ?_) | (with_reducible refine hcB.out.mono ?_)); rintro e w1 ⟨rfl, rfl⟩) | (at_builtin; refine wpList_push rfl (.tmp 36) (.tmp 40) rfl rfl hb rfl hv _ rfl _ rfl (by omega) ?_; intro A1 c1 w1 hv1 hb1))
          go_roundw
          case rel => exact hfin.out _ _ _ A1 c1 _ hv1 hb1 (by first | exact Cy.zero | exact Cy.one) rfl
          case measure => simp [intOf]; omega
    · have hq0 : q = 0 := by omega
      subst hq0
      rcases hcy with ⟨rfl, _⟩ | ⟨_, h0⟩
      · have d1 : decide ((k : Int) < n) = false := by simp; omega
        have d2 : decide ((k : Int) < m) = false := by simp; omega
        have e1 : x % 2 ^ k = x := Nat.mod_eq_of_lt (Nat.lt_of_lt_of_le h.1 (Nat.pow_le_pow_right (by decide) (by omega)))
        have e2 : y % 2 ^ k = y := Nat.mod_eq_of_lt (Nat.lt_of_lt_of_le h'.1 (Nat.pow_le_pow_right (by decide) (by omega)))
        obtain rfl : S = x + y := by rw [e1, e2] at hS; simpa using hS
        clear e1 e2 hS
        go_wp2
        go_ret
        exact ⟨k, hk, A', c', rfl, hv, hb⟩
      · exact absurd h0 (by decide)

end Go.Proofs.YtgojnpblhfbdpaaGreatDoor.B

namespace Go.Proofs.YtgojnpblhfbdpaaGreatDoor.B
open Go Go.RowKit

def MinR (n x y : Nat) (w : World) (v br i : Value) (wr : World) : Prop :=
  ∃ k q : Nat, k ≤ n ∧ i = .int .i64 k ∧ Cy br q ∧ ∃ A' c' S, v = .slice A' k c' ∧ Nw wr w.heap.size A' k c' S ∧ S + y % 2 ^ k = x % 2 ^ k + 2 ^ k * q ∧ Below w.heap.size w wr
theorem MinR.next {n x y k q S : Nat} {w : World} (hk1 : k < n) (hS : S + y % 2 ^ k = x % 2 ^ k + 2 ^ k * q) (b : Bool) (q' : Nat) (cv : Value) (A1 : Option Addr) (c1 : Nat) (w1 : World)
    (hv1 : Nw w1 w.heap.size A1 (k + 1) c1 (S + 2 ^ k * b.toNat)) (hb1 : Below w.heap.size w w1) (hc : Cy cv q') (he : b.toNat + (y.testBit k).toNat + q = (x.testBit k).toNat + 2 * q') : MinR n x y w (.slice A1 (k + 1) c1) cv (.int .i64 ((k : Int) + 1)) w1 := by
  have he' : (S + 2 ^ k * b.toNat) + y % 2 ^ (k + 1) = x % 2 ^ (k + 1) + 2 ^ (k + 1) * q' := by
    rw [mod_step, mod_step, pow_s]
    have : 2 ^ k * b.toNat + 2 ^ k * (y.testBit k).toNat + 2 ^ k * q = 2 ^ k * (x.testBit k).toNat + 2 * 2 ^ k * q' := by
      rw [← Nat.mul_add, ← Nat.mul_add, he, Nat.mul_add, Nat.mul_comm 2 (2 ^ k), Nat.mul_assoc]
    omega
  exact ⟨k + 1, q', by omega, by go_num, hc, A1, c1, _, rfl, hv1, he', hb1⟩
set_option maxHeartbeats 2000000 in
theorem minus_any (A B : Option Addr) (n c x m d y : Nat) (w : World) (h : Rd w A n x) (h' : Rd w B m y) (hn : n ≤ 10000) (hm : m ≤ 10000) (hle : y ≤ x) :
    Calls Tryz.prog 106 #[.slice A n c, .slice B m d] w (RetN w n (x - y)) := by
  go_enter Tryz.func106, Tryz.ntmps106
  go_wp2
  go_loopw [5, 6, 7] (fun v cy i wr => MinR n x y w v cy i wr) (fun _ _ i _ => n - (intOf i).toNat)
  case atStart => exact ⟨0, 0, Nat.zero_le _, rfl, Cy.zero, none, 0, 0, rfl, Nw.nil _ _, by simp [Nat.mod_one], Below.refl _ _⟩
  case round =>
    obtain ⟨k, q, hk, rfl, hcy, A', c', S, rfl, hv, hS, hb⟩ := hrel
    have hr := h.step hb
    have hr' := h'.step hb
    by_cases g1 : k < n
    · have hfin := MinR.next (w := w) g1 hS
      obtain ⟨bx, hbx⟩ : ∃ b, b = x.testBit k := ⟨_, rfl⟩
      obtain ⟨bz, hbz⟩ : ∃ b, b = y.testBit k := ⟨_, rfl⟩
      obtain ⟨ab, ao, rfl, hlt, hcell⟩ := hr.at_ g1
      have cB : Calls Tryz.prog 146 #[.slice B m d, .int .i64 k] wr (fun e w' => e = .returned (.bool bz) ∧ wr = w') := by rw [hbz]; exact rAt_any _ _ _ _ _ _ hr' (by omega) (by omega)
      rw [← hbx, ← hbz] at hfin
      rw [← hbx] at hcell
      have hfin := Lib.hid hfin
      have hcB := Lib.hid cB
      clear hbx hbz cB hS h h' hr hr' hle
      have d1 : decide ((k : Int) < n) = true := by simpa using g1
      rcases hcy with ⟨rfl, rfl⟩ | ⟨rfl, rfl⟩ <;> cases bx <;> cases bz
      all_goals
        go_wp2_with (first | (go_at_call 146; (with_reducible refine hcB.out.mono ?_); rintro e w1 ⟨rfl, rfl⟩) | (at_builtin; refine wpList_push rfl (.tmp 32) (.tmp 35) rfl rfl hb rfl hv _ rfl _ rfl (by omega) ?_; intro A1 c1 w1 hv1 hb1))
        go_roundw
        case rel => exact hfin.out _ _ _ A1 c1 _ hv1 hb1 (by first | exact Cy.zero | exact Cy.one) rfl
        case measure => simp [intOf]; omega
    · obtain rfl : k = n := by omega
      have hy : y < 2 ^ k := Nat.lt_of_le_of_lt hle h.1
      rw [Nat.mod_eq_of_lt hy, Nat.mod_eq_of_lt h.1] at hS
      obtain rfl : S = x - y := by
        have := hv.1
        rcases hcy with ⟨_, rfl⟩ | ⟨_, rfl⟩
        · rw [Nat.mul_zero] at hS; omega
        · rw [Nat.mul_one] at hS; omega
      have hcy := Lib.hid hcy
      clear hS hy hle
      go_wp2
      go_ret
      exact ⟨A', c', rfl, hv, hb⟩

def TimR (n m x y : Nat) (w : World) (v i : Value) (wr : World) : Prop :=
  ∃ k l : Nat, k ≤ m ∧ i = .int .i64 k ∧ l ≤ n + k ∧ ∃ A' c', v = .slice A' l c' ∧ Nw wr w.heap.size A' l c' (x * (y % 2 ^ k)) ∧ Below w.heap.size w wr
theorem times_any (A B : Option Addr) (n c x m d y : Nat) (w : World) (h : Rd w A n x) (h' : Rd w B m y) (hn : n ≤ 2000) (hm : m ≤ 2000) :
    Calls Tryz.prog 120 #[.slice A n c, .slice B m d] w fun e w' => ∃ l, l ≤ n + m ∧ RetN w l (x * y) e w' := by
  go_enter Tryz.func120, Tryz.ntmps120
  go_wp2
  go_loopw [5, 6] (fun v i wr => TimR n m x y w v i wr) (fun _ i _ => m - (intOf i).toNat)
  case atStart => exact ⟨0, 0, Nat.zero_le _, rfl, Nat.zero_le _, none, 0, rfl, by rw [Nat.pow_zero, Nat.mod_one, Nat.mul_zero]; exact Nw.nil _ _, Below.refl _ _⟩
  case round =>
    obtain ⟨k, l, hk, rfl, hl, A', c', rfl, hv, hb⟩ := hrel
    have hr := h.step hb
    have hr' := h'.step hb
    by_cases g1 : k < m
    · obtain ⟨ab, ao, rfl, hlt, hcell⟩ := hr'.at_ g1
      have d1 : decide ((k : Int) < m) = true := by simpa using g1
      rcases hbz : y.testBit k with _ | _
      · rw [hbz] at hcell
        have e : y % 2 ^ (k + 1) = y % 2 ^ k := by rw [mod_step, hbz]; simp
        have hv2 : Nw wr w.heap.size A' l c' (x * (y % 2 ^ (k + 1))) := by rw [e]; exact hv
        have hv := hv2
        clear e hbz h h' hr hr'
        go_wp2
        go_roundw
        case rel => exact ⟨k + 1, l, by omega, by go_num, by omega, A', c', rfl, hv, hb⟩
        case measure => simp [intOf]; omega
      · rw [hbz] at hcell
        have e : x * (y % 2 ^ (k + 1)) = x * (y % 2 ^ k) + (0 + 2 ^ k * x) := by rw [mod_step, hbz, Nat.mul_add, Nat.mul_comm (2 ^ k) x]; simp
        have e := Lib.hid e
        have hmk := fun W => run_makeB k (by omega) W
        clear hbz h h' hr'
        have hn1 : n ≤ 1000000 := by omega
        go_wp2_with (first | (at_builtin; refine wpList_cat rfl (.tmp 19) (.tmp 20) rfl rfl (below_new (Below.refl _ _) _) rfl (Nw.of_own (Own.new wr _ (ba k 0)) (pow_p k) (Nat.le_refl _) (by unfold maxLen; omega)) rfl (hr.alloc _) (by omega) ?_; intro A1 c1 w1 hv1 hb1) | (go_at_call 119; refine (rsum_any _ _ _ _ _ _ _ _ _ (hv.rd.step hb1) hv1.rd (by omega) (by omega)).mono ?_; rintro e2 w2 ⟨l2, hl2, A2, c2, rfl, hv2, hb2⟩))
        go_roundw
        case rel => exact ⟨k + 1, l2, by omega, by go_num, by omega, A2, c2, rfl, by rw [e.out]; exact hv2.mono (Nat.le_trans hb.size hb1.size), below_step (below_step hb hb1) hb2⟩
        case measure => simp [intOf]; omega
    · obtain rfl : k = m := by omega
      rw [Nat.mod_eq_of_lt h'.1] at hv
      have d1 : decide ((k : Int) < k) = false := by simp
      go_wp2
      go_ret
      exact ⟨l, hl, A', c', rfl, hv, hb⟩

/-- The number of bits of x. -/
def Tr (n x : Nat) : Prop := n = 0 ∨ x.testBit (n - 1) = true
theorem Trim_any (A : Option Addr) (n c x : Nat) (w : World) (h : Rd w A n x) (hn : n ≤ 10000) (hc : n ≤ c) :
    Calls Tryz.prog 97 #[.slice A n c] w fun e w' => ∃ l, l ≤ n ∧ Tr l x ∧ RetN w l x e w' := by
  go_enter Tryz.func97, Tryz.ntmps97
  go_wp2
  go_loop [3] (fun i => ∃ k : Nat, k ≤ n ∧ i = .int .i64 k ∧ x < 2 ^ k) (fun i => (intOf i).toNat)
  case atStart => exact ⟨n, Nat.le_refl _, rfl, h.1⟩
  case round =>
    obtain ⟨k, hk, rfl, hx⟩ := hrel
    rcases Nat.eq_zero_or_pos k with rfl | hpos
    · obtain rfl : x = 0 := by simpa using hx
      have h0 : Rd w A 0 0 := ⟨by decide, fun h => absurd h (by decide)⟩
      clear hx h
      go_wp2_with (at_builtin; refine wpList_cat rfl (.tmp 18) (.tmp 21) rfl rfl (below_new (Below.refl _ _) _) rfl (Nw.empty (Own.new w _ #[]) (Nat.le_refl _)) rfl (h0.alloc _) (by omega) ?_; intro A1 c1 w1 hv1 hb1)
      go_ret
      exact ⟨0, Nat.zero_le _, .inl rfl, A1, c1, by simp, by simpa using hv1, hb1⟩
    · obtain ⟨j, rfl⟩ : ∃ j, k = j + 1 := ⟨k - 1, by omega⟩
      obtain ⟨ab, ao, rfl, hlt, hcell⟩ := h.at_ (k := j) (by omega)
      have d1 : decide ((0 : Int) < ((j + 1 : Nat) : Int)) = true := by simp
      rcases hbz : x.testBit j with _ | _
      · rw [hbz] at hcell
        have hx2 : x < 2 ^ j := lt_of_bits fun i hi => by
          rcases Nat.lt_or_ge j i with h1 | h1
          · exact high_bit hx h1
          · obtain rfl : i = j := by omega
            exact hbz
        clear hbz
        go_wp2
        go_round
        case rel => exact ⟨j, by omega, by go_num, hx2⟩
        case measure => simp [intOf]
      · rw [hbz] at hcell
        have h1 : Rd w (some ⟨ab, ao, none⟩) (j + 1) x := ⟨hx, fun _ => by
          obtain ⟨b2, o2, e2, l2, c2⟩ := h.2 (by omega)
          exact ⟨b2, o2, e2, l2, fun i hi => c2 i (by omega)⟩⟩
        have hbz := Lib.hid hbz
        clear h hx
        go_wp2_with (at_builtin; refine wpList_cat rfl (.tmp 18) (.tmp 21) rfl rfl (below_new (Below.refl _ _) _) rfl (Nw.empty (Own.new w _ #[]) (Nat.le_refl _)) rfl (h1.alloc _) (by omega) ?_; intro A1 c1 w1 hv1 hb1)
        go_ret
        exact ⟨j + 1, hk, .inr hbz.out, A1, c1, by simp, by simpa using hv1, hb1⟩

end Go.Proofs.YtgojnpblhfbdpaaGreatDoor.B

namespace Go.Proofs.YtgojnpblhfbdpaaGreatDoor.B
open Go Go.RowKit
attribute [local go_sem ↓] Go.wp_at_zero Go.wp_at_succ

/-- The lowest k bits of the second operand as the adder takes them. -/
def yv (y : Nat) (minus : Bool) (k : Nat) : Nat := if minus then 2 ^ k - 1 - y % 2 ^ k else y % 2 ^ k
theorem yv_step (y : Nat) (minus : Bool) (k : Nat) : yv y minus (k + 1) = yv y minus k + 2 ^ k * (y.testBit k != minus).toNat := by
  unfold yv
  have h := mod_step y k
  have hl := mod_lt' y k
  have hp := pow_s k
  cases minus
  · simp [h]
  · rw [if_pos rfl, if_pos rfl]
    rcases hb : y.testBit k with _ | _ <;> rw [hb] at h
    · show _ = _ + 2 ^ k * 1
      simp only [Bool.toNat_false, Nat.mul_zero, Nat.add_zero] at h
      omega
    · show _ = _ + 2 ^ k * 0
      simp only [Bool.toNat_true, Nat.mul_one] at h
      omega
def sumv (n x y : Nat) (minus : Bool) : Nat := if minus then (x + (2 ^ n - y % 2 ^ n)) % 2 ^ n else (x + y) % 2 ^ n
theorem sumv_of {n x y S q : Nat} {minus : Bool} (hS : S + 2 ^ n * q = x % 2 ^ n + yv y minus n + minus.toNat) (hx : x < 2 ^ n) (hl : S < 2 ^ n) : S = sumv n x y minus := by
  rw [Nat.mod_eq_of_lt hx] at hS
  have h1 := sum_mod hS hl
  have := mod_lt' y n
  unfold sumv
  cases minus
  · simpa [yv] using h1
  · rw [if_pos rfl, h1]
    congr 1
    simp only [yv, if_true, Bool.toNat_true]
    omega
def SumQ (n x y : Nat) (minus : Bool) (w : World) (i : Value) (wr : World) : Prop :=
  ∃ (k : Nat) (q : Bool) (S : Nat), k ≤ n ∧ i = .int .i64 k ∧ Own wr w.heap.size 4 #[.bool q] ∧ Own wr (w.heap.size + 1) 4 (ba n S) ∧ S < 2 ^ k ∧ S + 2 ^ k * q.toNat = x % 2 ^ k + yv y minus k + minus.toNat ∧ Below w.heap.size w wr
theorem below_drew {B : Nat} {a w : World} (h : Below B a w) : Below B a w.drew := ⟨h.os, h.tape, h.output, h.size, h.block⟩
theorem SumQ.next {n x y k S : Nat} {minus q bx t : Bool} {w wr : World} (hk : k < n) (O1 : Own wr w.heap.size 4 #[.bool q]) (O2 : Own wr (w.heap.size + 1) 4 (ba n S)) (hb : Below w.heap.size w wr) (hSk : S < 2 ^ k)
    (hS : S + 2 ^ k * q.toNat = x % 2 ^ k + yv y minus k + minus.toNat) (hx : bx = x.testBit k) (ht : t = y.testBit k) (s q' : Bool) (he : s.toNat + 2 * q'.toNat = bx.toNat + (t != minus).toNat + q.toNat) :
    SumQ n x y minus w (.int .i64 ((k : Int) + 1)) ((wr.setCell ⟨w.heap.size, 0, none⟩ (.bool q')).setCell ⟨w.heap.size + 1, k, none⟩ (.bool s)).drew := by
  have o2 := (O2.far (p := ⟨w.heap.size, 0, none⟩) (by simp) (.bool q')).put k (.bool s)
  rw [ba_set s hk, setb_new hSk] at o2
  refine ⟨k + 1, q', _, by omega, by go_num, (O1.put 0 (.bool q')).far (p := ⟨w.heap.size + 1, k, none⟩) (by simp) (.bool s), o2, add_bit_lt s hSk, ?_, below_drew (below_set (below_set hb (Nat.le_refl _) _) (Nat.le_succ _) _)⟩
  rw [mod_step, yv_step, ← hx, ← ht, pow_s]
  exact add_step hS he
/-- .. in a block made for it, and no longer. -/
def RetO (w : World) (n x : Nat) (e : Ending) (w' : World) : Prop := ∃ g, e = .returned (.slice (some ⟨g, 0, none⟩) n n) ∧ Own w' g 4 (ba n x) ∧ w.heap.size ≤ g ∧ x < 2 ^ n ∧ Below w.heap.size w w'
theorem RetO.retN {w w' : World} {n x : Nat} {e : Ending} (hn : n ≤ 1000000) (h : RetO w n x e w') : RetN w n x e w' := by
  obtain ⟨g, he, o, hg, hx, hb⟩ := h
  exact ⟨_, _, he, Nw.of_own o hx hg (by unfold maxLen; omega), hb⟩
set_option maxHeartbeats 1000000 in
theorem sum_any (A B : Option Addr) (n c x m d y : Nat) (minus : Bool) (w : World) (h : Rd w A n x) (h' : Rd w B m y) (hn : n ≤ 10000) (hm : m ≤ 10000) :
    Calls Tryz.prog 181 #[.slice A n c, .slice B m d, .bool minus] w (RetO w n (sumv n x y minus)) := by
  have hmk := fun W => run_makeB n (by omega) W
  go_enter Tryz.func181, Tryz.ntmps181
  go_wp2_with (go_at_call 189; refine (adder_any _ _).mono ?_; rintro e w1 ⟨rfl, rfl⟩)
  go_loopw [17] (fun i wr => SumQ n x y minus w i wr) (fun i _ => n - (intOf i).toNat)
  case atStart =>
    refine ⟨0, minus, 0, Nat.zero_le _, rfl, (Own.new w _ _).alloc _, ?_, by decide, by simp [Nat.mod_one, yv], below_new (below_new (Below.refl _ _) _) _⟩
    have := Own.new (w.alloc (.cells #[.bool minus] 4)) 4 (ba n 0)
    simpa using this
  case round =>
    obtain ⟨k, q, S, hk, rfl, o1, o2, hSk, hS, hb⟩ := hrel
    have hr := h.step hb
    have hr' := h'.step hb
    by_cases g1 : k < n
    · obtain ⟨ab, ao, rfl, hlt0, hc0⟩ := h.at_ g1
      have hcell := (hb.cell (p := ⟨ab, ao + k, none⟩) hlt0).trans hc0
      clear hc0
      have d1 : decide ((k : Int) < n) = true := by simpa using g1
      obtain ⟨bx, hbx⟩ : ∃ b, b = x.testBit k := ⟨_, rfl⟩
      obtain ⟨t, ht⟩ : ∃ b, b = y.testBit k := ⟨_, rfl⟩
      have hat : ∀ W, Rd W B m y → Calls Tryz.prog 206 #[.slice B m d, .int .i64 k, .bool false] W (fun e w' => e = .returned (.bool t) ∧ W = w') := fun W hW => by
        rw [ht]
        have := at_any B m d y k false W hW (by omega) (by omega)
        rwa [show (if k < m then y.testBit k else false) = y.testBit k by split; rfl; exact (high_bit h'.1 (by omega)).symm] at this
      have c2 : wr.cell? ⟨w.heap.size + 1, k, none⟩ = some (.bool (S.testBit k)) := (o2.cell k).trans (ba_get _ _ _ g1)
      have f2 := o2.free k
      rw [← hbx] at hcell
      have O1 := Lib.hid o1
      have hfin := Lib.hid (SumQ.next g1 o1 o2 hb hSk hS hbx ht)
      have hat := Lib.hid hat
      have l0 : (0 : Int) ≤ k := by omega
      have l1 : (k : Int) < n := by omega
      have k1 : ∀ v, (wr.setCell ⟨w.heap.size, 0, none⟩ v).cell? ⟨ab, ao + k, none⟩ = some (.bool bx) := fun v => (World.cell?_setCell_other wr _ _ v (fun e => by injection e with e _; omega)).trans hcell
      have k2 : ∀ v v', ((wr.setCell ⟨w.heap.size, 0, none⟩ v).setCell ⟨w.heap.size + 1, k, none⟩ v').cell? ⟨ab, ao + k, none⟩ = some (.bool bx) := fun v v' => (World.cell?_setCell_other _ _ _ v' (fun e => by injection e with e _; omega)).trans (k1 v)
      have k3 : ∀ v, (wr.setCell ⟨w.heap.size, 0, none⟩ v).cell? ⟨w.heap.size + 1, k, none⟩ = some (.bool (S.testBit k)) := fun v => (World.cell?_setCell_other wr _ _ v (fun e => by injection e with e _; omega)).trans c2
      have k4 : ∀ v, (wr.setCell ⟨w.heap.size, 0, none⟩ v).frozen? ⟨w.heap.size + 1, k, none⟩ = false := fun v => (o2.far (p := ⟨w.heap.size, 0, none⟩) (by simp) v).free k
      have l2 := o2.lt
      clear h h' o1 o2 hS hbx ht
      go_wp2
      go_region_held3 (fun u => u.cell? ⟨ab, ao + k, none⟩ = some (.bool bx)) (go_keep) (first | (go_at_call 206; refine (hat.out _ hr'.drew).mono ?_; rintro e w1 ⟨rfl, rfl⟩) | (go_at_call 212; refine (adder1_any _ _ _ q _ O1.out.drew).mono ?_; rintro e w1 ⟨rfl, rfl⟩))
      go_wp2
      go_roundw
      case rel => exact hfin.out _ _ (by cases bx <;> cases t <;> cases minus <;> cases q <;> rfl)
      case measure => simp [intOf]; omega
    · obtain rfl : k = n := by omega
      go_wp2
      go_ret
      exact ⟨_, rfl, by rw [← sumv_of hS h.1 hSk]; exact o2, Nat.le_succ _, by rw [← sumv_of hS h.1 hSk]; exact hSk, hb⟩
theorem add_any (A B : Option Addr) (n c x m d y : Nat) (w : World) (h : Rd w A n x) (h' : Rd w B m y) (hn : n ≤ 10000) (hm : m ≤ 10000) :
    Calls Tryz.prog 159 #[.slice A n c, .slice B m d] w (RetN w n ((x + y) % 2 ^ n)) := by
  go_enter Tryz.func159, Tryz.ntmps159
  go_wp2_with (go_at_call 181; refine (sum_any _ _ _ _ _ _ _ _ _ _ h h' hn hm).mono ?_; rintro e w1 ⟨g, rfl, o, hg, hx, hb⟩)
  go_ret
  exact RetO.retN (by omega) ⟨g, rfl, o, hg, hx, hb⟩
def subv (n x y : Nat) : Nat := (x + (2 ^ n - y % 2 ^ n)) % 2 ^ n
theorem sub_anyO (A B : Option Addr) (n c x m d y : Nat) (w : World) (h : Rd w A n x) (h' : Rd w B m y) (hn : n ≤ 10000) (hm : m ≤ 10000) :
    Calls Tryz.prog 145 #[.slice A n c, .slice B m d] w (RetO w n (subv n x y)) := by
  go_enter Tryz.func145, Tryz.ntmps145
  go_wp2_with (go_at_call 181; refine (sum_any _ _ _ _ _ _ _ _ _ _ h h' hn hm).mono ?_; rintro e w1 ⟨g, rfl, o, hg, hx, hb⟩)
  go_ret
  exact ⟨g, rfl, o, hg, hx, hb⟩
theorem sub_any (A B : Option Addr) (n c x m d y : Nat) (w : World) (h : Rd w A n x) (h' : Rd w B m y) (hn : n ≤ 10000) (hm : m ≤ 10000) :
    Calls Tryz.prog 145 #[.slice A n c, .slice B m d] w (RetN w n (subv n x y)) := (sub_anyO A B n c x m d y w h h' hn hm).mono fun _ _ k => k.retN (by omega)
theorem neg_any (A : Option Addr) (n c x : Nat) (w : World) (h : Rd w A n x) (hn : n ≤ 10000) :
    Calls Tryz.prog 103 #[.slice A n c] w (RetN w n (subv n 0 x)) := by
  have hmk := fun W => run_makeB n (by omega) W
  go_enter Tryz.func103, Tryz.ntmps103
  go_wp2_with (go_at_call 145; refine (sub_any _ _ _ _ 0 _ _ _ _ (Rd.of_own (Own.new w _ (ba n 0)) (pow_p n)) (h.alloc _) hn hn).mono ?_; rintro e w1 ⟨A1, c1, rfl, hv, hb⟩)
  go_ret
  exact ⟨A1, c1, rfl, hv.mono (by simp), below_step (below_new (Below.refl _ _) _) hb⟩

end Go.Proofs.YtgojnpblhfbdpaaGreatDoor.B

namespace Go.Proofs.YtgojnpblhfbdpaaGreatDoor.B
open Go Go.RowKit
attribute [local go_sem ↓] Go.wp_at_zero Go.wp_at_succ

theorem mul_step {T T' p t s q q' P X xb : Nat} (h1 : T + p * q = P + X) (h2 : T' + p * t = T + p * s) (hf : s + 2 * q' = t + xb + q) : T' + 2 * p * q' = P + (X + p * xb) := by
  have : p * s + 2 * p * q' = p * t + p * xb + p * q := by
    rw [← Nat.mul_add, ← Nat.mul_add, ← hf, Nat.mul_add, Nat.mul_comm 2 p, Nat.mul_assoc]
  omega
def MulP (n x y k : Nat) : Nat := (x * (y % 2 ^ k)) % 2 ^ n
theorem MulP.lt (n x y k : Nat) : MulP n x y k < 2 ^ n := mod_lt' _ _
theorem MulP.skip {n x y k : Nat} (h : y.testBit k = false) : MulP n x y (k + 1) = MulP n x y k := by unfold MulP; rw [mod_step, h]; simp
theorem MulP.next {n x y k T q : Nat} (h : y.testBit k = true) (hk : k ≤ n) (hT : T + 2 ^ n * q = MulP n x y k + 2 ^ k * (x % 2 ^ (n - k))) (hl : T < 2 ^ n) : T = MulP n x y (k + 1) := by
  have e1 := sum_mod hT hl
  have e2 : 2 ^ k * (x % 2 ^ (n - k)) = (2 ^ k * x) % 2 ^ n := by
    rw [← Nat.mul_mod_mul_left, ← Nat.pow_add, Nat.add_sub_cancel' hk]
  rw [e1, e2]
  unfold MulP
  rw [← Nat.add_mod, mod_step, h, Nat.mul_add, Nat.mul_comm (2 ^ k) x]
  simp
theorem MulP.last {n m x y : Nat} (hy : y < 2 ^ m) : MulP n x y (min n m) = (x * y) % 2 ^ n := by
  unfold MulP
  rcases Nat.le_total m n with h | h
  · rw [Nat.min_eq_right h, Nat.mod_eq_of_lt hy]
  · rw [Nat.min_eq_left h, Nat.mul_mod_mod]

def MulO (n m x y g : Nat) (w : World) (i : Value) (wr : World) : Prop := ∃ k, k ≤ min n m ∧ i = .int .i64 k ∧ Own wr g 4 (ba n (MulP n x y k)) ∧ Below w.heap.size w wr
def MulI (n k x P g g1 : Nat) (w : World) (i : Value) (u : World) : Prop :=
  ∃ (j : Nat) (q : Bool) (T : Nat), j ≤ n - k ∧ i = .int .i64 j ∧ Own u g1 4 #[.bool q] ∧ Own u g 4 (ba n T) ∧ T < 2 ^ n ∧ T + 2 ^ (k + j) * q.toNat = P + 2 ^ k * (x % 2 ^ j) ∧ Below w.heap.size w u
theorem MulI.next {n k j x P T g g1 : Nat} {q bx : Bool} {w u : World} (hj : k + j < n) (O1 : Own u g1 4 #[.bool q]) (O2 : Own u g 4 (ba n T)) (hne : g ≠ g1) (hg : w.heap.size ≤ g) (hg1 : w.heap.size ≤ g1) (hb : Below w.heap.size w u) (hT : T < 2 ^ n)
    (hS : T + 2 ^ (k + j) * q.toNat = P + 2 ^ k * (x % 2 ^ j)) (hx : bx = x.testBit j) (s q' : Bool) (he : s.toNat + 2 * q'.toNat = (T.testBit (k + j)).toNat + bx.toNat + q.toNat) :
    MulI n k x P g g1 w (.int .i64 ((j : Int) + 1)) ((u.setCell ⟨g1, 0, none⟩ (.bool q')).setCell ⟨g, k + j, none⟩ (.bool s)).drew := by
  have o2 := (O2.far (p := ⟨g1, 0, none⟩) hne (.bool q')).put (k + j) (.bool s)
  rw [ba_set s hj] at o2
  refine ⟨j + 1, q', _, by omega, by go_num, (O1.put 0 (.bool q')).far (p := ⟨g, k + j, none⟩) (Ne.symm hne) (.bool s), o2, setb_lt hT hj, ?_, below_drew (below_set (below_set hb hg1 _) hg _)⟩
  have e := setb_eq T (k + j) s
  rw [mod_step, ← hx, Nat.mul_add, ← Nat.mul_assoc, ← Nat.pow_add, show k + (j + 1) = (k + j) + 1 from rfl, pow_s]
  exact mul_step hS e he
set_option maxHeartbeats 2000000 in
theorem mul_any (A B : Option Addr) (n c x m d y : Nat) (w : World) (h : Rd w A n x) (h' : Rd w B m y) (hn : n ≤ 10000) (hm : m ≤ 10000) :
    Calls Tryz.prog 160 #[.slice A n c, .slice B m d] w (RetN w n ((x * y) % 2 ^ n)) := by
  have hmk := fun W => run_makeB n (by omega) W
  rw [← MulP.last (n := n) h'.1]
  have hcase : m < n ∨ ¬ m < n := by omega
  rcases hcase with hmn | hmn
  all_goals
    go_enter Tryz.func160, Tryz.ntmps160
    go_wp2
    go_loopw [17] (fun i wr => MulO n m x y w.heap.size w i wr) (fun i _ => min n m - (intOf i).toNat)
    case atStart => exact ⟨0, Nat.zero_le _, rfl, by rw [show MulP n x y 0 = 0 by simp [MulP, Nat.mod_one]]; exact Own.new w _ _, below_new (Below.refl _ _) _⟩
    case round =>
      obtain ⟨wo, rfl⟩ : ∃ wo : World, wo = wr := ⟨_, rfl⟩
      obtain ⟨k, hk, rfl, o2, hb⟩ := hrel
      by_cases g1 : k < min n m
      · obtain ⟨bb, bo, rfl, hlt0, hc0⟩ := h'.at_ (show k < m by omega)
        have hcell := (hb.cell (p := ⟨bb, bo + k, none⟩) hlt0).trans hc0
        clear hc0
        have hr := h.step hb
        have d1 : decide ((k : Int) < n) = true := by simp; omega
        have d2 : decide ((k : Int) < m) = true := by simp; omega
        rcases hy : y.testBit k with _ | _
        · rw [hy] at hcell
          have o2' : Own wo w.heap.size 4 (ba n (MulP n x y (k + 1))) := by rw [MulP.skip hy]; exact o2
          clear o2 hy h'
          go_wp2
          go_roundw
          case rel => exact ⟨k + 1, by omega, by go_num, o2', hb⟩
          case measure => simp [intOf]; omega
        · rw [hy] at hcell
          have hy := Lib.hid hy
          have hkn : (k : Int) ≤ n := by omega
          have o3 := (o2.alloc (.cells #[.bool false] 4))
          have o1 := Own.new wo 4 #[.bool false]
          have hb1 := below_new hb (.cells #[.bool false] 4)
          have hlg : w.heap.size < wo.heap.size := o2.lt
          go_wp2_with (go_at_call 189; refine (adder_any _ _).mono ?_; rintro e w1 ⟨rfl, rfl⟩)
          go_loopw [30] (fun i u => MulI n k x (MulP n x y k) w.heap.size wo.heap.size w i u) (fun i _ => n - k - (intOf i).toNat)
          case atStart => exact ⟨0, false, _, Nat.zero_le _, rfl, o1, o3, MulP.lt _ _ _ _, by simp [Nat.mod_one], hb1⟩
          case round =>
            obtain ⟨j, q, T, hj, rfl, i1, i2, hT, hS, hbi⟩ := hrel
            by_cases g2 : j < n - k
            · obtain ⟨ab, ao, rfl, hlt1, hc1⟩ := h.at_ (show j < n by omega)
              have hcx := (hbi.cell (p := ⟨ab, ao + j, none⟩) hlt1).trans hc1
              clear hc1
              obtain ⟨bx, hbx⟩ : ∃ b, b = x.testBit j := ⟨_, rfl⟩
              have hfin := MulI.next (show k + j < n by omega) i1 i2 (Nat.ne_of_lt hlg) (Nat.le_refl _) (Nat.le_of_lt hlg) hbi hT hS hbx
              obtain ⟨tb, htb⟩ : ∃ b, b = T.testBit (k + j) := ⟨_, rfl⟩
              have c2 : wr.cell? ⟨w.heap.size, k + j, none⟩ = some (.bool tb) := by rw [htb]; exact (i2.cell _).trans (ba_get _ _ _ (by omega))
              rw [← hbx] at hcx
              rw [← htb] at hfin
              have f2 := i2.free (k + j)
              have k1 : ∀ v, (wr.setCell ⟨wo.heap.size, 0, none⟩ v).cell? ⟨w.heap.size, k + j, none⟩ = some (.bool tb) := fun v => (World.cell?_setCell_other wr _ _ v (fun e => by injection e with e _; omega)).trans c2
              have k4 : ∀ v, (wr.setCell ⟨wo.heap.size, 0, none⟩ v).frozen? ⟨w.heap.size, k + j, none⟩ = false := fun v => (i2.far (p := ⟨wo.heap.size, 0, none⟩) (Nat.ne_of_lt hlg) v).free _
              have I1 := Lib.hid i1
              have hfin := Lib.hid hfin
              have e1 : decide ((j : Int) < (n : Int) - k) = true := by simp; omega
              have l0 : (0 : Int) ≤ (k : Int) + j := by omega
              have l1 : (k : Int) + j < n := by omega
              have l2 : (0 : Int) ≤ j := by omega
              have l3 : (j : Int) < n := by omega
              have l4 := i2.lt
              clear i1 i2 hS hbx htb h o2 o3 o1 hb hb1 hcell
              go_wp2
              have l5 : IntKind.i64.wrap ((k : Int) + j) = (k : Int) + j := IntWalk.i64_in _ (by omega)
              have l6 : ((k : Int) + j).toNat = k + j := by omega
              go_region_with ((go_at_call 212; refine (adder1_any _ _ _ q _ I1.out.drew).mono ?_; rintro e w1 ⟨rfl, rfl⟩))
              all_goals
                clear l5
                go_wp2
                go_roundw
                case rel => exact hfin.out _ _ (by cases bx <;> cases tb <;> cases q <;> rfl)
                case measure => simp [intOf]; omega
            · obtain rfl : j = n - k := by omega
              have hT2 : T = MulP n x y (k + 1) := MulP.next hy.out (by omega) (by rw [show k + (n - k) = n by omega] at hS; exact hS) hT
              rw [hT2] at i2
              have e1 : decide (((n - k : Nat) : Int) < (n : Int) - k) = false := by simp; omega
              clear i1 hS hT hT2
              go_wp2
              go_roundw
              case rel => exact ⟨k + 1, by omega, by go_num, i2, hbi⟩
              case measure => simp [intOf]; omega
      · have hkk : k = min n m := by omega
        have dd : (k = m ∧ m < n) ∨ (k = n ∧ ¬ m < n) := by omega
        rw [hkk] at o2
        clear hkk
        rcases dd with ⟨rfl, _⟩ | ⟨rfl, _⟩
        all_goals first
          | omega
          | (go_wp2; go_ret; exact ⟨_, _, rfl, Nw.of_own o2 (MulP.lt _ _ _ _) (Nat.le_refl _) (by unfold maxLen; omega), hb⟩)

end Go.Proofs.YtgojnpblhfbdpaaGreatDoor.B
