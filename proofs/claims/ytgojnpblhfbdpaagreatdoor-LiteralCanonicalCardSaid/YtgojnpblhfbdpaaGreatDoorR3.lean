/-
  A row of the call's own is turned round: slices.Reverse. Conditions: at least one element.
  A byte is appended to a row of the call's own, of whatever type of bytes; what else lies in memory stays. Conditions: at most a million elements.
  The contract of the program's spread: the bits of digits, one digit behind the other. Conditions: at least one digit and at most 256, each accepted, characters below 128.
  A region whose order is open, by one obligation an operation, where an operation may read a slot that a later one writes; numbers and iterators as conditions on worlds. No conditions.
  The contract of the program's number: the bits of a decimal number modulo a power of two. Conditions: decimal digits, at most 256, a width of 1 to 128.
  copy onto a row of bits of the call's own. Conditions: rows of at most a thousand bits.
  The contract of the program's bits: the vector that the digits of a based literal denote. Conditions: accepted digits, at most 256, a width of 1 to 128.
  The contract of the program's parseBased. Conditions: at most 100,000 bytes.
  The contract of the program's Parse: a text, an offset. Conditions: 64 bits.
  The contract of the program's Parse: a text, an offset. Conditions: an offset of 64 bits.
-/
import Derived.Test.YtgojnpblhfbdpaaGreatDoorR2
import Derived.Deep.LoopGhost
namespace Go.Proofs.YtgojnpblhfbdpaaGreatDoor
open Go Go.RowKit

/-- A slice in a row of the call's own, of whatever type of bytes. -/
def NT (T : TypeId) (w : World) (B : Nat) (A : Option Addr) (n c : Nat) (l : List Int) : Prop := l.length = n ∧ nnL l ∧ w.ownsRow B T 1 (.slice A n c) n (il l)
theorem heap_put {α : Type} [Inhabited α] (enc : α → Value) (w : World) (k g : Nat) (d : Array α) (T : TypeId) (cur : Array Value) (h : Own w g T cur) : Own (Sort.putRow enc (Sort.ahead w k) g 0 d) g T (Sort.putCells enc 0 d cur) := by
  have h' : w.heap[g]? = some (.cells cur T (0, 0)) := h
  show (w.heap.modify g (Sort.onCells _))[g]? = _
  rw [Array.getElem?_modify, if_pos rfl, h']
  rfl
theorem below_put {α : Type} [Inhabited α] (enc : α → Value) {W w : World} (k g : Nat) (d : Array α) (hb : Below W.heap.size W w) (hg : W.heap.size ≤ g) : Below W.heap.size W (Sort.putRow enc (Sort.ahead w k) g 0 d) :=
  ⟨hb.os, hb.tape, hb.output, by rw [Sort.size_putRow]; exact hb.size, fun j hj => by
    rw [← hb.block j hj]
    show (w.heap.modify g (Sort.onCells _))[j]? = _
    rw [Array.getElem?_modify, if_neg (by omega)]⟩
theorem put_take (l m : List Int) (cur : Array Value) (hl : l.length = m.length) (hn : m.length ≤ cur.size) : (Sort.putCells (Value.int .u8) 0 l.toArray cur).toList.take m.length = il l := by
  apply List.ext_getElem?
  intro i
  unfold Sort.putCells
  by_cases hi : i < m.length
  · rw [List.getElem?_take, if_pos hi, Array.getElem?_toList, Array.getElem?_mapIdx, Array.getElem?_eq_getElem (by omega), Option.map_some, if_pos ⟨by omega, by simp; omega⟩]
    rw [il_get (by omega)]
    congr 2
    rw [Nat.sub_zero, getElem!_pos _ i (by simp; omega)]
    simp [nth, List.getD_eq_getElem?_getD]
    rw [List.getElem?_eq_getElem (by omega)]
    rfl
  · rw [List.getElem?_eq_none (by rw [List.length_take]; omega), List.getElem?_eq_none (by rw [il_length]; omega)]
theorem rev_row {T : TypeId} {F : FuncId} {w : World} {B : Nat} {A : Option Addr} {n c : Nat} {l : List Int} (h : NT T w B A n c l) (hn : 0 < n) (hn2 : n ≤ 100000)
    (hF : ∀ (blk cap : Nat) (zs : List Int) (w : World), Sort.Holds (Value.int .u8) w blk 0 zs.toArray → zs.length ≤ 9223372036854775807 →
      Calls Tryz.prog F #[.slice (some ⟨blk, 0, none⟩) zs.length cap] w fun e w' => e = .returned (.tuple #[]) ∧ ∃ k, w' = Sort.putRow (Value.int .u8) (Sort.ahead w k) blk 0 zs.reverse.toArray) :
    Calls Tryz.prog F #[.slice A n c] w fun e w' => e = .returned (.tuple #[]) ∧ NT T w' B A n c l.reverse ∧ ∀ W : World, Below W.heap.size W w → W.heap.size ≤ B → Below W.heap.size W w' := by
  obtain ⟨hl, hnn, hlen, hrow⟩ := h
  rcases hrow with ⟨e, h0⟩ | ⟨g, cap, cur, e, hB, hown, hc, hm, hs, ht⟩
  · simp only [Value.slice.injEq] at e
    omega
  · simp only [Value.slice.injEq] at e
    obtain ⟨rfl, _, rfl⟩ := e
    have hs' : n ≤ cur.size := by
      simp at hs
      omega
    have hO : Own w g T cur := hown
    have hH : Sort.Holds (Value.int .u8) w g 0 l.toArray := fun j hj => by
      rw [List.size_toArray, hl] at hj
      rw [Nat.zero_add]
      refine ⟨?_, hO.free j⟩
      rw [hO.cell j]
      have h1 : (cur.toList.take n)[j]? = (il l)[j]? := by
        have : cur.toList.take n = il l := by simpa using ht
        rw [this]
      rw [List.getElem?_take, if_pos hj, Array.getElem?_toList, il_get (by omega)] at h1
      rw [h1, getElem!_pos _ j (by simp; omega)]
      simp [nth, List.getD_eq_getElem?_getD]
      rw [List.getElem?_eq_getElem (by omega)]
      rfl
    have := hF g c l w hH (by omega)
    rw [hl] at this
    refine this.mono fun e w' ⟨he, k, hw⟩ => ⟨he, ⟨by rw [List.length_reverse]; exact hl, fun x hx => hnn x (List.mem_reverse.1 hx), by rw [il_length, List.length_reverse]; omega, .inr ⟨g, c, Sort.putCells (Value.int .u8) 0 l.reverse.toArray cur, rfl, hB, ?_, hc, hm, ?_, ?_⟩⟩, fun W hb hg => ?_⟩
    · rw [hw]
      exact heap_put _ w k g _ T cur hO
    · unfold Sort.putCells
      simpa using hs
    · have := put_take l.reverse l cur (List.length_reverse) (by omega)
      rw [hl] at this
      simpa using this
    · rw [hw]
      exact below_put _ k g _ hb (by omega)
theorem revB {w : World} {B : Nat} {A : Option Addr} {n c : Nat} {l : List Int} (h : Nb w B A n c l) (hn : 0 < n) (hn2 : n ≤ 100000) :
    Calls Tryz.prog 157 #[.slice A n c] w fun e w' => e = .returned (.tuple #[]) ∧ Nb w' B A n c l.reverse ∧ ∀ W : World, Below W.heap.size W w → W.heap.size ≤ B → Below W.heap.size W w' :=
  rev_row (T := 58) h hn hn2 fun blk cap zs w h1 h2 => Tryz.slices_Reverse_f157 (Value.int .u8) (fun _ => rfl) blk 0 cap zs w h1 h2
end Go.Proofs.YtgojnpblhfbdpaaGreatDoor

namespace Go.Proofs.YtgojnpblhfbdpaaGreatDoor
open Go Go.RowKit

theorem byte_info : (Tryz.prog.info? 5).map (fun i => (i.zero, i.size, i.bytes)) = some (some (.int .u8 0), 1, 1) := by kernel_rfl
section
variable {ST T : TypeId} {w W : World} {B : Nat}
theorem run_catT (hu : Tryz.prog.underlying ST = some (.slice T)) (hinfo : (Tryz.prog.info? T).map (fun i => (i.zero, i.size, i.bytes)) = some (some (.int .u8 0), 1, 1)) (hbase : B ≤ w.heap.size) {A : Option Addr} {n c : Nat} {l : List Int} (hv : NT T w B A n c l) {X : Option Addr} {m d : Nat} {y : List Int} (hx : Rb w X m y) (hn : n + m ≤ 1000000) (hm0 : 0 < m) :
    ∃ A' c' w', (Builtin.append_ #[ST, ST] ST #[.slice A n c, .slice X m d]).run Tryz.prog w = .ok (.slice A' (n + m) c') w' ∧ NT T w' B A' (n + m) c' (l ++ y) ∧ w.grownBy w' (Value.slice A n c).ownBlock := by
  obtain ⟨i, hi, hzz⟩ := Option.map_eq_some_iff.1 hinfo
  simp only [Prod.mk.injEq] at hzz
  obtain ⟨hz, hs, hby⟩ := hzz
  have hln : (l ++ y).length = n + m := by simp [hv.1, hx.1]
  have hnn : nnL (l ++ y) := fun a ha => by
    rcases List.mem_append.1 ha with h | h
    · exact hv.2.1 a h
    · exact hx.2.1 a h
  obtain ⟨ad, rfl⟩ : ∃ ad, X = some ad := by
    obtain ⟨b, o, h, _⟩ := hx.2.2 hm0
    exact ⟨_, h⟩
  have hcells : ∀ j u, (il y)[j]? = some u → w.cell? (ad.add j) = some u := by
    intro j u hu
    have hj : j < m := by have := (List.getElem?_eq_some_iff.1 hu).1; rw [il_length, hx.1] at this; exact this
    rw [il_get (by rw [hx.1]; exact hj)] at hu
    obtain ⟨b, o, h, _, hc⟩ := hx.2.2 (by omega)
    obtain rfl := Option.some.inj h
    have := hc j hj
    unfold Addr.add
    split
    · rename_i h0; subst h0; rw [← hu]; exact this
    · rw [← hu]; exact this
  obtain ⟨v', w', hrun, h2, h3, _, _⟩ := run_append_own_at (P := Tryz.prog) w B ST ST T i _ 1 1 hu hi hz hs hby rfl (by decide) _ n _ hv.2.2 ad m d (il y) (by simp [il_length, hx.1]) hcells (il_one y) (by unfold maxLen; omega) (by omega) hbase
  have hform : ∃ A' c', v' = .slice A' (n + m) c' ∧ NT T w' B A' (n + m) c' (l ++ y) := by
    rw [il_cat] at h2
    rcases h2.2 with ⟨rfl, h0⟩ | ⟨g, cap, cur, rfl, _⟩
    · omega
    · exact ⟨_, _, rfl, hln, hnn, h2⟩
  obtain ⟨A', c', rfl, h4⟩ := hform
  exact ⟨A', c', w', hrun, h4, h3⟩
theorem grown_keep {A : Option Addr} {n c : Nat} {l : List Int} {w' : World} (hv : NT T w B A n c l) (hg : w.grownBy w' (Value.slice A n c).ownBlock) {j : Nat} {o : Obj} (hj : w.heap[j]? = some o) (ho : ∀ cs fr, o ≠ .cells cs T fr) : w'.heap[j]? = some o := by
  have hlt : j < w.heap.size := (Array.getElem?_eq_some_iff.1 hj).1
  rw [hg.block j hlt]
  · exact hj
  · intro e
    rcases hv.2.2.2 with ⟨e2, _⟩ | ⟨g, cap, cur, e2, _, hown, _⟩
    · rw [e2] at e; simp [Value.ownBlock] at e
    · rw [e2] at e
      simp [Value.ownBlock] at e
      rw [← e, hj] at hown
      exact ho _ _ (Option.some.inj hown)
theorem wpList_pushT {ops : Array Oper} {rest : List Oper} {o : Oper} {a : Act} {Q : Exit → Act → World → Prop} (hgd : o.guard = none) (s x : Operand)
    (hu : Tryz.prog.underlying ST = some (.slice T)) (hinfo : (Tryz.prog.info? T).map (fun i => (i.zero, i.size, i.bytes)) = some (some (.int .u8 0), 1, 1))
    (ho : o.op = .call { callee := .builtin .append, args := #[s, x], argTypes := #[ST, ST] }) (hty : o.type = ST)
    (hb : Below W.heap.size W w) {A : Option Addr} {n c : Nat} {l : List Int} (hs : a.eval s = .slice A n c) (hv : NT T w W.heap.size A n c l) (H : Nat) (hH : w.heap.size = H) (b : Int) (hb0 : 0 ≤ b) (hx : a.eval x = .slice (some ⟨H, 0, none⟩) 1 1) (hn : n ≤ 100000)
    (h : ∀ A' c' w', NT T w' W.heap.size A' (n + 1) c' (l ++ [b]) → Below W.heap.size W w' → (∀ (j : Nat) (o : Obj), w.heap[j]? = some o → (∀ cs fr, o ≠ Obj.cells cs T fr) → w'.heap[j]? = some o) → wpList Tryz.prog ops Q rest (a.put o.dst (.slice A' (n + 1) c')) w') : wpList Tryz.prog ops Q (o :: rest) a (w.alloc (.cells #[.int .u8 b] T)) := by
  subst hH
  have ho1 : Own (w.alloc (.cells #[.int .u8 b] T)) w.heap.size T (ia [b]) := Own.new w T #[.int .u8 b]
  have hrd : Rb (w.alloc (.cells #[.int .u8 b] T)) (some ⟨w.heap.size, 0, none⟩) 1 [b] :=
    ⟨rfl, nnL_one hb0, fun _ => ⟨w.heap.size, 0, rfl, ho1.lt, fun i hi => by
      rw [Nat.zero_add, ho1.cell i, ia_get (by simp; omega)]⟩⟩
  have hva : NT T (w.alloc (.cells #[.int .u8 b] T)) W.heap.size A n c l := by
    refine ⟨hv.1, hv.2.1, hv.2.2.1, hv.2.2.2.imp id fun ⟨g, cap, cur, h1, h2, h3, h4⟩ => ⟨g, cap, cur, h1, h2, ?_, h4⟩⟩
    exact (Below.heap_alloc w _ g (Array.getElem?_eq_some_iff.1 h3).1).trans h3
  refine wpList_plain hgd fun K hK => ?_
  obtain ⟨A', c', w', hrun, h2, h3⟩ := run_catT (d := 1) hu hinfo (Nat.le_trans hb.size (below_new (Below.refl _ _) _).size) hva hrd (by omega) (by decide)
  unfold Oper.wp execOp
  simp only [ho, hty, resolve, invoke, builtin, Sem.run_bind, Sem.run_pure, Result.andThen_ok, List.map_toArray, List.map_cons, List.map_nil, hs, hx, hrun]
  refine hK _ _ (h A' c' w' h2 ((below_new hb _).grown h3 (below_new hb _).size fun k hk => (hva.2.2.lt k hk).1) fun j o hj hno => ?_)
  exact grown_keep hva h3 ((Below.heap_alloc w _ j (Array.getElem?_eq_some_iff.1 hj).1).trans hj) hno
end
theorem NT.step {T : TypeId} {w u : World} {B : Nat} {A : Option Addr} {n c : Nat} {l : List Int} (h : NT T w B A n c l) (hb : Below w.heap.size w u) : NT T u B A n c l := by
  refine ⟨h.1, h.2.1, h.2.2.1, h.2.2.2.imp id fun ⟨g, cap, cur, h1, h2, h3, h4⟩ => ⟨g, cap, cur, h1, h2, ?_, h4⟩⟩
  exact (hb.block g (Array.getElem?_eq_some_iff.1 h3).1).trans h3
theorem NT.iterAt {T : TypeId} {w : World} {B it k k' : Nat} {s : ByteArray} {A : Option Addr} {n c : Nat} {l : List Int} (h : NT T w B A n c l) (hit : w.heap[it]? = some (.stringIter s k)) : NT T (w.iterAt it s k') B A n c l := by
  refine ⟨h.1, h.2.1, h.2.2.1, h.2.2.2.imp id fun ⟨g, cap, cur, h1, h2, h3, h4⟩ => ⟨g, cap, cur, h1, h2, ?_, h4⟩⟩
  rw [Lib.iterAt_other _ _ _ _ _ (fun e => by
    subst e
    rw [hit] at h3
    cases h3)]
  exact h3
theorem NT.nil (T : TypeId) (w : World) (B : Nat) : NT T w B none 0 0 [] := ⟨rfl, fun _ h => by simp at h, by simp [il], .inl ⟨rfl, rfl⟩⟩
theorem NT.mono {T : TypeId} {w : World} {B B' : Nat} {A : Option Addr} {n c : Nat} {l : List Int} (h : NT T w B A n c l) (hB : B' ≤ B) : NT T w B' A n c l :=
  ⟨h.1, h.2.1, h.2.2.1, h.2.2.2.imp id fun ⟨g, cap, cur, h1, h2, h3⟩ => ⟨g, cap, cur, h1, Nat.le_trans hB h2, h3⟩⟩
theorem iter_keep {w w' : World} {T : TypeId} {it k : Nat} {s : ByteArray} (h : ∀ (j : Nat) (o : Obj), w.heap[j]? = some o → (∀ cs fr, o ≠ Obj.cells cs T fr) → w'.heap[j]? = some o) (hit : w.heap[it]? = some (.stringIter s k)) : w'.heap[it]? = some (.stringIter s k) :=
  h it _ hit fun _ _ e => by cases e
theorem iter_below {w w' : World} {it k : Nat} {s : ByteArray} (hb : Below w.heap.size w w') (hit : w.heap[it]? = some (.stringIter s k)) : w'.heap[it]? = some (.stringIter s k) :=
  (hb.block it (Array.getElem?_eq_some_iff.1 hit).1).trans hit
end Go.Proofs.YtgojnpblhfbdpaaGreatDoor

namespace Go.Proofs.YtgojnpblhfbdpaaGreatDoor
open Go Go.RowKit

/-- The bits of a digit, the most significant first. -/
def dgM (g : Nat) (c : UInt8) : List Int := tab g fun i => bitP c (g - 1 - i)
def dgB (g : Nat) (c : UInt8) : List Int := tab g (bitP c)
theorem dgM_rev (g : Nat) (c : UInt8) : (dgM g c).reverse = dgB g c := by
  refine list_ext (by simp [dgM, dgB, tab_len]) fun i hi => ?_
  have hi' : i < g := by simpa [dgM, tab_len] using hi
  unfold dgB
  rw [nth_tab _ hi']
  simp only [nth, List.getD_eq_getElem?_getD]
  rw [List.getElem?_reverse (by simpa [dgM, tab_len] using hi')]
  have : nth (dgM g c) (g - 1 - i) = bitP c i := by
    unfold dgM
    rw [nth_tab _ (by omega)]
    congr 1
    omega
  simp only [nth, List.getD_eq_getElem?_getD] at this
  have hl : (dgM g c).length = g := tab_len _ _
  rw [hl]
  exact this
theorem spr_rev (g : Nat) (d : List UInt8) : (d.flatMap (dgM g)).reverse = d.reverse.flatMap (dgB g) := by
  rw [List.reverse_flatMap]
  congr 1
  funext c
  exact dgM_rev g c
theorem flat_take {g k : Nat} {d : List UInt8} (h : k < d.length) : (d.take (k + 1)).flatMap (dgM g) = (d.take k).flatMap (dgM g) ++ dgM g d[k] := by
  rw [List.take_succ_eq_append_getElem h, List.flatMap_append]
  simp
theorem flat_len (g : Nat) (l : List UInt8) : (l.flatMap (dgM g)).length = l.length * g := by
  induction l with
  | nil => simp
  | cons c t ih => rw [List.flatMap_cons, List.length_append, ih, List.length_cons, Nat.succ_mul, dgM, tab_len, Nat.add_comm]
theorem dgM_step {g j : Nat} (c : UInt8) (h : j < g) : (dgM g c).take (j + 1) = (dgM g c).take j ++ [bitP c (g - 1 - j)] := by
  have hl : j < (dgM g c).length := by rw [dgM, tab_len]; exact h
  rw [List.take_succ_eq_append_getElem hl]
  congr 2
  simp [dgM, tab]
theorem unI_nn (x : Int) : 0 ≤ unI x := by unfold unI; (repeat' split) <;> decide
theorem bitP_nn (c : UInt8) (i : Nat) : 0 ≤ bitP c i := by
  unfold bitP
  split
  · exact unI_nn _
  · cases (vlC c).testBit i <;> decide
/-- What the loop over the digits keeps. -/
def SprO (g : Nat) (d : List UInt8) (W : World) (it : Nat) (f : Nat) (v : Value) (u : World) : Prop :=
  ∃ k A c, v = .slice A (k * g) c ∧ NT 58 u W.heap.size A (k * g) c ((d.take k).flatMap (dgM g)) ∧ u.heap[it]? = some (.stringIter (str d) k) ∧ Below W.heap.size W u ∧ k + f = d.length
/-- What the loop over the bits of a digit keeps. -/
def SprJ (g k : Nat) (d : List UInt8) (x : UInt8) (W : World) (it : Nat) (f : Nat) (v i : Value) (u : World) : Prop :=
  ∃ (j : Nat) (A : Option Addr) (c : Nat), i = .int .i64 (j : Int) ∧ v = .slice A (k * g + j) c ∧ NT 58 u W.heap.size A (k * g + j) c ((d.take k).flatMap (dgM g) ++ (dgM g x).take j) ∧ u.heap[it]? = some (.stringIter (str d) (k + 1)) ∧ Below W.heap.size W u ∧ j + f = g
set_option maxRecDepth 100000 in
set_option maxHeartbeats 2000000 in
theorem spread_any (g base b : Nat) (d : List UInt8) (w : World) (hg1 : 1 ≤ g) (hg4 : g ≤ 4) (hbq : baseQ base) (ha : asc d) (hok : ∀ c ∈ d, vlC c < base ∨ unQ (c.toNat : Int) = true) (hd : d ≠ []) (hl : d.length ≤ 256) (hcb : w.cell? ⟨b, 0, none⟩ = some (.int .i64 (base : Int))) :
    Calls Tryz.prog 128 #[.agg #[.int .i64 (g : Int), .func (.func 136) #[] #[.pointer (some ⟨b, 0, none⟩)]], .string (str d)] w fun e w' => ∃ A c, e = .returned (.slice A (d.length * g) c) ∧ Nb w' w.heap.size A (d.length * g) c (d.reverse.flatMap (dgB g)) ∧ Below w.heap.size w w' := by
  have O0 := (Own.at1 w 81 #[.int .i64 (g : Int), .func (.func 136) #[] #[.pointer (some ⟨b, 0, none⟩)]] (g := w.heap.size) (by simp))
  have BB := below_new (Below.refl w.heap.size w) (.cells #[.int .i64 (g : Int), .func (.func 136) #[] #[.pointer (some ⟨b, 0, none⟩)]] 81)
  have q0 := O0.cell 0
  have q1 := O0.cell 1
  have hWs : (w.alloc (.cells #[.int .i64 (g : Int), .func (.func 136) #[] #[.pointer (some ⟨b, 0, none⟩)]] 81)).heap.size = w.heap.size + 1 := by simp
  have hit0 := World.iter_heap (w.alloc (.cells #[.int .i64 (g : Int), .func (.func 136) #[] #[.pointer (some ⟨b, 0, none⟩)]] 81)) (str d) 0
  rw [hWs] at hit0
  replace hWs := Lib.hid hWs
  go_enter Tryz.func128, Tryz.ntmps128
  go_wp2
  go_loopg [5] d.length (SprO g d (w.alloc (.cells #[.int .i64 (g : Int), .func (.func 136) #[] #[.pointer (some ⟨b, 0, none⟩)]] 81)) (w.heap.size + 1))
  case atStart => exact ⟨0, none, 0, by rw [Nat.zero_mul], by rw [Nat.zero_mul]; exact NT.nil _ _ _, hit0, below_box _ _ _, by omega⟩
  case round =>
    obtain ⟨k, A, c, rfl, hN, hit, hb, hf⟩ := hrel
    clear q0 q1 hit0
    by_cases hk : k < d.length
    · obtain ⟨g', rfl⟩ : ∃ g', gk = g' + 1 := ⟨gk - 1, by omega⟩
      have hc := ha _ (List.getElem_mem hk)
      have hcok := hok _ (List.getElem_mem hk)
      have hnx := next_asc hit hk hc
      have hit2 := Lib.iterAt_heap wr _ (str d) k (k + 1) hit
      have hb2 := Lib.below_iterAt hb (k := w.heap.size + 1) (by simp) (str d) (k + 1)
      have hN2 := hN.iterAt (k' := k + 1) hit
      have hft := flat_take (g := g) hk
      generalize wr.iterAt (w.heap.size + 1) (str d) (k + 1) = W at hnx hit2 hb2 hN2
      have q1 := (O0.step hb2).cell 1
      have q0 := (O0.step hb2).cell 0
      generalize d[k] = x at *
      clear hit hb hN
      go_wp2
      go_loopg [5, 16] g (SprJ g k d x (w.alloc (.cells #[.int .i64 (g : Int), .func (.func 136) #[] #[.pointer (some ⟨b, 0, none⟩)]] 81)) (w.heap.size + 1))
      case atStart => exact ⟨0, A, c, rfl, rfl, by simpa using hN2, hit2, hb2, by omega⟩
      case round =>
        clear q0 q1 hN2 hit2 hb2 hnx
        obtain ⟨j, A1, c1, rfl, rfl, hN3, hit3, hb3, hf3⟩ := hrel
        have q1 := (O0.step hb3).cell 1
        have q0 := (O0.step hb3).cell 0
        by_cases hj : j < g
        · obtain ⟨g2, rfl⟩ : ∃ g2, gk = g2 + 1 := ⟨gk - 1, by omega⟩
          have hsub : ((g : Int) - 1 - (j : Int)) = ((g - 1 - j : Nat) : Int) := by omega
          have HB := Lib.hid (bit_any (g : Int) base b x (g - 1 - j) (by omega) hbq hc hcok wr (cell_step (below_step BB hb3) hcb))
          have hst := Lib.hid (dgM_step x hj)
          have hnn := bitP_nn x (g - 1 - j)
          have hkg : k * g ≤ 1024 := Nat.le_trans (Nat.mul_le_mul (show k ≤ 256 by omega) hg4) (by decide)
          go_wp2_with (first
            | (go_at_call 156; (refine HB.out.mono ?_); rintro e w1 ⟨rfl, hb4⟩; replace hN3 := hN3.step hb4; replace hit3 := iter_below hb4 hit3; replace hb3 := below_step hb3 hb4)
            | (at_builtin; refine wpList_pushT rfl (.tmp 19) (.tmp 28) Tryz.underlying24 bit_info rfl rfl hb3 rfl hN3 _ rfl _ hnn rfl (by omega) ?_; intro A5 c5 w5 hN5 hb5 hk5; replace hit3 := iter_keep hk5 hit3))
          go_roundg g2
          case measure => omega
          case rel => exact ⟨j + 1, A5, c5, by go_num, by rw [Nat.add_assoc], by rw [hst.out, ← List.append_assoc, ← Nat.add_assoc]; exact hN5, hit3, hb5, by omega⟩
        · have hje : j = g := by omega
          have hmul : (k + 1) * g = k * g + g := Nat.succ_mul k g
          have hfin : (d.take k).flatMap (dgM g) ++ (dgM g x).take j = (d.take (k + 1)).flatMap (dgM g) := by
            rw [hft, hje, List.take_of_length_le (l := dgM g x) (by unfold dgM; rw [tab_len]; exact Nat.le_refl _)]
          rw [hfin] at hN3
          replace hft := Lib.hid hft
          replace hmul := Lib.hid hmul
          clear hfin
          go_wp2
          go_roundg g'
          case measure => omega
          case rel => exact ⟨k + 1, A1, c1, by rw [hmul.out, hje], by rw [hmul.out]; rw [hje] at hN3; exact hN3, hit3, hb3, by omega⟩
    · have hnx := next_end hit hk
      obtain rfl : k = d.length := by omega
      have hdp : 0 < d.length := List.length_pos_iff.2 hd
      have hpos : 0 < d.length * g := Nat.mul_pos (by omega) (by omega)
      have hle : d.length * g ≤ 1024 := Nat.le_trans (Nat.mul_le_mul hl hg4) (by decide)
      have HR := Lib.hid (revB hN hpos (by omega))
      rw [List.take_length, spr_rev] at HR
      clear hN hit hk
      go_wp2_with (first | (go_at_call 157; (refine HR.out.mono ?_); rintro e w1 ⟨rfl, hN1, hb1⟩))
      go_ret
      exact ⟨A, c, rfl, hN1.mono (by simp), below_step (below_new (Below.refl _ _) _) (hb1 _ hb (Nat.le_refl _))⟩
end Go.Proofs.YtgojnpblhfbdpaaGreatDoor

namespace Go.Proofs.YtgojnpblhfbdpaaGreatDoor
open Go Go.RowKit

/-- One operation's obligation; a slot that this or a later operation writes still holds what it held. -/
def StepX (P : Program) (Q : Exit → Act → World → Prop) (a0 : Act) (S : World → Prop) (PS : List (World → Prop)) (VS : List (Value → World → Prop)) (ds : List (Option Tmp)) (dps : List (List Nat)) (i : Nat) (o : Oper) : Prop :=
  ∀ (a : Act) (w : World), S w → (∀ k, ds.contains (some k) = false → a.tmps[k]? = a0.tmps[k]?) → (∀ j, (dps.getD i []).contains j = true → Fact VS ds j a w) → (∀ j U, beforeB dps i j = true → PS[j]? = some U → U w) → (∀ j k, beforeB dps i j = true → ds[j]? = some (some k) → a.tmps[k]? = a0.tmps[k]?) → ∀ K : Act → World → Prop,
    (∀ v w', (o.dst = none → v = undef) → Keep S PS VS i w w' → (VS.getD i fun _ _ => True) v w' → K (a.put o.dst v) w') → if Region.wanted o (yieldD ds a.tmps) = true then o.wp P a w K Q else K (a.put o.dst undef) w
def StepsX (P : Program) (Q : Exit → Act → World → Prop) (a0 : Act) (S : World → Prop) (PS : List (World → Prop)) (VS : List (Value → World → Prop)) (ds : List (Option Tmp)) (dps : List (List Nat)) : Nat → List Oper → Prop
  | _, [] => True
  | i, o :: r => StepX P Q a0 S PS VS ds dps i o ∧ StepsX P Q a0 S PS VS ds dps (i + 1) r
theorem stepsX_get {P : Program} {Q : Exit → Act → World → Prop} {a0 : Act} {S : World → Prop} {PS : List (World → Prop)} {VS : List (Value → World → Prop)} {ds : List (Option Tmp)} {dps : List (List Nat)} : ∀ (l : List Oper) (k : Nat), StepsX P Q a0 S PS VS ds dps k l → ∀ (i : Nat) (o : Oper), l[i]? = some o → StepX P Q a0 S PS VS ds dps (k + i) o
  | [], _, _, i, o, h => by simp at h
  | x :: l, k, hs, 0, o, h => by simp at h; subst h; exact hs.1
  | x :: l, k, hs, i + 1, o, h => by
    have := stepsX_get l (k + 1) hs.2 i o (by simpa using h)
    rwa [show k + 1 + i = k + (i + 1) by omega] at this
structure RX (ops : Array Oper) (a0 : Act) (S : World → Prop) (PS : List (World → Prop)) (VS : List (Value → World → Prop)) (ds : List (Option Tmp)) (dps : List (List Nat)) (L : Array Bool) (a : Act) (w : World) : Prop where
  lsz : L.size = ops.size
  tsz : a.tmps.size = a0.tmps.size
  dfr : a.defers = a0.defers
  s : S w
  olds : ∀ k, ds.contains (some k) = false → a.tmps[k]? = a0.tmps[k]?
  facts : ∀ j, L.getD j false = true → Fact VS ds j a w
  closed : ∀ j, L.getD j false = true → ∀ d, (dps.getD j []).contains d = true → L.getD d false = true
  pres : ∀ j U, L.getD j false = false → PS[j]? = some U → U w
  olds2 : ∀ j k, L.getD j false = false → ds[j]? = some (some k) → a.tmps[k]? = a0.tmps[k]?
set_option maxRecDepth 100000 in
theorem region_x {P : Program} {ops : Array Oper} {Q : Exit → Act → World → Prop} {id : Nat} {a0 : Act} {W : World} (hm : P.follows .mixedOrders = true) (S : World → Prop) (PS : List (World → Prop)) (VS : List (Value → World → Prop)) (ds : List (Option Tmp)) (dps : List (List Nat))
    (hds : ops.toList.map (·.dst) = ds) (hdps : ops.toList.map depsO = dps) (hVS : VS.length = ds.length) (hdis : distinctD ds = true) (hin : insideD ds a0.tmps.size = true)
    (hac : ((List.range ops.size).all fun i => ((ops[i]?).map (·.after.all fun e => !Region.binds .any e || decide (e.on < i))).getD true) = true)
    (hS0 : S W.drew) (hP0 : ∀ U ∈ PS, U W.drew)
    (hstep : StepsX P Q a0 S PS VS ds dps 0 ops.toList)
    (hfin : ∀ (vs : List Value) (w : World), vs.length = ds.length → S w → (∀ (j : Nat) (V : Value → World → Prop), VS[j]? = some V → V (vs.getD j undef) w) → Q .normal (puts a0 ds vs) w) :
    (Code.region id ops true).wp P Q a0 W := by
  have hlen : ds.length = ops.size := by rw [← hds]; simp
  have dsat : ∀ i (o : Oper), ops[i]? = some o → ds[i]? = some o.dst := fun i o ho => by
    rw [← hds, List.getElem?_map, Array.getElem?_toList, ho]; rfl
  have dpat : ∀ i (o : Oper), ops[i]? = some o → dps.getD i [] = depsO o := fun i o ho => by
    rw [← hdps, List.getD_eq_getElem?_getD, List.getElem?_map, Array.getElem?_toList, ho]; rfl
  refine wp_region_any hm (wpAny_inv (I := RX ops a0 S PS VS ds dps) (fun L a w i hi I => ?_) (fun L a w hr I => ?_) (fun L a w I => I.lsz) _ _ _ _ (by simp [List.countP_replicate]) ?_)
  · obtain ⟨hun, o, ho, hdep⟩ := mem_ready.1 hi
    have hio := (Array.getElem?_eq_some_iff.1 ho).1
    have hLi : i < L.size := by rw [I.lsz]; exact hio
    have hun' : L.getD i false = false := by simpa [hLi] using hun
    have hdone : ∀ j, (dps.getD i []).contains j = true → L.getD j false = true := by
      intro j hj
      rw [dpat i o ho] at hj
      have hj' : j ∈ depsO o := by simpa using hj
      obtain ⟨e, he, rfl⟩ := List.mem_map.1 hj'
      obtain ⟨he, hb⟩ := List.mem_filter.1 he
      exact hdep e (by simpa using he) hb
    have hpre : ∀ j U, beforeB dps i j = true → PS[j]? = some U → U w := by
      intro j U hb hU
      refine I.pres j U ?_ hU
      unfold beforeB at hb
      rcases Bool.or_eq_true _ _ ▸ hb with h | h
      · have : j = i := by simpa using h
        subst this; exact hun'
      · cases hc : L.getD j false with
        | false => rfl
        | true => rw [I.closed j hc i h] at hun'; cases hun'
    have hpre2 : ∀ j k, beforeB dps i j = true → ds[j]? = some (some k) → a.tmps[k]? = a0.tmps[k]? := by
      intro j k hb hk
      refine I.olds2 j k ?_ hk
      unfold beforeB at hb
      rcases Bool.or_eq_true _ _ ▸ hb with h | h
      · have : j = i := by simpa using h
        subst this; exact hun'
      · cases hc : L.getD j false with
        | false => rfl
        | true => rw [I.closed j hc i h] at hun'; cases hun'
    have hs := stepsX_get ops.toList 0 hstep i o (by simpa using ho)
    rw [Nat.zero_add] at hs
    have hs := hs a w I.s I.olds (fun j hj => I.facts j (hdone j hj)) hpre hpre2 (RX ops a0 S PS VS ds dps (L.setIfInBounds i true)) (fun v w' hv0 hK hV => by
      refine ⟨by simpa using I.lsz, (put_size a o.dst v).trans I.tsz, (put_defers' a o.dst v).trans I.dfr, hK.1, fun k hk => ?_, fun j hj => ?_, fun j hj d hd => ?_, fun j U hj hU => ?_, fun j k hj hk => ?_⟩
      · rw [put_other]
        · exact I.olds k hk
        · intro e
          have h1 := List.mem_of_getElem? (dsat i o ho)
          rw [e] at h1
          have : ds.contains (some k) = true := by simpa using h1
          rw [this] at hk; cases hk
      · by_cases hji : j = i
        · subst hji
          have hvl : j < VS.length := by rw [hVS, hlen]; exact hio
          have hV' : VS[j] v w' := by simpa [hvl] using hV
          refine ⟨fun d V e1 e2 => ?_, fun V e1 e2 => ?_⟩
          · rw [dsat j o ho] at e1
            have hd : o.dst = some d := by simpa using e1
            rw [List.getElem?_eq_getElem hvl] at e2
            obtain rfl : VS[j] = V := by simpa using e2
            refine ⟨v, ?_, hV'⟩
            have hdl : d < a.tmps.size := by
              rw [I.tsz]
              have h1 := List.all_eq_true.1 hin _ (List.mem_of_getElem? (dsat j o ho))
              rw [hd] at h1
              simpa using h1
            rw [hd]
            exact put_self a d v hdl
          · rw [dsat j o ho] at e1
            have hd : o.dst = none := by simpa using e1
            rw [List.getElem?_eq_getElem hvl] at e2
            obtain rfl : VS[j] = V := by simpa using e2
            rw [← hv0 hd]
            exact hV'
        · rw [getD_set_ne false (Ne.symm hji)] at hj
          have hf := I.facts j hj
          refine ⟨fun d V e1 e2 => ?_, fun V e1 e2 => hK.2.2 j hji V e2 _ (hf.2 V e1 e2)⟩
          obtain ⟨v', h1, h2⟩ := hf.1 d V e1 e2
          refine ⟨v', ?_, hK.2.2 j hji V e2 _ h2⟩
          rw [put_other]
          · exact h1
          · intro e
            exact distinctD_spec hdis (by rw [dsat i o ho, e]) e1 (Ne.symm hji) rfl
      · by_cases hdi : d = i
        · subst hdi; simp [hLi]
        · rw [getD_set_ne false (Ne.symm hdi)]
          by_cases hji : j = i
          · subst hji; exact hdone d hd
          · rw [getD_set_ne false (Ne.symm hji)] at hj
            exact I.closed j hj d hd
      · by_cases hji : j = i
        · subst hji; simp [hLi] at hj
        · rw [getD_set_ne false (Ne.symm hji)] at hj
          exact hK.2.1 j hji U hU (I.pres j U hj hU)
      · by_cases hji : j = i
        · subst hji; simp [hLi] at hj
        · rw [getD_set_ne false (Ne.symm hji)] at hj
          rw [put_other]
          · exact I.olds2 j k hj hk
          · intro e
            exact distinctD_spec hdis (by rw [dsat i o ho, e]) hk (Ne.symm hji) rfl)
    unfold wpOp
    rw [ho]
    rw [yieldD_eq hds]
    simp only
    split
    · rename_i hw
      rw [if_pos hw] at hs
      exact .inl hs
    · rename_i hw
      rw [if_neg hw] at hs
      exact hs
  · have hl := all_listed2 hac I.lsz hr
    have hF : ∀ j, j < ds.length → Fact VS ds j a w := fun j hj => I.facts j (hl j (by omega))
    have e := puts_eq a ds (ds.map fun d => match d with | some d => a.tmps.getD d undef | none => undef) a0 (by simp) I.tsz I.dfr (fun d hd k hk => by
      have h1 := List.all_eq_true.1 hin _ hd
      rw [hk] at h1
      simpa using h1) (fun j d hd => by
      rw [List.getElem?_map, hd]
      have hj := (List.getElem?_eq_some_iff.1 hd).1
      obtain ⟨v, hv, _⟩ := (hF j hj).1 d _ hd (List.getElem?_eq_getElem (by omega))
      simp only [Option.map_some]
      rw [Array.getD_eq_getD_getElem?, hv]; rfl) (fun k hk => I.olds k (by simpa using hk))
    rw [e]
    refine hfin _ w (by simp) I.s (fun j V hV => ?_)
    have hj : j < ds.length := by rw [← hVS]; exact (List.getElem?_eq_some_iff.1 hV).1
    have hf := hF j hj
    rw [List.getD_eq_getElem?_getD, List.getElem?_map]
    have hdj := List.getElem?_eq_getElem hj
    rw [hdj]
    simp only [Option.map_some, Option.getD_some]
    cases hc : ds[j] with
    | none => rw [hc] at hdj; exact hf.2 V hdj hV
    | some d =>
      rw [hc] at hdj
      obtain ⟨v, hv, hVv⟩ := hf.1 d V hdj hV
      simp only
      rw [Array.getD_eq_getD_getElem?, hv]; exact hVv
  · have hr : ∀ j, (Array.replicate ops.size false).getD j false = false := by
      intro j
      by_cases h : j < ops.size <;> simp [h]
    refine ⟨by simp, rfl, rfl, hS0, fun _ _ => rfl, fun j hj => ?_, fun j hj => ?_, fun j U _ hU => hP0 U (List.mem_of_getElem? hU), fun _ _ _ _ => rfl⟩
    · rw [hr] at hj; cases hj
    · rw [hr] at hj; cases hj
/-- An iterator over a text. -/
def itW (it : Nat) (s : ByteArray) (k : Nat) : World → Prop := fun u => u.heap[it]? = some (.stringIter s k)
instance (it : Nat) (s : ByteArray) (k : Nat) : Stb (itW it s k) := ⟨fun _ _ hb h => iter_below hb h⟩
/-- A number that lies in memory. -/
def nwW (X : Option Addr) (n c x : Nat) : World → Prop := fun u => B.Nw u 0 X n c x
instance (X : Option Addr) (n c x : Nat) : Stb (nwW X n c x) := ⟨fun _ _ hb h => B.Nw.step h hb⟩
theorem nw_iterAt {w : World} {B' it k k' : Nat} {s : ByteArray} {A : Option Addr} {n c x : Nat} (h : B.Nw w B' A n c x) (hit : w.heap[it]? = some (.stringIter s k)) : B.Nw (w.iterAt it s k') B' A n c x := by
  refine ⟨h.1, h.2.1, h.2.2.imp id fun ⟨g, cap, cur, h1, h2, h3, h4⟩ => ⟨g, cap, cur, h1, h2, ?_, h4⟩⟩
  rw [Lib.iterAt_other _ _ _ _ _ (fun e => by
    subst e
    rw [hit] at h3
    cases h3)]
  exact h3
end Go.Proofs.YtgojnpblhfbdpaaGreatDoor

namespace Go.Proofs.YtgojnpblhfbdpaaGreatDoor
open Go Go.RowKit

theorem ent_number1 : Ent 158 := enters_of Tryz.func158 (by kernel_rfl) rfl
theorem ent_bvMul : Ent 160 := enters_of Tryz.func160 (by kernel_rfl) rfl
theorem ent_bvAdd : Ent 159 := enters_of Tryz.func159 (by kernel_rfl) rfl
theorem fi_mod (n m : Nat) : B.fi (n : Int) m = n % 2 ^ m := by
  unfold B.fi
  have : ((n : Int) % (2 : Int) ^ m) = ((n % 2 ^ m : Nat) : Int) := by
    rw [Int.natCast_emod, Int.natCast_pow]
    rfl
  rw [this, Int.toNat_natCast]
set_option maxRecDepth 100000 in
theorem numberL1_any (n wd gw : Nat) (w : World) (hn : n ≤ 1000000) (hw : wd ≤ 128) (hc : w.cell? ⟨gw, 0, none⟩ = some (.int .i64 (wd : Int))) :
    Calls Tryz.prog 158 #[.int .i64 (n : Int), .pointer (some ⟨gw, 0, none⟩)] w fun e w' => ∃ A c, e = .returned (.slice A wd c) ∧ B.Nw w' 0 A wd c (n % 2 ^ wd) ∧ Below w.heap.size w w' := by
  have HF := B.fromInt_any (n : Int) wd w (by omega) hw
  rw [fi_mod] at HF
  replace HF := Lib.hid HF
  go_enter Tryz.func158, Tryz.ntmps158
  go_wp2_with (first | (go_at_call 70; (refine HF.out.mono ?_); rintro e w1 ⟨A, c, rfl, hN, hb⟩))
  go_ret
  exact ⟨A, c, rfl, hN.mono (Nat.zero_le _), hb⟩
/-- What the loop over the digits keeps. -/
def NumI (wd : Nat) (d : List UInt8) (W : World) (it : Nat) (f : Nat) (v : Value) (u : World) : Prop :=
  ∃ k A c, v = .slice A wd c ∧ B.Nw u 0 A wd c (valL (d.take k) % 2 ^ wd) ∧ u.heap[it]? = some (.stringIter (str d) k) ∧ Below W.heap.size W u ∧ k + f = d.length
theorem val_step {d : List UInt8} {k : Nat} (h : k < d.length) (wd : Nat) : ((valL (d.take k) % 2 ^ wd * (10 % 2 ^ wd)) % 2 ^ wd + vlC d[k] % 2 ^ wd) % 2 ^ wd = valL (d.take (k + 1)) % 2 ^ wd := by
  rw [List.take_succ_eq_append_getElem h, valL_snoc, ← Nat.mul_mod, ← Nat.add_mod, Nat.mul_comm]
theorem frN_mod (n x : Nat) : frN n (x % 2 ^ n) = frN n x := tab_congr fun i hi => by rw [Nat.testBit_mod_two_pow]; simp [hi]
theorem nw_alloc0 {w : World} {A : Option Addr} {n c : Nat} {o : Obj} (h : B.Nw w 0 A n c (0 % 2 ^ n)) : B.Nw (w.alloc o) 0 A n c (0 % 2 ^ n) := h.alloc o
theorem nw_far {w : World} {B' g' : Nat} {A : Option Addr} {n c x : Nat} {cs : Array Value} (h : B.Nw w B' A n c x) (O : Own w g' 58 cs) (i : Nat) (v : Value) : B.Nw (w.setCell ⟨g', i, none⟩ v) B' A n c x := by
  refine ⟨h.1, h.2.1, h.2.2.imp id fun ⟨g, cap, cur, h1, h2, h3, h4⟩ => ⟨g, cap, cur, h1, h2, ?_, h4⟩⟩
  exact Own.far (p := ⟨g', i, none⟩) h3 (fun e => by
    have e' : g = g' := e
    subst e'
    have h5 : w.heap[g]? = _ := h3
    have h6 : w.heap[g]? = _ := O
    rw [h5] at h6
    have := Option.some.inj h6
    simp at this) v
def NumJ (wd x : Nat) (W : World) (gb : Nat) (A : Option Addr) (c : Nat) (i : Value) (u : World) : Prop :=
  ∃ k : Nat, k ≤ wd ∧ i = .int .i64 (k : Int) ∧ Own u gb 58 (ia (ups wd (fun i => fromI (x.testBit i)) k)) ∧ Below W.heap.size W u ∧ B.Nw u 0 A wd c x
set_option maxRecDepth 100000 in
set_option maxHeartbeats 4000000 in
theorem numberL_any (wd b : Nat) (d : List UInt8) (w : World) (hw1 : 1 ≤ wd) (hw : wd ≤ 128) (hdd : ∀ c ∈ d, decC c = true) (hcb : w.cell? ⟨b, 0, none⟩ = some (.int .i64 (10 : Int))) :
    Calls Tryz.prog 129 #[.agg #[.int .i64 0, .func (.func 136) #[] #[.pointer (some ⟨b, 0, none⟩)]], .string (str d), .int .i64 (wd : Int)] w fun e w' => ∃ A c, e = .returned (.slice A wd c) ∧ Nb w' w.heap.size A wd c (frN wd (valL d)) ∧ Below w.heap.size w w' := by
  have O0 := (Own.at1 w 81 #[.int .i64 0, .func (.func 136) #[] #[.pointer (some ⟨b, 0, none⟩)]] (g := w.heap.size) (by simp)).alloc (.cells #[.int .i64 (wd : Int)] 3)
  have O1 := Own.at1 (w.alloc (.cells #[.int .i64 0, .func (.func 136) #[] #[.pointer (some ⟨b, 0, none⟩)]] 81)) 3 #[.int .i64 (wd : Int)] (g := w.heap.size + 1) (by simp)
  have BB := below_new (below_new (Below.refl w.heap.size w) (.cells #[.int .i64 0, .func (.func 136) #[] #[.pointer (some ⟨b, 0, none⟩)]] 81)) (.cells #[.int .i64 (wd : Int)] 3)
  have H0 := Lib.hid (numberL1_any 0 wd (w.heap.size + 1) _ (by omega) hw (O1.cell 0))
  go_enter Tryz.func129, Tryz.ntmps129
  go_wp2_with (first | (go_at_call 158; (refine H0.out.mono ?_); rintro e w1 ⟨A0, c0, rfl, hN0, hb0⟩; replace O0 := O0.step hb0; replace O1 := O1.step hb0; replace BB := below_step BB hb0))
  have hit0 := World.iter_heap w1 (str d) 0
  have hv0 : valL (d.take 0) = 0 := rfl
  go_loopg [8] d.length (NumI wd d w1 w1.heap.size)
  case atStart => exact ⟨0, A0, c0, rfl, by rw [hv0]; exact nw_alloc0 hN0, hit0, below_new (Below.refl _ _) _, by omega⟩
  case round =>
    clear hit0 hv0
    obtain ⟨k, A, c, rfl, hN, hit, hb, hf⟩ := hrel
    by_cases hk : k < d.length
    · obtain ⟨g', rfl⟩ : ∃ g', gk = g' + 1 := ⟨gk - 1, by omega⟩
      have hdc := hdd _ (List.getElem_mem hk)
      have hc128 : (d[k]).toNat < 128 := by have := dec_bd hdc; omega
      have hv10 : vlC d[k] < 10 := (dec_digC hdc).2.2.2
      have hnx := next_asc hit hk hc128
      have hit2 := Lib.iterAt_heap wr _ (str d) k (k + 1) hit
      have hb2 := Lib.below_iterAt hb (k := w1.heap.size) (Nat.le_refl _) (str d) (k + 1)
      have hN2 := nw_iterAt (k' := k + 1) hN hit
      have hvs := Lib.hid (val_step hk wd)
      generalize wr.iterAt w1.heap.size (str d) (k + 1) = W at hnx hit2 hb2 hN2
      generalize valL (d.take k) % 2 ^ wd = x at *
      generalize d[k] = ch at *
      clear hit hb hN
      go_wp2
      have S0 : ownT w.heap.size 81 #[.int .i64 0, .func (.func 136) #[] #[.pointer (some ⟨b, 0, none⟩)]] W ∧ (celA b 0 (.int .i64 (10 : Int)) W ∧ (celA (w.heap.size + 1) 0 (.int .i64 (wd : Int)) W ∧ (itW w1.heap.size (str d) (k + 1) W ∧ (nwW A wd c x W ∧ blw w1 W)))) := ⟨O0.step hb2, cell_step (below_step BB hb2) hcb, (O1.step hb2).cell 0, hit2, hN2, hb2⟩
      have S1 := (inferInstance : Stb (fun u => ownT w.heap.size 81 #[.int .i64 0, .func (.func 136) #[] #[.pointer (some ⟨b, 0, none⟩)]] u ∧ (celA b 0 (.int .i64 (10 : Int)) u ∧ (celA (w.heap.size + 1) 0 (.int .i64 (wd : Int)) u ∧ (itW w1.heap.size (str d) (k + 1) u ∧ (nwW A wd c x u ∧ blw w1 u)))))).st W W.drew (below_drew (Below.refl _ _)) S0
      clear O0 O1 BB hcb hit2 hN2 hb2 S0
      refine region_x (by kernel_rfl) (fun u => ownT w.heap.size 81 #[.int .i64 0, .func (.func 136) #[] #[.pointer (some ⟨b, 0, none⟩)]] u ∧ (celA b 0 (.int .i64 (10 : Int)) u ∧ (celA (w.heap.size + 1) 0 (.int .i64 (wd : Int)) u ∧ (itW w1.heap.size (str d) (k + 1) u ∧ (nwW A wd c x u ∧ blw w1 u)))))
        [tru, tru, tru, tru, tru, tru, tru, tru, tru, tru, tru, tru]
        [isV (.slice A wd c), isV (.func (.func 158) #[] #[.pointer (some ⟨w.heap.size + 1, 0, none⟩)]), isNum wd (10 % 2 ^ wd), isNum wd ((x * (10 % 2 ^ wd)) % 2 ^ wd), isV (.func (.func 158) #[] #[.pointer (some ⟨w.heap.size + 1, 0, none⟩)]), isV (.pointer (some ⟨w.heap.size, 1, none⟩)), isV (.func (.func 136) #[] #[.pointer (some ⟨b, 0, none⟩)]), isV (.int .i32 (ch.toNat : Int)), isV (.int .i64 (vlC ch : Int)), isNum wd (vlC ch % 2 ^ wd), isNum wd (((x * (10 % 2 ^ wd)) % 2 ^ wd + vlC ch % 2 ^ wd) % 2 ^ wd), isNum wd (((x * (10 % 2 ^ wd)) % 2 ^ wd + vlC ch % 2 ^ wd) % 2 ^ wd)]
        [some 22, some 23, some 24, some 25, some 26, some 27, some 28, some 29, some 30, some 31, some 32, some 8] [[], [], [1], [0, 2, 2], [], [], [5], [], [6, 7, 3], [4, 8, 8], [3, 9, 9], [10, 10, 0, 1, 2, 3, 4, 5, 6, 7, 8, 9, 10]] (by kernel_rfl) (by kernel_rfl) rfl (by kernel_rfl) (by kernel_rfl) (by kernel_rfl) S1 (by
        intro U hU
        simp only [List.mem_cons, List.not_mem_nil, or_false, or_self] at hU
        subst hU
        trivial) ?_ ?_
      · refine ⟨?_, ?_, ?_, ?_, ?_, ?_, ?_, ?_, ?_, ?_, ?_, ?_, trivial⟩
        · intro a w' hS hO hF' hP hX K hK
          have ha := hX 11 8 (by rfl) (by rfl)
          refine if_ok (by rfl) ?_
          refine wp_mv _ rfl (ev ha) ?_
          exact hK _ w' (fun h => by cases h) (keep_same hS) rfl
        · intro a w' hS hO hF' hP hX K hK
          have ha := hO 7 (by rfl)
          refine if_ok (by rfl) ?_
          refine wp_mv _ rfl (ev ha) ?_
          exact hK _ w' (fun h => by cases h) (keep_same hS) rfl
        · intro a w' hS hO hF' hP hX K hK
          obtain ⟨_, f0, rfl⟩ := (hF' 1 rfl).1 23 _ rfl rfl
          refine if_ok (by rfl) ?_
          refine wp_callv rfl (ev f0) ent_number1 (args := #[.int .i64 ((10 : Nat) : Int)]) (by simp [Act.eval]) ?_
          refine (numberL1_any 10 wd (w.heap.size + 1) w' (by decide) hw hS.2.2.1).mono ?_
          rintro e w9 ⟨A9, c9, rfl, hN9, hb9⟩
          exact ⟨_, rfl, hK _ w9 (fun h => by cases h) (keep_below hb9 hS) ⟨A9, c9, rfl, hN9⟩⟩
        · intro a w' hS hO hF' hP hX K hK
          obtain ⟨_, f0, rfl⟩ := (hF' 0 rfl).1 22 _ rfl rfl
          obtain ⟨_, f1, A8, c8, rfl, hN8⟩ := (hF' 2 rfl).1 24 _ rfl rfl
          refine if_ok (by rfl) ?_
          refine wp_calls rfl ent_bvMul (args := #[.slice A wd c, .slice A8 wd c8]) (by simp [Act.eval, f0, f1]) ?_
          refine (B.mul_any A A8 wd c _ wd c8 _ w' (B.Nw.rd hS.2.2.2.2.1) hN8.rd (by omega) (by omega)).mono ?_
          rintro e w9 ⟨A9, c9, rfl, hN9, hb9⟩
          exact ⟨_, rfl, hK _ w9 (fun h => by cases h) (keep_below hb9 hS) ⟨A9, c9, rfl, hN9.mono (Nat.zero_le _)⟩⟩
        · intro a w' hS hO hF' hP hX K hK
          have ha := hO 7 (by rfl)
          refine if_ok (by rfl) ?_
          refine wp_mv _ rfl (ev ha) ?_
          exact hK _ w' (fun h => by cases h) (keep_same hS) rfl
        · intro a w' hS hO hF' hP hX K hK
          have ha := hO 3 (by rfl)
          refine if_ok (by rfl) ?_
          refine wp_val (w' := w') (q := .pointer (some ⟨w.heap.size, 1, none⟩)) (by unfold execOp; simp only [ev ha]; simp [go_sem]) ?_
          exact hK _ w' (fun h => by cases h) (keep_same hS) rfl
        · intro a w' hS hO hF' hP hX K hK
          obtain ⟨_, f0, rfl⟩ := (hF' 5 rfl).1 27 _ rfl rfl
          have hc := Own.cell hS.1 1
          refine if_ok (by rfl) ?_
          refine wp_val (w' := w') (q := .func (.func 136) #[] #[.pointer (some ⟨b, 0, none⟩)]) (by unfold execOp; simp only [ev f0]; simp [go_sem, hc]) ?_
          exact hK _ w' (fun h => by cases h) (keep_same hS) rfl
        · intro a w' hS hO hF' hP hX K hK
          have ha := hO 10 (by rfl)
          refine if_ok (by rfl) ?_
          refine wp_mv _ rfl (ev ha) ?_
          exact hK _ w' (fun h => by cases h) (keep_same hS) rfl
        · intro a w' hS hO hF' hP hX K hK
          obtain ⟨_, f0, rfl⟩ := (hF' 6 rfl).1 28 _ rfl rfl
          obtain ⟨_, f1, rfl⟩ := (hF' 7 rfl).1 29 _ rfl rfl
          refine if_ok (by rfl) ?_
          refine wp_callv rfl (ev f0) ent_below1 (args := #[.int .i32 (ch.toNat : Int)]) (by simp [Act.eval, f1]) ?_
          have hbl := below1_any b 10 ch.toNat hc128 (.inr (.inr (.inl rfl))) w' hS.2.1
          rw [dv_yes hv10] at hbl
          refine hbl.mono ?_
          rintro e w9 ⟨rfl, rfl⟩
          exact ⟨_, rfl, hK _ w' (fun h => by cases h) (keep_same hS) rfl⟩
        · intro a w' hS hO hF' hP hX K hK
          obtain ⟨_, f0, rfl⟩ := (hF' 4 rfl).1 26 _ rfl rfl
          obtain ⟨_, f1, rfl⟩ := (hF' 8 rfl).1 30 _ rfl rfl
          refine if_ok (by rfl) ?_
          refine wp_callv rfl (ev f0) ent_number1 (args := #[.int .i64 (vlC ch : Int)]) (by simp [Act.eval, f1]) ?_
          refine (numberL1_any (vlC ch) wd (w.heap.size + 1) w' (by omega) hw hS.2.2.1).mono ?_
          rintro e w9 ⟨A9, c9, rfl, hN9, hb9⟩
          exact ⟨_, rfl, hK _ w9 (fun h => by cases h) (keep_below hb9 hS) ⟨A9, c9, rfl, hN9⟩⟩
        · intro a w' hS hO hF' hP hX K hK
          obtain ⟨_, f0, A7, c7, rfl, hN7⟩ := (hF' 3 rfl).1 25 _ rfl rfl
          obtain ⟨_, f1, A8, c8, rfl, hN8⟩ := (hF' 9 rfl).1 31 _ rfl rfl
          refine if_ok (by rfl) ?_
          refine wp_calls rfl ent_bvAdd (args := #[.slice A7 wd c7, .slice A8 wd c8]) (by simp [Act.eval, f0, f1]) ?_
          refine (B.add_any A7 A8 wd c7 _ wd c8 _ w' hN7.rd hN8.rd (by omega) (by omega)).mono ?_
          rintro e w9 ⟨A9, c9, rfl, hN9, hb9⟩
          exact ⟨_, rfl, hK _ w9 (fun h => by cases h) (keep_below hb9 hS) ⟨A9, c9, rfl, hN9.mono (Nat.zero_le _)⟩⟩
        · intro a w' hS hO hF' hP hX K hK
          obtain ⟨_, f0, A9, c9, rfl, hN9⟩ := (hF' 10 rfl).1 32 _ rfl rfl
          refine if_ok (by rfl) ?_
          refine wp_val (w' := w') (q := .slice A9 wd c9) (by unfold execOp; simp only [Sem.run_pure, ev f0]) ?_
          exact hK _ w' (fun h => by cases h) (keep_same hS) ⟨A9, c9, rfl, hN9⟩
      · intro vs u hl hS hV
        match vs, hl, hV with
        | [v0, v1, v2, v3, v4, v5, v6, v7, v8, v9, v10, v11], _, hV =>
          simp only [puts, Act.put, List.setIfInBounds_toArray, List.set_cons_zero, List.set_cons_succ]
          obtain ⟨A9, c9, rfl, hN9⟩ := hV 11 _ rfl
          obtain ⟨_, _, _, hit9, _, hb9⟩ := hS
          clear hV
          go_wp2
          go_roundg g'
          case measure => omega
          case rel => exact ⟨k + 1, A9, c9, rfl, by rw [hvs.out] at hN9; exact hN9, hit9, hb9, by omega⟩
    · have hnx := next_end hit hk
      have hke : k = d.length := by omega
      rw [hke, List.take_length] at hN
      replace hke := Lib.hid hke
      have O2 := O1.step hb
      have q0 := O2.cell 0
      have hmk := fun (W : World) => run_makeV wd (by omega) W
      have hvl := Lib.hid (frN_mod wd (valL d))
      generalize valL d % 2 ^ wd = x at *
      replace hit := Lib.hid hit
      clear hk hf hdd
      go_wp2
      go_loopw [37] (NumJ wd x w1 wr.heap.size A c) (fun i _ => wd - (intOf i).toNat)
      case atStart => exact ⟨0, Nat.zero_le _, rfl, by rw [ups_zero]; exact Own.new _ _ _, below_new hb _, hN.alloc _⟩
      case round =>
        rename_i wr0 _
        obtain ⟨j, hj, rfl, Q, hb3, hN3⟩ := hrel
        clear q0 O2 hmk hN
        by_cases hlt : j < wd
        · obtain ⟨b', o', hA, hbl, hcell⟩ := hN3.rd.at_ hlt
          have hA' := Lib.hid hA
          have hnext := Lib.hid (ups_next (fun i => fromI (x.testBit i)) hlt)
          generalize hy : x.testBit j = y at hcell
          replace hy := Lib.hid hy
          have HF := Lib.hid fun (u : World) => from_any y u
          have Q1 := Q
          have q0 := (Q1.cell j).trans (ia_get (by rw [ups_len]; exact hlt))
          have f0 := Q1.free j
          subst hA
          clear Q1
          go_wp2_with (first | (go_at_call 115; (refine (HF.out _).mono ?_); rintro e w5 ⟨rfl, m, rfl⟩))
          go_roundw
          case rel =>
            refine ⟨j + 1, by omega, by go_num, ?_, below_set (below_drewN hb3 m) hb.size _, nw_far (B.Nw.drewN hN3 m) (Own.drewN Q m) j _⟩
            rw [← hnext.out, ← ia_set, hy.out]
            exact (Own.drewN Q m).put j _
          case measure => simp [intOf]; omega
        · obtain rfl : j = wd := by omega
          rw [ups_last] at Q
          go_wp2
          go_ret
          refine ⟨_, _, rfl, ?_, below_step BB hb3⟩
          rw [← hvl.out]
          exact Nb.of_own Q (nnL_tab fun i _ => by cases x.testBit i <;> decide) (tab_len _ _) (by have := BB.size; have := hb.size; omega) (by unfold maxLen; omega)
end Go.Proofs.YtgojnpblhfbdpaaGreatDoor

namespace Go.Proofs.YtgojnpblhfbdpaaGreatDoor
open Go Go.RowKit

/-- The first bits replaced. -/
def ovr (wd : Nat) (f : Int) (m : Nat) (low : List Int) : List Int := tab wd fun i => if i < m then nth low i else f
theorem ovr_take (wd : Nat) (f : Int) (m : Nat) (low : List Int) (cur : List Value) (hl : low.length = m) (ht : cur.take wd = il (tab wd fun _ => f)) :
    (splice cur 0 (il (low.take (min m wd)))).take wd = il (ovr wd f m low) := by
  apply List.ext_getElem?
  intro i
  unfold splice
  have hcl : (il (low.take (min m wd))).length = min m wd := by rw [il_length, List.length_take]; omega
  rw [List.take_zero, List.nil_append, Nat.zero_add, hcl]
  by_cases hi : i < wd
  · rw [List.getElem?_take, if_pos hi, il_get (by rw [ovr, tab_len]; exact hi), ovr, nth_tab _ hi]
    by_cases hm : i < m
    · rw [List.getElem?_append_left (by rw [hcl]; omega), il_get (by rw [List.length_take]; omega), if_pos hm]
      simp only [nth, List.getD_eq_getElem?_getD, List.getElem?_take, if_pos (show i < min m wd by omega)]
    · rw [List.getElem?_append_right (by rw [hcl]; omega), hcl, List.getElem?_drop, show min m wd + (i - min m wd) = i by omega, if_neg hm]
      have h1 : (cur.take wd)[i]? = (il (tab wd fun _ => f))[i]? := by rw [ht]
      rw [List.getElem?_take, if_pos hi, il_get (by rw [tab_len]; exact hi), nth_tab _ hi] at h1
      exact h1
  · rw [List.getElem?_eq_none (by rw [List.length_take]; omega), List.getElem?_eq_none (by rw [il_length, ovr, tab_len]; omega)]
theorem copy_bits {ops : Array Oper} {rest : List Oper} {o : Oper} {a : Act} {Q : Exit → Act → World → Prop} {w W : World} {B : Nat} (hgd : o.guard = none) (d s : Operand)
    (ho : o.op = .call { callee := .builtin .copy, args := #[d, s], argTypes := #[24, 24] }) {A : Option Addr} {wd c : Nat} {f : Int} (hd : a.eval d = .slice A wd c) (hv : Nb w B A wd c (tab wd fun _ => f)) (hwd : 0 < wd) (hf : 0 ≤ f)
    {X : Option Addr} {m cm : Nat} {low : List Int} (hs : a.eval s = .slice X m cm) (hx : Rb w X m low) (hb : Below W.heap.size W w) (hBW : W.heap.size ≤ B)
    (h : ∀ (w' : World) (k : Nat), Nb w' B A wd c (ovr wd f m low) → Below W.heap.size W w' → wpList Tryz.prog ops Q rest (a.put o.dst (goInt k)) w') : wpList Tryz.prog ops Q (o :: rest) a w := by
  obtain ⟨hl, hnn, hlen, hrow⟩ := hv
  rcases hrow with ⟨e, h0⟩ | ⟨g, cap, cur, e, hB, hown, hc, hm, hsz, ht⟩
  · omega
  · simp only [Value.slice.injEq] at e
    obtain ⟨rfl, _, rfl⟩ := e
    have hsz' : cur.size = c := by simpa using hsz
    have ht' : cur.toList.take wd = il (tab wd fun _ => f) := by simpa using ht
    have hcl : (il (low.take (min m wd))).length = min m wd := by rw [il_length, List.length_take, hx.len]; omega
    refine wpList_copy_splice hgd d s 24 24 ho 58 Tryz.underlying24 (by kernel_rfl) (some ⟨g, 0, none⟩) X wd c m cm hd hs g 0 cur.toList 58 (by simpa using hown) (il (low.take (min m wd))) hcl (fun hp => ?_) (by rw [hcl, Array.length_toList]; omega) (il_one _) W.heap.size W hb (by omega) fun w' hO hb' => ?_
    · rw [hcl] at hp
      obtain ⟨b, o', hX, _, hcell⟩ := hx.2.2 (by omega)
      refine ⟨rfl, ⟨b, o', none⟩, hX, fun j v hj => ?_⟩
      have hjl : j < min m wd := by have := (List.getElem?_eq_some_iff.1 hj).1; omega
      rw [il_get (by rw [List.length_take, hx.len]; omega)] at hj
      have := hcell j (by omega)
      have hn : nth (low.take (min m wd)) j = nth low j := by simp only [nth, List.getD_eq_getElem?_getD, List.getElem?_take, if_pos hjl]
      rw [hn] at hj
      rw [← hj]
      unfold Addr.add
      split
      · rename_i h0; subst h0; exact this
      · exact this
    · refine h w' _ ⟨tab_len _ _, nnL_tab fun i _ => ?_, by rw [il_length, ovr, tab_len]; omega, .inr ⟨g, c, _, rfl, hB, hO, hc, hm, ?_, ?_⟩⟩ hb'
      · split
        · exact hx.nn.nth i
        · exact hf
      · unfold splice
        simp only [List.size_toArray, List.length_append, List.length_take, List.length_drop, hcl, Array.length_toList]
        omega
      · have := ovr_take wd f m low cur.toList hx.len ht'
        simpa using this
end Go.Proofs.YtgojnpblhfbdpaaGreatDoor

namespace Go.Proofs.YtgojnpblhfbdpaaGreatDoor
open Go Go.RowKit

theorem rep_one (f : Int) (wd : Nat) (X : Option Addr) (u : World) (h : Rb u X 1 [f]) (h1 : 1 ≤ wd) (h2 : wd ≤ 128) :
    Calls Tryz.prog 130 #[.slice X 1 1, .int .i64 (wd : Int)] u fun e w' => ∃ A c, e = .returned (.slice A wd c) ∧ Nb w' u.heap.size A wd c (tab wd fun _ => f) ∧ Below u.heap.size u w' := by
  refine (srepeat_any X 1 1 wd [f] u h (by decide) (by omega) (by omega)).mono fun e w' ⟨A, c, he, hN, hb⟩ => ?_
  have e1 : rp [f] 1 wd = tab wd fun _ => f := by
    unfold rp
    rw [Nat.one_mul]
    exact tab_congr fun i _ => by rw [Nat.mod_one]; rfl
  have e2 : (rp [f] 1 wd).length = wd := by rw [rp_len, Nat.one_mul]
  rw [e2] at he hN
  rw [e1] at hN
  exact ⟨A, c, he, hN, hb⟩
theorem rb_new (w : World) (f : Int) (hf : 0 ≤ f) : Rb (w.alloc (.cells #[.int .u8 f] 58)) (some ⟨w.heap.size, 0, none⟩) 1 [f] :=
  Rb.of_own (l := [f]) (Own.new w 58 #[.int .u8 f]) (nnL_one hf) rfl
set_option maxRecDepth 100000 in
set_option maxHeartbeats 2000000 in
/-- Bases 2, 8 and 16. -/
theorem bits_grp (g base b wd : Nat) (c0 : UInt8) (t : List UInt8) (w : World) (hw1 : 1 ≤ wd) (hw : wd ≤ 128) (hg1 : 1 ≤ g) (hg4 : g ≤ 4) (hbq : baseQ base) (ha : asc (c0 :: t)) (hok : ∀ c ∈ c0 :: t, vlC c < base ∨ unQ (c.toNat : Int) = true) (hl : (c0 :: t).length ≤ 256) (hcb : w.cell? ⟨b, 0, none⟩ = some (.int .i64 (base : Int))) :
    Calls Tryz.prog 90 #[.agg #[.int .i64 (g : Int), .func (.func 136) #[] #[.pointer (some ⟨b, 0, none⟩)]], .string (str (c0 :: t)), .int .i64 (wd : Int)] w fun e w' => ∃ A c, e = .returned (.slice A wd c) ∧ Nb w' w.heap.size A wd c (ovr wd (unI (c0.toNat : Int)) ((c0 :: t).length * g) ((c0 :: t).reverse.flatMap (dgB g))) ∧ Below w.heap.size w w' := by
  have O0 := (Own.at1 w 81 #[.int .i64 (g : Int), .func (.func 136) #[] #[.pointer (some ⟨b, 0, none⟩)]] (g := w.heap.size) (by simp))
  have BB := below_new (Below.refl w.heap.size w) (.cells #[.int .i64 (g : Int), .func (.func 136) #[] #[.pointer (some ⟨b, 0, none⟩)]] 81)
  have q0 := O0.cell 0
  have q1 := O0.cell 1
  have hc0 := str_0 c0 t
  have h128 := ha c0 (by simp)
  have HU := Lib.hid fun (u : World) => unknown_any (c0.toNat : Int) (by omega) (by omega) u
  have HS := Lib.hid fun (u : World) (hb : Below w.heap.size w u) => spread_any g base b (c0 :: t) u hg1 hg4 hbq ha hok (by simp) hl (cell_step hb hcb)
  have hnn := unI_nn (c0.toNat : Int)
  generalize (c0 :: t).reverse.flatMap (dgB g) = low at *
  generalize (c0 :: t).length * g = m at *
  generalize unQ (c0.toNat : Int) = q at *
  generalize unI (c0.toNat : Int) = f at *
  have HR := Lib.hid fun (X : Option Addr) (u : World) (h : Rb u X 1 [f]) => rep_one f wd X u h hw1 hw
  go_enter Tryz.func90, Tryz.ntmps90
  go_wp2_with (first
    | (go_at_call 127; (with_reducible refine (HU.out _).mono ?_); rintro e w' ⟨rfl, rfl⟩)
    | (go_at_call 128; (refine (HS.out _ BB).mono ?_); rintro e w1 ⟨A1, c1, rfl, hN1, hb1⟩; replace BB := below_step BB hb1)
    | (go_at_call 130; (refine (HR.out _ _ (rb_new _ f hnn)).mono ?_); rintro e w2 ⟨A2, c2, rfl, hN2, hb2⟩; have hr1 := (hN1.rd.alloc (.cells #[.int .u8 f] 58)).step hb2; have hsz := (below_new BB (.cells #[.int .u8 f] 58)).size; replace BB := below_step (below_new BB (.cells #[.int .u8 f] 58)) hb2)
    | (refine copy_bits rfl (.tmp 36) (.tmp 37) rfl rfl hN2 (by omega) hnn rfl hr1 BB hsz ?_; intro w3 k3 hN3 hb3))
  go_ret
  exact ⟨_, _, rfl, hN3.mono hsz, hb3⟩
set_option maxRecDepth 100000 in
set_option maxHeartbeats 2000000 in
/-- Base 10, a number. -/
theorem bits_dec (b wd : Nat) (c0 : UInt8) (t : List UInt8) (w : World) (hw1 : 1 ≤ wd) (hw : wd ≤ 128) (hdd : ∀ c ∈ c0 :: t, decC c = true) (hq : unQ (c0.toNat : Int) = false) (hcb : w.cell? ⟨b, 0, none⟩ = some (.int .i64 (10 : Int))) :
    Calls Tryz.prog 90 #[.agg #[.int .i64 0, .func (.func 136) #[] #[.pointer (some ⟨b, 0, none⟩)]], .string (str (c0 :: t)), .int .i64 (wd : Int)] w fun e w' => ∃ A c, e = .returned (.slice A wd c) ∧ Nb w' w.heap.size A wd c (ovr wd (unI (c0.toNat : Int)) wd (frN wd (valL (c0 :: t)))) ∧ Below w.heap.size w w' := by
  have O0 := (Own.at1 w 81 #[.int .i64 0, .func (.func 136) #[] #[.pointer (some ⟨b, 0, none⟩)]] (g := w.heap.size) (by simp))
  have BB := below_new (Below.refl w.heap.size w) (.cells #[.int .i64 0, .func (.func 136) #[] #[.pointer (some ⟨b, 0, none⟩)]] 81)
  have q0 := O0.cell 0
  have q1 := O0.cell 1
  have hc0 := str_0 c0 t
  have h128 : c0.toNat < 128 := by have := dec_bd (hdd c0 (by simp)); omega
  have HU := Lib.hid fun (u : World) => unknown_any (c0.toNat : Int) (by omega) (by omega) u
  have HS := Lib.hid fun (u : World) (hb : Below w.heap.size w u) => numberL_any wd b (c0 :: t) u hw1 hw hdd (cell_step hb hcb)
  have hnn := unI_nn (c0.toNat : Int)
  rw [hq] at HU
  generalize frN wd (valL (c0 :: t)) = low at *
  generalize unI (c0.toNat : Int) = f at *
  have HR := Lib.hid fun (X : Option Addr) (u : World) (h : Rb u X 1 [f]) => rep_one f wd X u h hw1 hw
  go_enter Tryz.func90, Tryz.ntmps90
  go_wp2_with (first
    | (go_at_call 127; (with_reducible refine (HU.out _).mono ?_); rintro e w' ⟨rfl, rfl⟩)
    | (go_at_call 129; (refine (HS.out _ BB).mono ?_); rintro e w1 ⟨A1, c1, rfl, hN1, hb1⟩; replace BB := below_step BB hb1)
    | (go_at_call 130; (refine (HR.out _ _ (rb_new _ f hnn)).mono ?_); rintro e w2 ⟨A2, c2, rfl, hN2, hb2⟩; have hr1 := (hN1.rd.alloc (.cells #[.int .u8 f] 58)).step hb2; have hsz := (below_new BB (.cells #[.int .u8 f] 58)).size; replace BB := below_step (below_new BB (.cells #[.int .u8 f] 58)) hb2)
    | (refine copy_bits rfl (.tmp 36) (.tmp 37) rfl rfl hN2 (by omega) hnn rfl hr1 BB hsz ?_; intro w3 k3 hN3 hb3))
  go_ret
  exact ⟨_, _, rfl, hN3.mono hsz, hb3⟩
set_option maxRecDepth 100000 in
set_option maxHeartbeats 2000000 in
/-- Base 10, x or z. -/
theorem bits_unk (b wd : Nat) (c0 : UInt8) (t : List UInt8) (w : World) (hw1 : 1 ≤ wd) (hw : wd ≤ 128) (h128 : c0.toNat < 128) (hq : unQ (c0.toNat : Int) = true) :
    Calls Tryz.prog 90 #[.agg #[.int .i64 0, .func (.func 136) #[] #[.pointer (some ⟨b, 0, none⟩)]], .string (str (c0 :: t)), .int .i64 (wd : Int)] w fun e w' => ∃ A c, e = .returned (.slice A wd c) ∧ Nb w' w.heap.size A wd c (ovr wd (unI (c0.toNat : Int)) 0 []) ∧ Below w.heap.size w w' := by
  have O0 := (Own.at1 w 81 #[.int .i64 0, .func (.func 136) #[] #[.pointer (some ⟨b, 0, none⟩)]] (g := w.heap.size) (by simp))
  have BB := below_new (Below.refl w.heap.size w) (.cells #[.int .i64 0, .func (.func 136) #[] #[.pointer (some ⟨b, 0, none⟩)]] 81)
  have q0 := O0.cell 0
  have q1 := O0.cell 1
  have hc0 := str_0 c0 t
  have HU := Lib.hid fun (u : World) => unknown_any (c0.toNat : Int) (by omega) (by omega) u
  have hnn := unI_nn (c0.toNat : Int)
  rw [hq] at HU
  generalize unI (c0.toNat : Int) = f at *
  have HR := Lib.hid fun (X : Option Addr) (u : World) (h : Rb u X 1 [f]) => rep_one f wd X u h hw1 hw
  have hX : Rb ((w.alloc (.cells #[.int .i64 0, .func (.func 136) #[] #[.pointer (some ⟨b, 0, none⟩)]] 81)).alloc (.cells #[.int .u8 f] 58)) (some ⟨w.heap.size + 1, 0, none⟩) 1 [f] := by
    have := rb_new (w.alloc (.cells #[.int .i64 0, .func (.func 136) #[] #[.pointer (some ⟨b, 0, none⟩)]] 81)) f hnn
    simpa using this
  have HX := Lib.hid (HR.out _ _ hX)
  have hsz := (below_new BB (.cells #[.int .u8 f] 58)).size
  replace BB := below_new BB (.cells #[.int .u8 f] 58)
  clear HR hX
  go_enter Tryz.func90, Tryz.ntmps90
  go_wp2_with (first
    | (go_at_call 127; (with_reducible refine (HU.out _).mono ?_); rintro e w' ⟨rfl, rfl⟩)
    | (go_at_call 130; (refine HX.out.mono ?_); rintro e w2 ⟨A2, c2, rfl, hN2, hb2⟩; have hr1 := Rb.nil w2; replace BB := below_step BB hb2)
    | (refine copy_bits rfl (.tmp 36) (.tmp 37) rfl rfl hN2 (by omega) hnn rfl hr1 BB hsz ?_; intro w3 k3 hN3 hb3))
  go_ret
  exact ⟨_, _, rfl, hN3.mono hsz, hb3⟩
theorem ovr_tab (wd : Nat) (f : Int) (low : List Int) (h : low.length = wd) : ovr wd f wd low = low := by
  refine list_ext (by rw [ovr, tab_len, h]) fun i hi => ?_
  rw [ovr, tab_len] at hi
  rw [ovr, nth_tab _ hi, if_pos hi]
theorem un_cap (c : UInt8) (h : capC c = false) : unI (c.toNat : Int) = (if qz c = 120 then 2 else if qz c = 122 then 3 else 0) ∧ (unQ (c.toNat : Int) = (qz c == 120 || qz c == 122)) := by
  have hh : ∀ x : Fin 256, capC (UInt8.ofNat x.val) = false → unI ((UInt8.ofNat x.val).toNat : Int) = (if qz (UInt8.ofNat x.val) = 120 then 2 else if qz (UInt8.ofNat x.val) = 122 then 3 else 0) ∧ (unQ ((UInt8.ofNat x.val).toNat : Int) = (qz (UInt8.ofNat x.val) == 120 || qz (UInt8.ofNat x.val) == 122)) := by decide +kernel
  have := hh ⟨c.toNat, UInt8.toNat_lt c⟩
  simp only [UInt8.ofNat_toNat] at this
  exact this h
theorem vl10 (c : UInt8) (h : vlC c < 10) : decC c = true := by
  cases hd : decC c
  · unfold vlC at h
    rw [hd] at h
    simp only [Bool.false_eq_true, if_false] at h
    split at h
    · rename_i h2
      have := h2.1
      omega
    · omega
  · rfl
theorem qz_dec (c : UInt8) (h : decC c = true) : qz c = c := by
  unfold qz
  rw [if_neg]
  rintro rfl
  exact absurd h (by decide)
theorem flat_congr {g : Nat} : ∀ (l : List UInt8), (∀ c ∈ l, capC c = false) → (l.map qz).flatMap (dbits g) = l.flatMap (dgB g)
  | [], _ => rfl
  | c :: l, h => by
    rw [List.map_cons, List.flatMap_cons, List.flatMap_cons, flat_congr l fun x hx => h x (by simp [hx])]
    congr 1
    refine list_ext (by rw [dbits_len, dgB, tab_len]) fun i hi => ?_
    rw [dbits_len] at hi
    rw [bitP_qz c (h c (by simp)) hi, dgB, nth_tab _ hi]
/-- The vector that accepted digits denote. -/
theorem bits_any (bits b wd : Nat) (d : List UInt8) (w : World) (hb4 : bits ≤ 4) (hbq : baseQ (limB bits)) (hw1 : 1 ≤ wd) (hw : wd ≤ 128) (ha : asc d) (hcap : ∀ c ∈ d, capC c = false) (hl : d.length ≤ 256)
    (hacc : (!d.isEmpty && d.all (okC (limB bits) (decide (0 < (bits : Int)) || ((d.length : Int) == 1)))) = true) (hcb : w.cell? ⟨b, 0, none⟩ = some (.int .i64 (limB bits : Int))) :
    Calls Tryz.prog 90 #[.agg #[.int .i64 (bits : Int), .func (.func 136) #[] #[.pointer (some ⟨b, 0, none⟩)]], .string (str d), .int .i64 (wd : Int)] w fun e w' => ∃ A c, e = .returned (.slice A wd c) ∧ Nb w' w.heap.size A wd c (litV bits (d.map qz) wd) ∧ Below w.heap.size w w' := by
  rw [Bool.and_eq_true, List.all_eq_true] at hacc
  cases d with
  | nil => exact absurd hacc.1 (by simp)
  | cons c0 t =>
    obtain ⟨hu1, hu2⟩ := un_cap c0 (hcap c0 (by simp))
    by_cases hz : bits = 0
    · subst hz
      have e10 : limB 0 = 10 := rfl
      rw [e10] at hcb
      have hm0 : decide (0 < ((0 : Nat) : Int)) = false := by decide
      cases hq : unQ (c0.toNat : Int)
      · have hdd : ∀ c ∈ c0 :: t, decC c = true := fun c hc => by
          have := hacc.2 c hc
          unfold okC at this
          rw [hm0, Bool.false_or, e10, Bool.or_eq_true, Bool.and_eq_true] at this
          rcases this with h | ⟨h1, h2⟩
          · exact vl10 c (of_decide_eq_true h)
          · have ht : t = [] := by
              have : ((c0 :: t).length : Int) = 1 := by simpa using h2
              simp only [List.length_cons] at this
              exact List.length_eq_zero_iff.1 (by omega)
            subst ht
            rw [List.mem_singleton] at hc
            rw [hc, hq] at h1
            cases h1
        refine (bits_dec b wd c0 t w hw1 hw hdd hq hcb).mono fun e w' ⟨A, c, he, hN, hb⟩ => ⟨A, c, he, ?_, hb⟩
        rw [ovr_tab _ _ _ (frN_len _ _)] at hN
        have hmap : (c0 :: t).map qz = c0 :: t := by
          have : (c0 :: t).map qz = (c0 :: t).map id := List.map_congr_left fun c hc => qz_dec c (hdd c hc)
          rw [this, List.map_id]
        have h0 := hdd c0 (by simp)
        rw [hmap]
        unfold litV
        rw [if_pos rfl, if_neg (fun e => absurd ((by simpa using e : c0 = 120) ▸ h0) (by decide)), if_neg (fun e => absurd ((by simpa using e : c0 = 122) ▸ h0) (by decide))]
        exact hN
      · refine (bits_unk b wd c0 t w hw1 hw (ha c0 (by simp)) hq).mono fun e w' ⟨A, c, he, hN, hb⟩ => ⟨A, c, he, ?_, hb⟩
        have e1 : ovr wd (unI (c0.toNat : Int)) 0 [] = litV 0 ((c0 :: t).map qz) wd := by
          unfold ovr litV
          rw [hu1, if_pos rfl, List.map_cons, List.head?_cons]
          rw [hu2] at hq
          by_cases h1 : qz c0 = 120
          · rw [if_pos h1, h1, if_pos rfl]
            rfl
          · have h2 : qz c0 = 122 := by simpa [h1] using hq
            rw [if_neg h1, if_pos h2, h2, if_neg (by decide), if_pos rfl]
            rfl
        rw [e1] at hN
        exact hN
    · refine (bits_grp bits (limB bits) b wd c0 t w hw1 hw (by omega) hb4 hbq ha (fun c hc => ?_) hl hcb).mono fun e w' ⟨A, c, he, hN, hb⟩ => ⟨A, c, he, ?_, hb⟩
      · have := hacc.2 c hc
        unfold okC at this
        rw [Bool.or_eq_true, Bool.and_eq_true] at this
        rcases this with h | ⟨h1, _⟩
        · exact .inl (of_decide_eq_true h)
        · exact .inr h1
      · have e1 : ovr wd (unI (c0.toNat : Int)) ((c0 :: t).length * bits) ((c0 :: t).reverse.flatMap (dgB bits)) = litV bits ((c0 :: t).map qz) wd := by
          unfold ovr litV
          rw [if_neg hz]
          unfold litL
          refine tab_congr fun i _ => ?_
          rw [List.length_map, ← List.map_reverse, flat_congr _ (fun c hc => hcap c (List.mem_reverse.1 hc)), hu1, List.map_cons, List.head?_cons]
          simp only [Option.some.injEq]
        rw [e1] at hN
        exact hN
end Go.Proofs.YtgojnpblhfbdpaaGreatDoor

namespace Go.Proofs.YtgojnpblhfbdpaaGreatDoor
open Go Go.RowKit

/-- What a call leaves that returns a vector, a number and an error. -/
def RetT (w : World) (v : V) (n er : Int) (e : Ending) (w' : World) : Prop := ∃ A k c, e = .returned (.tuple #[.agg #[.slice A k c, .bool v.s], .int .i64 n, .int .i64 er]) ∧ k ≤ c ∧ k ≤ 1000 ∧ Nb w' w.heap.size A k c v.l ∧ Below w.heap.size w w'
theorem ret_vecT {g : Nat} {U : World} {x y n er : Value} {fn : Func} {p q r : Tmp} (hres : fn.results = #[.cell p 26, .tmp q, .tmp r]) {R : Ending → World → Prop} {a : Act} (hp : a.tmps.getD p undef = .pointer (some ⟨g, 0, none⟩)) (hq : a.tmps.getD q undef = n) (hr : a.tmps.getD r undef = er) (hd : a.defers = [])
    (O : Own U g 26 #[x, y]) (hR : R (.returned (.tuple #[.agg #[x, y], n, er])) U) : bodyPost Tryz.prog fn R .ret a U := by
  refine bodyPost_ret ?_ hd hR
  have h0 := O.cell 0
  have h1 := O.cell 1
  have hp' : a.tmps[p]?.getD undef = .pointer (some ⟨g, 0, none⟩) := by simpa using hp
  have hq' : a.tmps[q]?.getD undef = n := by simpa using hq
  have hr' : a.tmps[r]?.getD undef = er := by simpa using hr
  simp [results, hres, go_sem, h0, h1, hp', hq', hr']
/-- The vector, the length and the error of what follows the apostrophe. -/
def basP (l r : List UInt8) : V × Int × Int :=
  if (widE l).2 ≠ 0 then (nilV, 0, (widE l).2)
  else if r = [] then (nilV, 0, 4)
  else match noteL (r.takeWhile (wordC true)) with
    | none => (nilV, 0, 3)
    | some (bits, sg, d) => if 256 < d.length then (nilV, 0, 5) else (⟨litV bits (d.map qz) (widE l).1.toNat, sg⟩, (r.takeWhile (wordC true)).length, 0)
instance (g b o : Nat) (x : Value) [A : Apart g b] : Sst g (celA b o x) := ⟨fun _ _ _ _ _ _ _ h => (cell_row (Ne.symm A.ne)).trans h⟩
theorem RetT.nil {w u : World} {er : Int} (hb : Below w.heap.size w u) : RetT w nilV 0 er (.returned (.tuple #[.agg #[.slice none 0 0, .bool false], .int .i64 0, .int .i64 er])) u := ⟨none, 0, 0, rfl, by decide, by decide, Nb.nil _ _, hb⟩
set_option maxRecDepth 100000 in
set_option maxHeartbeats 1000000 in
theorem based_width (l r : List UInt8) (w : World) (E : Env w) (hl : l.length ≤ 100000) (hok : l = [] ∨ numOk l = true) (he : (widE l).2 ≠ 0) :
    Calls Tryz.prog 48 #[.string (str l), .string (str r)] w (RetT w nilV 0 (widE l).2) := by
  have O0 := (Own.at1 w 26 #[.slice none 0 0, .bool false] (g := w.heap.size) (by simp))
  have BB := (below_new (Below.refl w.heap.size w) (.cells #[.slice none 0 0, .bool false] 26))
  have HW := Lib.hid (widthOf_any l _ (E.step BB) hl hok)
  have h1 : (((widE l).2) == 0) = false := by simpa using he
  have h2 : (((widE l).2) != 0) = true := by simpa using he
  clear he E
  generalize (widE l).2 = e0 at *
  generalize (widE l).1 = wd at *
  go_enter Tryz.func48, Tryz.ntmps48
  go_wp2_with (first
    | (go_at_call 87; (with_reducible refine HW.out.mono ?_); rintro e w1 ⟨rfl, hb⟩; replace BB := below_step BB hb; replace O0 := O0.step hb; have q0 := O0.cell 0; have q1 := O0.cell 1; have f0 := O0.free 0; have f1 := O0.free 1))
  exact ret_vecT Tryz.results48 rfl rfl rfl rfl (O0.put2 _ _) (RetT.nil (below_set2 BB (Nat.le_refl _) _ _))
set_option maxRecDepth 100000 in
set_option maxHeartbeats 1000000 in
theorem based_short (l : List UInt8) (w : World) (E : Env w) (hl : l.length ≤ 100000) (hok : l = [] ∨ numOk l = true) (he : (widE l).2 = 0) :
    Calls Tryz.prog 48 #[.string (str l), .string (str [])] w (RetT w nilV 0 4) := by
  have O0 := (Own.at1 w 26 #[.slice none 0 0, .bool false] (g := w.heap.size) (by simp))
  have BB := (below_new (Below.refl w.heap.size w) (.cells #[.slice none 0 0, .bool false] 26))
  have HW := widthOf_any l _ (E.step BB) hl hok
  rw [he] at HW
  replace HW := Lib.hid HW
  clear he E
  generalize (widE l).1 = wd at *
  go_enter Tryz.func48, Tryz.ntmps48
  go_wp2_with (first
    | (go_at_call 87; (with_reducible refine HW.out.mono ?_); rintro e w1 ⟨rfl, hb⟩; replace BB := below_step BB hb; replace O0 := O0.step hb; have q0 := O0.cell 0; have q1 := O0.cell 1; have f0 := O0.free 0; have f1 := O0.free 1))
  exact ret_vecT Tryz.results48 rfl rfl rfl rfl (O0.put2 _ _) (RetT.nil (below_set2 BB (Nat.le_refl _) _ _))
theorem tw_asc {q : Bool} (r : List UInt8) : asc (r.takeWhile (wordC q)) := fun c hc => by
  have h1 : wordC q c = true := by
    have := List.all_takeWhile (p := wordC q) (l := r)
    exact List.all_eq_true.1 this c hc
  rcases Nat.lt_or_ge c.toNat 128 with h | h
  · exact h
  · rw [word_asc q c h] at h1; cases h1
theorem lead_body (r : List UInt8) (w : World) : Calls Tryz.prog 44 #[.string (str r), .func (.func 88) #[] #[]] w fun e w' => e = .returned (.string (str (r.takeWhile (wordC true)))) ∧ Below w.heap.size w w' :=
  leading_any (str r) _ #[] (wordC true) (word_asc true) w ent_inBody (cls_inBody w)
theorem note_none (z : List UInt8) (w : World) (E : Env w) (ha : asc z) (hl : z.length ≤ 100000) (h : noteL z = none) :
    Calls Tryz.prog 89 #[.string (str z)] w fun e w' => ∃ G v sg s, (v = .nilFunc ∨ ∃ b, v = .func (.func 136) #[] #[.pointer (some ⟨b, 0, none⟩)]) ∧ e = .returned (.tuple #[.agg #[.int .i64 G, v, .bool sg, .string s], .bool false]) ∧ Below w.heap.size w w' := by
  have := notation_any z w E ha hl
  rw [h] at this
  exact this.mono fun e w' ⟨⟨G, v, sg, s, h1, h2⟩, h3⟩ => ⟨G, v, sg, s, h1, h2, h3⟩
theorem note_some (z : List UInt8) (w : World) (E : Env w) (ha : asc z) (hl : z.length ≤ 100000) {bits : Nat} {sg : Bool} {d : List UInt8} (h : noteL z = some (bits, sg, d)) :
    Calls Tryz.prog 89 #[.string (str z)] w fun e w' => ∃ b, e = .returned (.tuple #[.agg #[.int .i64 (bits : Int), .func (.func 136) #[] #[.pointer (some ⟨b, 0, none⟩)], .bool sg, .string (str d)], .bool true]) ∧ w'.cell? ⟨b, 0, none⟩ = some (.int .i64 (limB bits : Int)) ∧ Below w.heap.size w w' := by
  have := notation_any z w E ha hl
  rw [h] at this
  refine this.mono fun e w' ⟨⟨v, he, b, hv, hc⟩, hb⟩ => ⟨b, ?_, hc, hb⟩
  rw [he, hv]
set_option maxRecDepth 100000 in
set_option maxHeartbeats 1000000 in
theorem based_form (l : List UInt8) (c : UInt8) (t : List UInt8) (w : World) (E : Env w) (hl : l.length ≤ 100000) (hr : (c :: t).length ≤ 100000) (hok : l = [] ∨ numOk l = true) (he : (widE l).2 = 0) (hn : noteL ((c :: t).takeWhile (wordC true)) = none) :
    Calls Tryz.prog 48 #[.string (str l), .string (str (c :: t))] w (RetT w nilV 0 3) := by
  have O0 := (Own.at1 w 26 #[.slice none 0 0, .bool false] (g := w.heap.size) (by simp))
  have BB := (below_new (Below.refl w.heap.size w) (.cells #[.slice none 0 0, .bool false] 26))
  have HW := widthOf_any l _ (E.step BB) hl hok
  rw [he] at HW
  replace HW := Lib.hid HW
  have HL := Lib.hid fun (u : World) => lead_body (c :: t) u
  have HN := Lib.hid fun (u : World) (hb : Below w.heap.size w u) => note_none _ u (E.step hb) (tw_asc (q := true) (c :: t)) (Nat.le_trans (tw_len_le _) hr) hn
  clear he E hn
  generalize (widE l).1 = wd at *
  generalize (c :: t).takeWhile (wordC true) = z at *
  go_enter Tryz.func48, Tryz.ntmps48
  go_wp2_with (first
    | (go_at_call 87; (with_reducible refine HW.out.mono ?_); rintro e w1 ⟨rfl, hb⟩; replace BB := below_step BB hb; replace O0 := O0.step hb)
    | (go_at_call 44; (with_reducible refine (HL.out _).mono ?_); rintro e w1 ⟨rfl, hb⟩; replace BB := below_step BB hb; replace O0 := O0.step hb))
  go_at_call 89
  refine (HN.out _ BB).mono ?_
  rintro e w1 ⟨G, v, sg, s, hv, rfl, hb⟩
  rcases hv with rfl | ⟨b, rfl⟩
  · replace BB := below_new (below_step BB hb) (.cells #[.int .i64 G, .nilFunc, .bool sg, .string s] 106)
    replace O0 := (O0.step hb).alloc (.cells #[.int .i64 G, .nilFunc, .bool sg, .string s] 106)
    have q0 := O0.cell 0
    have q1 := O0.cell 1
    have f0 := O0.free 0
    have f1 := O0.free 1
    go_wp2
    exact ret_vecT Tryz.results48 rfl rfl rfl rfl (O0.put2 _ _) (RetT.nil (below_set2 BB (Nat.le_refl _) _ _))
  · replace BB := below_new (below_step BB hb) (.cells #[.int .i64 G, .func (.func 136) #[] #[.pointer (some ⟨b, 0, none⟩)], .bool sg, .string s] 106)
    replace O0 := (O0.step hb).alloc (.cells #[.int .i64 G, .func (.func 136) #[] #[.pointer (some ⟨b, 0, none⟩)], .bool sg, .string s] 106)
    have q0 := O0.cell 0
    have q1 := O0.cell 1
    have f0 := O0.free 0
    have f1 := O0.free 1
    go_wp2
    exact ret_vecT Tryz.results48 rfl rfl rfl rfl (O0.put2 _ _) (RetT.nil (below_set2 BB (Nat.le_refl _) _ _))
theorem ent_radbits : Ent 90 := enters_of Tryz.func90 (by kernel_rfl) rfl
set_option maxRecDepth 100000 in
set_option maxHeartbeats 2000000 in
theorem based_long (l : List UInt8) (c : UInt8) (t : List UInt8) (bits : Nat) (sg : Bool) (d : List UInt8) (w : World) (E : Env w) (hl : l.length ≤ 100000) (hr : (c :: t).length ≤ 100000) (hok : l = [] ∨ numOk l = true) (he : (widE l).2 = 0) (hn : noteL ((c :: t).takeWhile (wordC true)) = some (bits, sg, d)) (hd : 256 < d.length) :
    Calls Tryz.prog 48 #[.string (str l), .string (str (c :: t))] w (RetT w nilV 0 5) := by
  have O0 := (Own.at1 w 26 #[.slice none 0 0, .bool false] (g := w.heap.size) (by simp))
  have BB := (below_new (Below.refl w.heap.size w) (.cells #[.slice none 0 0, .bool false] 26))
  have HW := widthOf_any l _ (E.step BB) hl hok
  rw [he] at HW
  replace HW := Lib.hid HW
  have HL := Lib.hid fun (u : World) => lead_body (c :: t) u
  have HN := Lib.hid fun (u : World) (hb : Below w.heap.size w u) => note_some _ u (E.step hb) (tw_asc (q := true) (c :: t)) (Nat.le_trans (tw_len_le _) hr) hn
  clear he E hn
  generalize (widE l).1 = wd at *
  generalize (c :: t).takeWhile (wordC true) = z at *
  have d1 : decide ((256 : Int) < d.length) = true := by simp; omega
  go_enter Tryz.func48, Tryz.ntmps48
  go_wp2_with (first
    | (go_at_call 87; (with_reducible refine HW.out.mono ?_); rintro e w1 ⟨rfl, hb⟩; replace BB := below_step BB hb; replace O0 := O0.step hb)
    | (go_at_call 44; (with_reducible refine (HL.out _).mono ?_); rintro e w1 ⟨rfl, hb⟩; replace BB := below_step BB hb; replace O0 := O0.step hb))
  go_at_call 89
  refine (HN.out _ BB).mono ?_
  rintro e w1 ⟨b, rfl, hcb, hb⟩

  replace BB := below_new (below_step BB hb) (.cells #[.int .i64 (bits : Int), .func (.func 136) #[] #[.pointer (some ⟨b, 0, none⟩)], .bool sg, .string (str d)] 106)
  replace O0 := (O0.step hb).alloc (.cells #[.int .i64 (bits : Int), .func (.func 136) #[] #[.pointer (some ⟨b, 0, none⟩)], .bool sg, .string (str d)] 106)
  have ON := Own.new w1 106 #[.int .i64 (bits : Int), .func (.func 136) #[] #[.pointer (some ⟨b, 0, none⟩)], .bool sg, .string (str d)]
  replace hcb := cell_step (below_new (Below.refl w1.heap.size w1) (.cells #[.int .i64 (bits : Int), .func (.func 136) #[] #[.pointer (some ⟨b, 0, none⟩)], .bool sg, .string (str d)] 106)) hcb
  have q0 := O0.cell 0
  have q1 := O0.cell 1
  have f0 := O0.free 0
  have f1 := O0.free 1
  have p3 := ON.cell 3
  have hsd : (str d).size = d.length := rfl
  go_wp2
  exact ret_vecT Tryz.results48 rfl rfl rfl rfl (O0.put2 _ _) (RetT.nil (below_set2 BB (Nat.le_refl _) _ _))
set_option maxRecDepth 100000 in
set_option maxHeartbeats 2000000 in
theorem based_ok (l : List UInt8) (c : UInt8) (t : List UInt8) (bits : Nat) (sg : Bool) (d : List UInt8) (w : World) (E : Env w) (hl : l.length ≤ 100000) (hr : (c :: t).length ≤ 100000) (hok : l = [] ∨ numOk l = true) (he : (widE l).2 = 0) (hn : noteL ((c :: t).takeWhile (wordC true)) = some (bits, sg, d)) (hd : d.length ≤ 256) (wd : Nat) (hwd : (widE l).1 = wd) (HX : ∀ (b : Nat) (u : World), u.cell? ⟨b, 0, none⟩ = some (.int .i64 (limB bits : Int)) → Calls Tryz.prog 90 #[.agg #[.int .i64 (bits : Int), .func (.func 136) #[] #[.pointer (some ⟨b, 0, none⟩)]], .string (str d), .int .i64 (wd : Int)] u fun e w' => ∃ A c, e = .returned (.slice A wd c) ∧ Nb w' u.heap.size A wd c (litV bits (d.map qz) wd) ∧ Below u.heap.size u w') (hw1 : wd ≤ 128) (hll : (litV bits (d.map qz) wd).length = wd) :
    Calls Tryz.prog 48 #[.string (str l), .string (str (c :: t))] w (RetT w ⟨litV bits (d.map qz) wd, sg⟩ (((c :: t).takeWhile (wordC true)).length : Int) 0) := by
  have O0 := (Own.at1 w 26 #[.slice none 0 0, .bool false] (g := w.heap.size) (by simp))
  have BB := (below_new (Below.refl w.heap.size w) (.cells #[.slice none 0 0, .bool false] 26))
  have HW := widthOf_any l _ (E.step BB) hl hok
  rw [he] at HW
  replace HW := Lib.hid HW
  have HL := Lib.hid fun (u : World) => lead_body (c :: t) u
  have HN := Lib.hid fun (u : World) (hb : Below w.heap.size w u) => note_some _ u (E.step hb) (tw_asc (q := true) (c :: t)) (Nat.le_trans (tw_len_le _) hr) hn
  rw [hwd] at HW
  replace HX := Lib.hid HX
  clear he E hn hwd
  generalize litV bits (d.map qz) wd = L at *
  generalize (c :: t).takeWhile (wordC true) = z at *
  generalize hlb : limB bits = lb at *
  replace hlb := Lib.hid hlb
  have d1 : decide ((256 : Int) < d.length) = false := by simp; omega
  go_enter Tryz.func48, Tryz.ntmps48
  go_wp2_with (first
    | (go_at_call 87; (with_reducible refine HW.out.mono ?_); rintro e w1 ⟨rfl, hb⟩; replace BB := below_step BB hb; replace O0 := O0.step hb)
    | (go_at_call 44; (with_reducible refine (HL.out _).mono ?_); rintro e w1 ⟨rfl, hb⟩; replace BB := below_step BB hb; replace O0 := O0.step hb))
  go_at_call 89
  refine (HN.out _ BB).mono ?_
  rintro e w1 ⟨b, rfl, hcb, hb⟩
  have hlt0 := Lib.hid (Nat.lt_of_lt_of_le O0.lt hb.size)
  have hbl := cell_lt hcb
  have hne : b ≠ w.heap.size := fun e => by
    subst e
    have h1 := O0.step hb
    have h2 := h1.cell 0
    rw [hcb] at h2
    simp at h2
  replace BB := below_new (below_step BB hb) (.cells #[.int .i64 (bits : Int), .func (.func 136) #[] #[.pointer (some ⟨b, 0, none⟩)], .bool sg, .string (str d)] 106)
  replace O0 := (O0.step hb).alloc (.cells #[.int .i64 (bits : Int), .func (.func 136) #[] #[.pointer (some ⟨b, 0, none⟩)], .bool sg, .string (str d)] 106)
  have ON := Own.new w1 106 #[.int .i64 (bits : Int), .func (.func 136) #[] #[.pointer (some ⟨b, 0, none⟩)], .bool sg, .string (str d)]
  replace hcb := cell_step (below_new (Below.refl w1.heap.size w1) (.cells #[.int .i64 (bits : Int), .func (.func 136) #[] #[.pointer (some ⟨b, 0, none⟩)], .bool sg, .string (str d)] 106)) hcb
  have q0 := O0.cell 0
  have q1 := O0.cell 1
  have f0 := O0.free 0
  have f1 := O0.free 1
  have p3 := ON.cell 3
  have hsd : (str d).size = d.length := rfl
  replace hll := Lib.hid hll
  clear q0 q1 f0 f1 p3 hsd
  go_wp2
  have S0 : (fun u => ownT w1.heap.size 106 #[.int .i64 (bits : Int), .func (.func 136) #[] #[.pointer (some ⟨b, 0, none⟩)], .bool sg, .string (str d)] u ∧ (celA b 0 (.int .i64 (lb : Int)) u ∧ blw w u)) (w1.alloc (.cells #[.int .i64 (bits : Int), .func (.func 136) #[] #[.pointer (some ⟨b, 0, none⟩)], .bool sg, .string (str d)] 106)).drew := ⟨ON.drew, cell_step (below_drew (Below.refl _ _)) hcb, below_drew BB⟩
  have P0 : owns w.heap.size #[.slice none 0 0, .bool false] (w1.alloc (.cells #[.int .i64 (bits : Int), .func (.func 136) #[] #[.pointer (some ⟨b, 0, none⟩)], .bool sg, .string (str d)] 106)).drew := O0.drew
  haveI : Over w w.heap.size := ⟨Nat.le_refl _⟩
  haveI : Apart w.heap.size w1.heap.size := ⟨by have := hlt0.out; omega⟩
  haveI : Apart w.heap.size b := ⟨Ne.symm hne⟩
  clear O0 ON hcb BB hne hbl
  refine region_y (by kernel_rfl) (fun u => ownT w1.heap.size 106 #[.int .i64 (bits : Int), .func (.func 136) #[] #[.pointer (some ⟨b, 0, none⟩)], .bool sg, .string (str d)] u ∧ (celA b 0 (.int .i64 (lb : Int)) u ∧ blw w u))
    [tru, tru, tru, tru, tru, tru, tru, tru, tru, tru, tru, owns w.heap.size #[.slice none 0 0, .bool false], tru, tru]
    [isV (.pointer (some ⟨w1.heap.size, 0, none⟩)), isV (.agg #[.int .i64 (bits : Int), .func (.func 136) #[] #[.pointer (some ⟨b, 0, none⟩)]]), isV (.pointer (some ⟨w1.heap.size, 3, none⟩)), isV (.string (str d)), isV (.int .i64 (wd : Int)), isNbL w.heap.size wd L, isV (.pointer (some ⟨w1.heap.size, 2, none⟩)), isV (.bool sg), isN w.heap.size ⟨L, sg⟩, isV (.string (str z)), isV (.int .i64 (z.length : Int)), didN w.heap.size w.heap.size ⟨L, sg⟩, isV (.int .i64 (z.length : Int)), isV (.int .i64 0)]
    [some 40, some 41, some 42, some 43, some 44, some 45, some 46, some 47, some 48, some 49, some 50, none, some 5, some 6] [[], [0], [], [2], [], [1, 3, 4], [], [6], [5, 7], [], [9], [8, 5, 0, 1, 2, 3, 4, 5, 6, 7, 8], [10, 11, 0, 1, 2, 3, 4, 5, 6, 7, 8, 9, 10, 11], [12, 0, 1, 2, 3, 4, 5, 6, 7, 8, 9, 10, 11, 12]] (by kernel_rfl) (by kernel_rfl) rfl (by kernel_rfl) (by kernel_rfl) (by kernel_rfl) S0 (by
    intro U hU
    simp only [List.mem_cons, List.not_mem_nil, or_false] at hU
    rcases hU with rfl | rfl | rfl | rfl | rfl | rfl | rfl | rfl | rfl | rfl | rfl | rfl | rfl | rfl
    all_goals first | trivial | exact P0) ?_ ?_
  · refine ⟨?_, ?_, ?_, ?_, ?_, ?_, ?_, ?_, ?_, ?_, ?_, ?_, ?_, ?_, trivial⟩
    · intro a w' hS hO hF' hP K hK
      have ha := hO 9 (by rfl)
      refine if_ok (by rfl) ?_
      refine wp_val (w' := w') (q := .pointer (some ⟨w1.heap.size, 0, none⟩)) (by unfold execOp; simp only [ev ha]; simp [go_sem]) ?_
      exact hK _ w' (fun h => by cases h) (keep_same hS) rfl
    · intro a w' hS hO hF' hP K hK
      obtain ⟨_, f0, rfl⟩ := (hF' 0 rfl).1 40 _ rfl rfl
      have hc0 := Own.cell hS.1 0
      have hc1 := Own.cell hS.1 1
      refine if_ok (by rfl) ?_
      refine wp_val (w' := w') (q := .agg #[.int .i64 (bits : Int), .func (.func 136) #[] #[.pointer (some ⟨b, 0, none⟩)]]) (by unfold execOp; simp only [ev f0]; simp [go_sem, hc0, hc1]) ?_
      exact hK _ w' (fun h => by cases h) (keep_same hS) rfl
    · intro a w' hS hO hF' hP K hK
      have ha := hO 9 (by rfl)
      refine if_ok (by rfl) ?_
      refine wp_val (w' := w') (q := .pointer (some ⟨w1.heap.size, 3, none⟩)) (by unfold execOp; simp only [ev ha]; simp [go_sem]) ?_
      exact hK _ w' (fun h => by cases h) (keep_same hS) rfl
    · intro a w' hS hO hF' hP K hK
      obtain ⟨_, f0, rfl⟩ := (hF' 2 rfl).1 42 _ rfl rfl
      have hc0 := Own.cell hS.1 3
      refine if_ok (by rfl) ?_
      refine wp_val (w' := w') (q := .string (str d)) (by unfold execOp; simp only [ev f0]; simp [go_sem, hc0]) ?_
      exact hK _ w' (fun h => by cases h) (keep_same hS) rfl
    · intro a w' hS hO hF' hP K hK
      have ha := hO 7 (by rfl)
      refine if_ok (by rfl) ?_
      refine wp_mv _ rfl (ev ha) ?_
      exact hK _ w' (fun h => by cases h) (keep_same hS) rfl
    · intro a w' hS hO hF' hP K hK
      obtain ⟨_, f0, rfl⟩ := (hF' 1 rfl).1 41 _ rfl rfl
      obtain ⟨_, f1, rfl⟩ := (hF' 3 rfl).1 43 _ rfl rfl
      obtain ⟨_, f2, rfl⟩ := (hF' 4 rfl).1 44 _ rfl rfl
      refine if_ok (by rfl) ?_
      refine wp_calls rfl ent_radbits (args := #[.agg #[.int .i64 (bits : Int), .func (.func 136) #[] #[.pointer (some ⟨b, 0, none⟩)]], .string (str d), .int .i64 (wd : Int)]) (by simp [Act.eval, f0, f1, f2]) ?_
      refine (HX.out b w' hS.2.1).mono ?_
      rintro e w9 ⟨A9, c9, rfl, hN9, hb9⟩
      exact ⟨_, rfl, hK _ w9 (fun h => by cases h) (keep_below hb9 hS) ⟨A9, c9, rfl, hN9.mono hS.2.2.size⟩⟩
    · intro a w' hS hO hF' hP K hK
      have ha := hO 9 (by rfl)
      refine if_ok (by rfl) ?_
      refine wp_val (w' := w') (q := .pointer (some ⟨w1.heap.size, 2, none⟩)) (by unfold execOp; simp only [ev ha]; simp [go_sem]) ?_
      exact hK _ w' (fun h => by cases h) (keep_same hS) rfl
    · intro a w' hS hO hF' hP K hK
      obtain ⟨_, f0, rfl⟩ := (hF' 6 rfl).1 46 _ rfl rfl
      have hc0 := Own.cell hS.1 2
      refine if_ok (by rfl) ?_
      refine wp_val (w' := w') (q := .bool sg) (by unfold execOp; simp only [ev f0]; simp [go_sem, hc0]) ?_
      exact hK _ w' (fun h => by cases h) (keep_same hS) rfl
    · intro a w' hS hO hF' hP K hK
      obtain ⟨_, f0, A9, c9, rfl, hN⟩ := (hF' 5 rfl).1 45 _ rfl rfl
      obtain ⟨_, f1, rfl⟩ := (hF' 7 rfl).1 47 _ rfl rfl
      have hll9 := hll.out
      refine if_ok (by rfl) ?_
      refine wp_bld _ _ rfl (ev f0) (ev f1) ?_
      exact hK _ w' (fun h => by cases h) (keep_same hS) ⟨A9, c9, by rw [hll9], by simp only; rw [hll9]; exact hN⟩
    · intro a w' hS hO hF' hP K hK
      have ha := hO 8 (by rfl)
      refine if_ok (by rfl) ?_
      refine wp_mv _ rfl (ev ha) ?_
      exact hK _ w' (fun h => by cases h) (keep_same hS) rfl
    · intro a w' hS hO hF' hP K hK
      obtain ⟨_, f0, rfl⟩ := (hF' 9 rfl).1 49 _ rfl rfl
      have hsz : (str z).size = z.length := rfl
      refine if_ok (by rfl) ?_
      refine wp_val (w' := w') (q := .int .i64 (z.length : Int)) (by
        unfold execOp
        simp only [resolve, invoke, builtin, Sem.run_bind, Sem.run_pure, Result.andThen_ok, List.map_toArray, List.map_cons, List.map_nil, ev f0]
        simp [go_sem, hsz]) ?_
      exact hK _ w' (fun h => by cases h) (keep_same hS) rfl
    · intro a w' hS hO hF' hP K hK
      have O := hP 11 _ (by rfl) rfl
      have ha := hO 4 (by rfl)
      obtain ⟨_, f1, A9, c9, rfl, hN⟩ := (hF' 8 rfl).1 48 _ rfl rfl
      refine if_ok (by rfl) ?_
      refine wp_store_row _ _ _ rfl w.heap.size _ (ev ha) (ev f1) _ _ O vec_size rfl (by simp [Value.oneCell']) ?_
      exact hK _ _ (fun _ => rfl) (keep_store O inferInstance ⟨inferInstance, inferInstance, inferInstance, inferInstance, inferInstance, inferInstance, inferInstance, inferInstance, inferInstance, inferInstance, inferInstance, inferInstance, inferInstance, trivial⟩ ⟨inferInstance, inferInstance, inferInstance, inferInstance, inferInstance, inferInstance, inferInstance, inferInstance, inferInstance, inferInstance, inferInstance, inferInstance, inferInstance, trivial⟩ hS) ⟨A9, c9, O.row, hN.row O⟩
    · intro a w' hS hO hF' hP K hK
      obtain ⟨_, f0, rfl⟩ := (hF' 10 rfl).1 50 _ rfl rfl
      refine if_ok (by rfl) ?_
      refine wp_val (w' := w') (q := .int .i64 (z.length : Int)) (by unfold execOp; simp only [Sem.run_pure, ev f0]) ?_
      exact hK _ w' (fun h => by cases h) (keep_same hS) rfl
    · intro a w' hS hO hF' hP K hK
      refine if_ok (by rfl) ?_
      refine wp_val (w' := w') (q := .int .i64 0) (by kernel_rfl) ?_
      exact hK _ w' (fun h => by cases h) (keep_same hS) rfl
  · intro vs u hl hS hV
    match vs, hl, hV with
    | [v0, v1, v2, v3, v4, v5, v6, v7, v8, v9, v10, v11, v12, v13], _, hV =>
      simp only [puts, Act.put, List.setIfInBounds_toArray, List.set_cons_zero, List.set_cons_succ]
      obtain ⟨A9, c9, OU, hN⟩ := hV 11 _ rfl
      obtain rfl : v12 = .int .i64 (z.length : Int) := hV 12 _ rfl
      obtain rfl : v13 = .int .i64 0 := hV 13 _ rfl
      obtain ⟨_, _, BB⟩ := hS
      have hll9 := hll.out
      have hle := hN.le
      clear hV
      go_wp2
      exact ret_vecT Tryz.results48 rfl rfl rfl rfl OU ⟨A9, _, c9, rfl, by omega, by omega, hN, BB⟩


theorem cap_low (c : UInt8) : capC (Lib.lowerB c) = false := by
  have h : ∀ x : Fin 256, capC (Lib.lowerB (UInt8.ofNat x.val)) = false := by decide +kernel
  have := h ⟨c.toNat, UInt8.toNat_lt c⟩
  simpa using this
theorem note_spec {z : List UInt8} (ha : asc z) {bits : Nat} {sg : Bool} {d : List UInt8} (h : noteL z = some (bits, sg, d)) :
    bits ≤ 4 ∧ baseQ (limB bits) ∧ asc d ∧ (∀ c ∈ d, capC c = false) ∧ (!d.isEmpty && d.all (okC (limB bits) (decide (0 < (bits : Int)) || ((d.length : Int) == 1)))) = true := by
  unfold noteL at h
  cases hy : (if sgnT z then z.tail else z) with
  | nil => rw [hy] at h; cases h
  | cons c r =>
    rw [hy] at h
    simp only at h
    cases hb : bszC (lowC c) with
    | none => rw [hb] at h; cases h
    | some b =>
      rw [hb] at h
      simp only at h
      cases hd : digOk b r with
      | false => rw [hd] at h; cases h
      | true =>
        rw [hd] at h
        simp only [if_true] at h
        have h' := Option.some.inj h
        obtain ⟨rfl, h2⟩ := Prod.mk.inj h'
        obtain ⟨rfl, rfl⟩ := Prod.mk.inj h2
        have h95 : (r.head? == some 95) = false := by
          unfold digOk at hd
          simp only [Bool.and_eq_true] at hd
          obtain ⟨⟨⟨_, h5⟩, _⟩, _⟩ := hd
          simpa using h5
        refine ⟨bits_of hb, base_q hb, fun e he => ?_, fun e he => ?_, ?_⟩
        · obtain ⟨h1, h2⟩ := List.mem_filter.1 he
          obtain ⟨y, hy', rfl⟩ := List.mem_map.1 h1
          refine low_asc y (ha y ?_)
          have : y ∈ c :: r := List.mem_cons_of_mem _ hy'
          rw [← hy] at this
          split at this
          · exact List.mem_of_mem_tail this
          · exact this
        · obtain ⟨h1, h2⟩ := List.mem_filter.1 he
          obtain ⟨y, hy', rfl⟩ := List.mem_map.1 h1
          exact cap_low y
        · rw [acc_dig _ (bits_of hb) r h95]; exact hd
theorem widE_ok {l : List UInt8} (h : (widE l).2 = 0) : ∃ wd : Nat, (widE l).1 = (wd : Int) ∧ 1 ≤ wd ∧ wd ≤ 128 := by
  unfold widE at h ⊢
  split
  · exact ⟨32, rfl, by decide, by decide⟩
  · rename_i h1
    rw [if_neg h1] at h
    split
    · rename_i h2; rw [if_pos h2] at h; cases h
    · rename_i h2; exact ⟨valU l, rfl, by omega, by omega⟩
theorem parseBased_any (l r : List UInt8) (w : World) (E : Env w) (hl : l.length ≤ 100000) (hr : r.length ≤ 100000) (hok : l = [] ∨ numOk l = true) :
    Calls Tryz.prog 48 #[.string (str l), .string (str r)] w (RetT w (basP l r).1 (basP l r).2.1 (basP l r).2.2) := by
  unfold basP
  by_cases he : (widE l).2 = 0
  · rw [if_neg (by simp [he])]
    cases r with
    | nil => rw [if_pos rfl]; exact based_short l w E hl hok he
    | cons c t =>
      rw [if_neg (by simp)]
      cases hn : noteL ((c :: t).takeWhile (wordC true)) with
      | none => exact based_form l c t w E hl hr hok he hn
      | some q =>
        obtain ⟨bits, sg, d⟩ := q
        simp only
        by_cases hd : 256 < d.length
        · rw [if_pos hd]; exact based_long l c t bits sg d w E hl hr hok he hn hd
        · rw [if_neg hd]
          obtain ⟨wd, e1, h1, h2⟩ := widE_ok he
          rw [e1]
          obtain ⟨n1, n2, n3, n4, n5⟩ := note_spec (tw_asc (q := true) (c :: t)) hn
          exact based_ok l c t bits sg d w E hl hr hok he hn (by omega) wd e1 (fun b u hu => bits_any bits b wd d u n1 n2 h1 h2 n3 n4 (by omega) n5 hu) h2 (litV_ok h1 h2).2.1
  · rw [if_pos he]; exact based_width l r w E hl hok he
end Go.Proofs.YtgojnpblhfbdpaaGreatDoor

namespace Go.Proofs.YtgojnpblhfbdpaaGreatDoor
open Go Go.RowKit

/-! What the functions of the program together denote. -/
theorem note_based (z : List UInt8) (wd : Nat) : basedT (if sgnT z then z.tail else z) wd = match noteL z with
    | none => .error 3
    | some (bits, _, d) => if 256 < d.length then .error 5 else .ok (litV bits (d.map qz) wd) := by
  unfold noteL basedT
  cases (if sgnT z then z.tail else z) with
  | nil => rfl
  | cons c r =>
    simp only
    cases bszC (lowC c) with
    | none => rfl
    | some bits =>
      simp only
      cases digOk bits r with
      | false => rfl
      | true =>
        simp only [if_true]
        rw [digP_len, digP_clean]
theorem note_sgn {z : List UInt8} {bits : Nat} {sg : Bool} {d : List UInt8} (h : noteL z = some (bits, sg, d)) : sg = sgnT z := by
  unfold noteL at h
  cases hy : (if sgnT z then z.tail else z) with
  | nil => rw [hy] at h; cases h
  | cons c r =>
    rw [hy] at h
    simp only at h
    cases hb : bszC (lowC c) with
    | none => rw [hb] at h; cases h
    | some b =>
      rw [hb] at h
      simp only at h
      cases hd : digOk b r with
      | false => rw [hd] at h; cases h
      | true =>
        rw [hd] at h
        simp only [if_true] at h
        exact (Prod.mk.inj (Prod.mk.inj (Option.some.inj h)).2).1.symm
/-- The literal at the start of a text: the vector, the length and the error. -/
def prsP (t : List UInt8) : V × Int × Int :=
  let w := t.takeWhile (wordC false)
  let r := t.drop w.length
  let quote := r.head? == some 39
  if !numOk w && !(w.isEmpty && quote) then (nilV, 0, 3)
  else if quote then (if (basP w r.tail).2.2 = 0 then ((basP w r.tail).1, w.length + (1 + (basP w r.tail).2.1), 0) else (nilV, 0, (basP w r.tail).2.2))
  else if plainE (valU w) = 0 then (plainV (valU w), w.length, 0) else (nilV, 0, plainE (valU w))
theorem prs_P (t : List UInt8) : (match prsT t with
    | .error e => (nilV, 0, e)
    | .ok (v, n) => (v, (n : Int), 0)) = prsP t := by
  unfold prsT prsP
  simp only
  generalize t.takeWhile (wordC false) = w
  generalize t.drop w.length = r
  generalize (r.head? == some 39) = quote
  cases h1 : !numOk w && !(w.isEmpty && quote)
  · simp only [Bool.false_eq_true, if_false]
    cases quote
    · simp only [Bool.not_false, if_true, Bool.false_eq_true, if_false]
      unfold plainE plainV
      by_cases h2 : 2147483647 < valU w
      · simp only [if_pos h2]; rfl
      · simp only [if_neg h2]; rfl
    · simp only [Bool.not_true, Bool.false_eq_true, if_false, if_true]
      generalize r.tail = q
      unfold basP widE
      by_cases hw : w = []
      · subst hw
        simp only [List.isEmpty_nil, Bool.not_true, Bool.false_and, Bool.false_eq_true, if_false, if_true]
        cases q with
        | nil => rfl
        | cons c u =>
          simp only [List.isEmpty_cons, Bool.false_eq_true, if_false, ne_eq, not_true_eq_false, reduceCtorEq]
          rw [note_based]
          cases hn : noteL ((c :: u).takeWhile (wordC true)) with
          | none => simp
          | some p =>
            obtain ⟨bits, sg, d⟩ := p
            have := note_sgn hn
            subst this
            simp only
            by_cases h5 : 256 < d.length
            · simp [h5]
            · simp [h5]
              try omega
      · have hne : w.isEmpty = false := by cases w with | nil => exact absurd rfl hw | cons _ _ => rfl
        rw [hne]
        simp only [Bool.not_false, Bool.true_and, if_neg hw]
        by_cases hv : valU w < 1 ∨ 128 < valU w
        · rw [if_pos (by rcases hv with h | h <;> simp [h])]
          simp only [if_pos hv]
          rfl
        · rw [if_neg (by simp; omega)]
          simp only [if_neg hv]
          cases q with
          | nil => rfl
          | cons c u =>
            simp only [List.isEmpty_cons, Bool.false_eq_true, if_false, ne_eq, not_true_eq_false, reduceCtorEq]
            rw [note_based]
            cases hn : noteL ((c :: u).takeWhile (wordC true)) with
            | none => simp
            | some p =>
              obtain ⟨bits, sg, d⟩ := p
              have := note_sgn hn
              subst this
              simp only
              by_cases h5 : 256 < d.length
              · simp [h5]
              · simp [h5]
                try omega
  · rfl
theorem based_err {z : List UInt8} {n : Nat} {e : Int} (h : basedT z n = .error e) : e ≠ 0 := by
  unfold basedT at h
  split at h
  · cases h; decide
  · split at h
    · cases h; decide
    · split at h
      · split at h
        · cases h; decide
        · cases h
      · cases h; decide
theorem prs_err {t : List UInt8} {e : Int} (h : prsT t = .error e) : e ≠ 0 := by
  unfold prsT at h
  simp only at h
  split at h
  · cases h; decide
  · split at h
    · split at h
      · cases h; decide
      · cases h
    · split at h
      · cases h; decide
      · split at h
        · cases h; decide
        · split at h
          · rename_i h6
            cases h
            exact based_err h6
          · cases h
theorem prs_V (s : List UInt8) (k : Nat) (h1 : ¬ 65536 < s.length) (h2 : k < s.length) : prsV s (k : Int) = ((prsP (s.drop k)).1, (if (prsP (s.drop k)).2.2 = 0 then (k : Int) + (prsP (s.drop k)).2.1 else 0), (prsP (s.drop k)).2.2) := by
  rw [← prs_P]
  unfold prsV
  rw [if_neg h1, if_neg (by omega), if_neg (by omega), Int.toNat_natCast]
  cases hq : prsT (s.drop k) with
  | error e =>
    simp only
    rw [if_neg (prs_err hq)]
  | ok p => rfl
end Go.Proofs.YtgojnpblhfbdpaaGreatDoor

namespace Go.Proofs.YtgojnpblhfbdpaaGreatDoor
open Go Go.RowKit

theorem str_drop (l : List UInt8) (k n : Nat) (h : n = l.length) : (str l).extract k n = str (l.drop k) := by
  subst h
  refine byt_inj ?_
  rw [byt_ext, byt_str, byt_str]
  exact List.take_of_length_le (by simp)
set_option maxRecDepth 100000 in
set_option maxHeartbeats 2000000 in
theorem parse_long (s : List UInt8) (i : Int) (h : 65536 < s.length) (w : World) : Calls Tryz.prog 15 #[.string (str s), .int .i64 i] w (RetT w nilV 0 5) := by
  have O0 := (Own.at1 w 26 #[.slice none 0 0, .bool false] (g := w.heap.size) (by simp))
  have BB := (below_new (Below.refl w.heap.size w) (.cells #[.slice none 0 0, .bool false] 26))
  have q0 := O0.cell 0; have q1 := O0.cell 1; have f0 := O0.free 0; have f1 := O0.free 1
  have hsz : (str s).size = s.length := rfl
  have d1 : decide ((65536 : Int) < s.length) = true := by simp; omega
  clear h
  go_enter Tryz.func15, Tryz.ntmps15
  go_wp2
  exact ret_vecT Tryz.results15 rfl rfl rfl rfl O0 (RetT.nil BB)
set_option maxRecDepth 100000 in
set_option maxHeartbeats 2000000 in
theorem parse_neg (s : List UInt8) (i : Int) (h : ¬ 65536 < s.length) (h1 : i < 0) (w : World) : Calls Tryz.prog 15 #[.string (str s), .int .i64 i] w (RetT w nilV 0 1) := by
  have O0 := (Own.at1 w 26 #[.slice none 0 0, .bool false] (g := w.heap.size) (by simp))
  have BB := (below_new (Below.refl w.heap.size w) (.cells #[.slice none 0 0, .bool false] 26))
  have q0 := O0.cell 0; have q1 := O0.cell 1; have f0 := O0.free 0; have f1 := O0.free 1
  have hsz : (str s).size = s.length := rfl
  have d1 : decide ((65536 : Int) < s.length) = false := by simp; omega
  have d2 : decide (i < 0) = true := by simp; omega
  clear h h1
  go_enter Tryz.func15, Tryz.ntmps15
  go_wp2
  exact ret_vecT Tryz.results15 rfl rfl rfl rfl O0 (RetT.nil BB)
set_option maxRecDepth 100000 in
set_option maxHeartbeats 2000000 in
theorem parse_far (s : List UInt8) (i : Int) (h : ¬ 65536 < s.length) (h1 : ¬ i < 0) (h2 : (s.length : Int) < i) (w : World) : Calls Tryz.prog 15 #[.string (str s), .int .i64 i] w (RetT w nilV 0 1) := by
  have O0 := (Own.at1 w 26 #[.slice none 0 0, .bool false] (g := w.heap.size) (by simp))
  have BB := (below_new (Below.refl w.heap.size w) (.cells #[.slice none 0 0, .bool false] 26))
  have q0 := O0.cell 0; have q1 := O0.cell 1; have f0 := O0.free 0; have f1 := O0.free 1
  have hsz : (str s).size = s.length := rfl
  have d1 : decide ((65536 : Int) < s.length) = false := by simp; omega
  have d2 : decide (i < 0) = false := by simp; omega
  have d3 : decide ((s.length : Int) < i) = true := by simp; omega
  clear h h1 h2
  go_enter Tryz.func15, Tryz.ntmps15
  go_wp2
  exact ret_vecT Tryz.results15 rfl rfl rfl rfl O0 (RetT.nil BB)
set_option maxRecDepth 100000 in
set_option maxHeartbeats 2000000 in
theorem parse_end (s : List UInt8) (h : ¬ 65536 < s.length) (w : World) : Calls Tryz.prog 15 #[.string (str s), .int .i64 (s.length : Int)] w (RetT w nilV 0 4) := by
  have O0 := (Own.at1 w 26 #[.slice none 0 0, .bool false] (g := w.heap.size) (by simp))
  have BB := (below_new (Below.refl w.heap.size w) (.cells #[.slice none 0 0, .bool false] 26))
  have q0 := O0.cell 0; have q1 := O0.cell 1; have f0 := O0.free 0; have f1 := O0.free 1
  have hsz : (str s).size = s.length := rfl
  have d1 : decide ((65536 : Int) < s.length) = false := by simp; omega
  have d2 : decide ((s.length : Int) < 0) = false := by simp
  have d3 : decide ((s.length : Int) < s.length) = false := by simp
  clear h
  go_enter Tryz.func15, Tryz.ntmps15
  go_wp2
  exact ret_vecT Tryz.results15 rfl rfl rfl rfl O0 (RetT.nil BB)
theorem lead_num (t : List UInt8) (w : World) : Calls Tryz.prog 44 #[.string (str t), .func (.func 45) #[] #[]] w fun e w' => e = .returned (.string (str (t.takeWhile (wordC false)))) ∧ Below w.heap.size w w' :=
  leading_any (str t) _ #[] (wordC false) (word_asc false) w ent_inNum (cls_inNum w)
theorem i64_le {x : Int} (h0 : 0 ≤ x) (h : x ≤ 1000000) : wrap64 x = x := by unfold wrap64; omega
set_option maxRecDepth 100000 in
set_option maxHeartbeats 2000000 in
theorem parse_bad1 (s t r : List UInt8) (c : UInt8) (v : List UInt8) (qb : Bool) (k m : Nat) (w : World) (h : s.length ≤ 65536) (hk : k < s.length) (ht : t = s.drop k) (hu : c :: v = t.takeWhile (wordC false)) (hr : r = t.drop (c :: v : List UInt8).length) (hm : m = k + (c :: v : List UInt8).length) (hqb : (r.head? == some 39) = qb) (hn : numOk (c :: v) = false) : Calls Tryz.prog 15 #[.string (str s), .int .i64 k] w (RetT w nilV 0 3) := by
  have hln : (k : Int) + ((c :: v : List UInt8).length : Int) ≤ (s.length : Int) := by
    have := tw_len_le (p := wordC false) t
    rw [← hu, ht, List.length_drop] at this
    omega
  have d1 : decide ((65536 : Int) < s.length) = false := by simp; omega
  have d2 : decide ((k : Int) < 0) = false := by simp
  have d3 : decide ((s.length : Int) < k) = false := by simp; omega
  have d4 : ((k : Int) == (s.length : Int)) = false := by simp; omega
  have i1 : (k : Int) ≤ (s.length : Int) := by omega
  have e1 : (str s).extract k s.length = str t := by rw [ht]; exact str_drop s k _ rfl
  have hsz : (str s).size = s.length := rfl
  have hsu : (str (c :: v)).size = (c :: v : List UInt8).length := rfl
  have HL := Lib.hid fun (W : World) => lead_num t W
  rw [← hu] at HL
  have HI := Lib.hid fun (W : World) => isNumber_any (str (c :: v)) W
  rw [byt_str, hn] at HI
  have HC := Lib.hid fun (W : World) => cutp_any r [39] W
  rw [pre_one, hqb] at HC
  have i2 : (m : Int) ≤ (s.length : Int) := by omega
  have x1 : wrap64 ((k : Int) + ((v.length : Int) + 1)) = (m : Int) := by rw [i64_le (by simp at hln; omega) (by simp at hln; omega), hm]; simp
  have e2 : (str s).extract m s.length = str r := by rw [hr, ht, List.drop_drop, hm]; exact str_drop s _ _ rfl
  have hc0 := str_0 c v
  clear h hk ht hu hr hm hqb hn hln
  have O0 := (Own.at1 w 26 #[.slice none 0 0, .bool false] (g := w.heap.size) (by simp))
  have BB := (below_new (Below.refl w.heap.size w) (.cells #[.slice none 0 0, .bool false] 26))
  go_enter Tryz.func15, Tryz.ntmps15
  go_wp2_with (first
    | (go_at_call 44; (with_reducible refine (HL.out _).mono ?_); rintro e w1 ⟨rfl, hb⟩; replace BB := below_step BB hb; replace O0 := O0.step hb)
    | (go_at_call 46; (with_reducible refine (HC.out _).mono ?_); rintro e w2 ⟨rfl, rfl⟩)
    | (go_at_call 47; (with_reducible refine (HI.out _).mono ?_); rintro e w3 ⟨rfl, hb⟩; replace BB := below_step BB hb; replace O0 := O0.step hb; have q0 := O0.cell 0; have q1 := O0.cell 1; have f0 := O0.free 0; have f1 := O0.free 1))
  exact ret_vecT Tryz.results15 rfl rfl rfl rfl (O0.put2 _ _) (RetT.nil (below_set2 BB (Nat.le_refl _) _ _))
set_option maxRecDepth 100000 in
set_option maxHeartbeats 2000000 in
theorem parse_bad0 (s t r : List UInt8) (k m : Nat) (w : World) (h : s.length ≤ 65536) (hk : k < s.length) (ht : t = s.drop k) (hu : [] = t.takeWhile (wordC false)) (hr : r = t.drop ([] : List UInt8).length) (hm : m = k + ([] : List UInt8).length) (hqb : (r.head? == some 39) = false) (hn : numOk ([]) = false) : Calls Tryz.prog 15 #[.string (str s), .int .i64 k] w (RetT w nilV 0 3) := by
  have hln : (k : Int) + (([] : List UInt8).length : Int) ≤ (s.length : Int) := by
    have := tw_len_le (p := wordC false) t
    rw [← hu, ht, List.length_drop] at this
    omega
  have d1 : decide ((65536 : Int) < s.length) = false := by simp; omega
  have d2 : decide ((k : Int) < 0) = false := by simp
  have d3 : decide ((s.length : Int) < k) = false := by simp; omega
  have d4 : ((k : Int) == (s.length : Int)) = false := by simp; omega
  have i1 : (k : Int) ≤ (s.length : Int) := by omega
  have e1 : (str s).extract k s.length = str t := by rw [ht]; exact str_drop s k _ rfl
  have hsz : (str s).size = s.length := rfl
  have hsu : (str ([])).size = ([] : List UInt8).length := rfl
  have HL := Lib.hid fun (W : World) => lead_num t W
  rw [← hu] at HL
  have HI := Lib.hid fun (W : World) => isNumber_any (str ([])) W
  rw [byt_str, hn] at HI
  have HC := Lib.hid fun (W : World) => cutp_any r [39] W
  rw [pre_one, hqb] at HC
  have i2 : (m : Int) ≤ (s.length : Int) := by omega
  have x1 : wrap64 (k : Int) = (m : Int) := by rw [i64_le (by simp at hln; omega) (by simp at hln; omega), hm]; simp
  have e2 : (str s).extract m s.length = str r := by rw [hr, ht, List.drop_drop, hm]; exact str_drop s _ _ rfl
  clear h hk ht hu hr hm hqb hn hln
  have O0 := (Own.at1 w 26 #[.slice none 0 0, .bool false] (g := w.heap.size) (by simp))
  have BB := (below_new (Below.refl w.heap.size w) (.cells #[.slice none 0 0, .bool false] 26))
  go_enter Tryz.func15, Tryz.ntmps15
  go_wp2_with (first
    | (go_at_call 44; (with_reducible refine (HL.out _).mono ?_); rintro e w1 ⟨rfl, hb⟩; replace BB := below_step BB hb; replace O0 := O0.step hb)
    | (go_at_call 46; (with_reducible refine (HC.out _).mono ?_); rintro e w2 ⟨rfl, rfl⟩)
    | (go_at_call 47; (with_reducible refine (HI.out _).mono ?_); rintro e w3 ⟨rfl, hb⟩; replace BB := below_step BB hb; replace O0 := O0.step hb; have q0 := O0.cell 0; have q1 := O0.cell 1; have f0 := O0.free 0; have f1 := O0.free 1))
  exact ret_vecT Tryz.results15 rfl rfl rfl rfl (O0.put2 _ _) (RetT.nil (below_set2 BB (Nat.le_refl _) _ _))
set_option maxRecDepth 100000 in
set_option maxHeartbeats 2000000 in
theorem parse_based_c0 (s t r : List UInt8) (c : UInt8) (v : List UInt8) (k m : Nat) (w : World) (h : s.length ≤ 65536) (hk : k < s.length) (ht : t = s.drop k) (hu : c :: v = t.takeWhile (wordC false)) (hr : r = t.drop (c :: v : List UInt8).length) (hm : m = k + (c :: v : List UInt8).length) (hqb : (r.head? == some 39) = true) (hn : numOk (c :: v) = true) (q : List UInt8) (y : V) (n : Int) (hq : Lib.trimPrefix r [39] = q) (hn0 : 0 ≤ n) (hn9 : n ≤ 65536) (HB9 : ∀ u, Below w.heap.size w u → Calls Tryz.prog 48 #[.string (str (c :: v)), .string (str q)] u (RetT u y n 0)) : Calls Tryz.prog 15 #[.string (str s), .int .i64 k] w (RetT w y ((m : Int) + (1 + n)) 0) := by
  have hln : (k : Int) + ((c :: v : List UInt8).length : Int) ≤ (s.length : Int) := by
    have := tw_len_le (p := wordC false) t
    rw [← hu, ht, List.length_drop] at this
    omega
  have d1 : decide ((65536 : Int) < s.length) = false := by simp; omega
  have d2 : decide ((k : Int) < 0) = false := by simp
  have d3 : decide ((s.length : Int) < k) = false := by simp; omega
  have d4 : ((k : Int) == (s.length : Int)) = false := by simp; omega
  have i1 : (k : Int) ≤ (s.length : Int) := by omega
  have e1 : (str s).extract k s.length = str t := by rw [ht]; exact str_drop s k _ rfl
  have hsz : (str s).size = s.length := rfl
  have hsu : (str (c :: v)).size = (c :: v : List UInt8).length := rfl
  have HL := Lib.hid fun (W : World) => lead_num t W
  rw [← hu] at HL
  have HI := Lib.hid fun (W : World) => isNumber_any (str (c :: v)) W
  rw [byt_str, hn] at HI
  have HC := Lib.hid fun (W : World) => cutp_any r [39] W
  rw [pre_one, hqb] at HC
  have i2 : (m : Int) ≤ (s.length : Int) := by omega
  have x1 : wrap64 ((k : Int) + ((v.length : Int) + 1)) = (m : Int) := by rw [i64_le (by simp at hln; omega) (by simp at hln; omega), hm]; simp
  have e2 : (str s).extract m s.length = str r := by rw [hr, ht, List.drop_drop, hm]; exact str_drop s _ _ rfl
  rw [hq] at HC
  have HB := Lib.hid HB9
  have x2 : wrap64 (1 + n) = 1 + n := i64_le (by omega) (by omega)
  have x3 : wrap64 ((m : Int) + (1 + n)) = (m : Int) + (1 + n) := i64_le (by omega) (by omega)
  have hc0 := str_0 c v
  clear h hk ht hu hr hm hqb hn hln hq HB9 hn0 hn9
  have O0 := (Own.at1 w 26 #[.slice none 0 0, .bool false] (g := w.heap.size) (by simp))
  have BB := (below_new (Below.refl w.heap.size w) (.cells #[.slice none 0 0, .bool false] 26))
  go_enter Tryz.func15, Tryz.ntmps15
  go_wp2_with (first
    | (go_at_call 44; (with_reducible refine (HL.out _).mono ?_); rintro e w1 ⟨rfl, hb⟩; replace BB := below_step BB hb; replace O0 := O0.step hb)
    | (go_at_call 46; (with_reducible refine (HC.out _).mono ?_); rintro e w2 ⟨rfl, rfl⟩)
    | (go_at_call 47; (with_reducible refine (HI.out _).mono ?_); rintro e w3 ⟨rfl, hb⟩; replace BB := below_step BB hb; replace O0 := O0.step hb; have q0 := O0.cell 0; have q1 := O0.cell 1; have f0 := O0.free 0; have f1 := O0.free 1)
    | (go_at_call 48; (with_reducible refine (HB.out _ BB).mono ?_); rintro e w4 ⟨A, kk, cc, rfl, hc, hk9, hN, hb⟩; have hlt := O0.lt; have hB := BB.size; replace BB := below_step BB hb; replace O0 := O0.step hb; have q0 := O0.cell 0; have q1 := O0.cell 1; have f0 := O0.free 0; have f1 := O0.free 1))
  rw [x3]
  exact ret_vecT Tryz.results15 rfl rfl rfl rfl ((O0.put2 _ _).put2 _ _) ⟨A, kk, cc, rfl, hc, hk9, ((hN.far2 hlt _ _).far2 hlt _ _).mono hB, below_set2 (below_set2 BB (Nat.le_refl _) _ _) (Nat.le_refl _) _ _⟩
set_option maxRecDepth 100000 in
set_option maxHeartbeats 2000000 in
theorem parse_based_c1 (s t r : List UInt8) (c : UInt8) (v : List UInt8) (k m : Nat) (w : World) (h : s.length ≤ 65536) (hk : k < s.length) (ht : t = s.drop k) (hu : c :: v = t.takeWhile (wordC false)) (hr : r = t.drop (c :: v : List UInt8).length) (hm : m = k + (c :: v : List UInt8).length) (hqb : (r.head? == some 39) = true) (hn : numOk (c :: v) = true) (q : List UInt8) (y : V) (n er : Int) (hq : Lib.trimPrefix r [39] = q) (hn0 : 0 ≤ n) (hn9 : n ≤ 65536) (HB9 : ∀ u, Below w.heap.size w u → Calls Tryz.prog 48 #[.string (str (c :: v)), .string (str q)] u (RetT u y n er)) (he : (er == 0) = false) : Calls Tryz.prog 15 #[.string (str s), .int .i64 k] w (RetT w nilV 0 er) := by
  have hln : (k : Int) + ((c :: v : List UInt8).length : Int) ≤ (s.length : Int) := by
    have := tw_len_le (p := wordC false) t
    rw [← hu, ht, List.length_drop] at this
    omega
  have d1 : decide ((65536 : Int) < s.length) = false := by simp; omega
  have d2 : decide ((k : Int) < 0) = false := by simp
  have d3 : decide ((s.length : Int) < k) = false := by simp; omega
  have d4 : ((k : Int) == (s.length : Int)) = false := by simp; omega
  have i1 : (k : Int) ≤ (s.length : Int) := by omega
  have e1 : (str s).extract k s.length = str t := by rw [ht]; exact str_drop s k _ rfl
  have hsz : (str s).size = s.length := rfl
  have hsu : (str (c :: v)).size = (c :: v : List UInt8).length := rfl
  have HL := Lib.hid fun (W : World) => lead_num t W
  rw [← hu] at HL
  have HI := Lib.hid fun (W : World) => isNumber_any (str (c :: v)) W
  rw [byt_str, hn] at HI
  have HC := Lib.hid fun (W : World) => cutp_any r [39] W
  rw [pre_one, hqb] at HC
  have i2 : (m : Int) ≤ (s.length : Int) := by omega
  have x1 : wrap64 ((k : Int) + ((v.length : Int) + 1)) = (m : Int) := by rw [i64_le (by simp at hln; omega) (by simp at hln; omega), hm]; simp
  have e2 : (str s).extract m s.length = str r := by rw [hr, ht, List.drop_drop, hm]; exact str_drop s _ _ rfl
  rw [hq] at HC
  have HB := Lib.hid HB9
  have x2 : wrap64 (1 + n) = 1 + n := i64_le (by omega) (by omega)
  have x3 : wrap64 ((m : Int) + (1 + n)) = (m : Int) + (1 + n) := i64_le (by omega) (by omega)
  have hc0 := str_0 c v
  have he2 : (er != 0) = true := by unfold bne; rw [he]; rfl
  clear h hk ht hu hr hm hqb hn hln hq HB9 hn0 hn9
  have O0 := (Own.at1 w 26 #[.slice none 0 0, .bool false] (g := w.heap.size) (by simp))
  have BB := (below_new (Below.refl w.heap.size w) (.cells #[.slice none 0 0, .bool false] 26))
  go_enter Tryz.func15, Tryz.ntmps15
  go_wp2_with (first
    | (go_at_call 44; (with_reducible refine (HL.out _).mono ?_); rintro e w1 ⟨rfl, hb⟩; replace BB := below_step BB hb; replace O0 := O0.step hb)
    | (go_at_call 46; (with_reducible refine (HC.out _).mono ?_); rintro e w2 ⟨rfl, rfl⟩)
    | (go_at_call 47; (with_reducible refine (HI.out _).mono ?_); rintro e w3 ⟨rfl, hb⟩; replace BB := below_step BB hb; replace O0 := O0.step hb; have q0 := O0.cell 0; have q1 := O0.cell 1; have f0 := O0.free 0; have f1 := O0.free 1)
    | (go_at_call 48; (with_reducible refine (HB.out _ BB).mono ?_); rintro e w4 ⟨A, kk, cc, rfl, hc, hk9, hN, hb⟩; have hlt := O0.lt; have hB := BB.size; replace BB := below_step BB hb; replace O0 := O0.step hb; have q0 := O0.cell 0; have q1 := O0.cell 1; have f0 := O0.free 0; have f1 := O0.free 1))
  exact ret_vecT Tryz.results15 rfl rfl rfl rfl ((O0.put2 _ _).put2 _ _) (RetT.nil (below_set2 (below_set2 BB (Nat.le_refl _) _ _) (Nat.le_refl _) _ _))
set_option maxRecDepth 100000 in
set_option maxHeartbeats 2000000 in
theorem parse_based_e0 (s t r : List UInt8) (k m : Nat) (w : World) (h : s.length ≤ 65536) (hk : k < s.length) (ht : t = s.drop k) (hu : [] = t.takeWhile (wordC false)) (hr : r = t.drop ([] : List UInt8).length) (hm : m = k + ([] : List UInt8).length) (hqb : (r.head? == some 39) = true) (hn : numOk ([]) = false) (q : List UInt8) (y : V) (n : Int) (hq : Lib.trimPrefix r [39] = q) (hn0 : 0 ≤ n) (hn9 : n ≤ 65536) (HB9 : ∀ u, Below w.heap.size w u → Calls Tryz.prog 48 #[.string (str ([])), .string (str q)] u (RetT u y n 0)) : Calls Tryz.prog 15 #[.string (str s), .int .i64 k] w (RetT w y ((m : Int) + (1 + n)) 0) := by
  have hln : (k : Int) + (([] : List UInt8).length : Int) ≤ (s.length : Int) := by
    have := tw_len_le (p := wordC false) t
    rw [← hu, ht, List.length_drop] at this
    omega
  have d1 : decide ((65536 : Int) < s.length) = false := by simp; omega
  have d2 : decide ((k : Int) < 0) = false := by simp
  have d3 : decide ((s.length : Int) < k) = false := by simp; omega
  have d4 : ((k : Int) == (s.length : Int)) = false := by simp; omega
  have i1 : (k : Int) ≤ (s.length : Int) := by omega
  have e1 : (str s).extract k s.length = str t := by rw [ht]; exact str_drop s k _ rfl
  have hsz : (str s).size = s.length := rfl
  have hsu : (str ([])).size = ([] : List UInt8).length := rfl
  have HL := Lib.hid fun (W : World) => lead_num t W
  rw [← hu] at HL
  have HI := Lib.hid fun (W : World) => isNumber_any (str ([])) W
  rw [byt_str, hn] at HI
  have HC := Lib.hid fun (W : World) => cutp_any r [39] W
  rw [pre_one, hqb] at HC
  have i2 : (m : Int) ≤ (s.length : Int) := by omega
  have x1 : wrap64 (k : Int) = (m : Int) := by rw [i64_le (by simp at hln; omega) (by simp at hln; omega), hm]; simp
  have e2 : (str s).extract m s.length = str r := by rw [hr, ht, List.drop_drop, hm]; exact str_drop s _ _ rfl
  rw [hq] at HC
  have HB := Lib.hid HB9
  have x2 : wrap64 (1 + n) = 1 + n := i64_le (by omega) (by omega)
  have x3 : wrap64 ((m : Int) + (1 + n)) = (m : Int) + (1 + n) := i64_le (by omega) (by omega)
  clear h hk ht hu hr hm hqb hn hln hq HB9 hn0 hn9
  have O0 := (Own.at1 w 26 #[.slice none 0 0, .bool false] (g := w.heap.size) (by simp))
  have BB := (below_new (Below.refl w.heap.size w) (.cells #[.slice none 0 0, .bool false] 26))
  go_enter Tryz.func15, Tryz.ntmps15
  go_wp2_with (first
    | (go_at_call 44; (with_reducible refine (HL.out _).mono ?_); rintro e w1 ⟨rfl, hb⟩; replace BB := below_step BB hb; replace O0 := O0.step hb)
    | (go_at_call 46; (with_reducible refine (HC.out _).mono ?_); rintro e w2 ⟨rfl, rfl⟩)
    | (go_at_call 47; (with_reducible refine (HI.out _).mono ?_); rintro e w3 ⟨rfl, hb⟩; replace BB := below_step BB hb; replace O0 := O0.step hb; have q0 := O0.cell 0; have q1 := O0.cell 1; have f0 := O0.free 0; have f1 := O0.free 1)
    | (go_at_call 48; (with_reducible refine (HB.out _ BB).mono ?_); rintro e w4 ⟨A, kk, cc, rfl, hc, hk9, hN, hb⟩; have hlt := O0.lt; have hB := BB.size; replace BB := below_step BB hb; replace O0 := O0.step hb; have q0 := O0.cell 0; have q1 := O0.cell 1; have f0 := O0.free 0; have f1 := O0.free 1))
  rw [x3]
  exact ret_vecT Tryz.results15 rfl rfl rfl rfl ((O0.put2 _ _).put2 _ _) ⟨A, kk, cc, rfl, hc, hk9, ((hN.far2 hlt _ _).far2 hlt _ _).mono hB, below_set2 (below_set2 BB (Nat.le_refl _) _ _) (Nat.le_refl _) _ _⟩
set_option maxRecDepth 100000 in
set_option maxHeartbeats 2000000 in
theorem parse_based_e1 (s t r : List UInt8) (k m : Nat) (w : World) (h : s.length ≤ 65536) (hk : k < s.length) (ht : t = s.drop k) (hu : [] = t.takeWhile (wordC false)) (hr : r = t.drop ([] : List UInt8).length) (hm : m = k + ([] : List UInt8).length) (hqb : (r.head? == some 39) = true) (hn : numOk ([]) = false) (q : List UInt8) (y : V) (n er : Int) (hq : Lib.trimPrefix r [39] = q) (hn0 : 0 ≤ n) (hn9 : n ≤ 65536) (HB9 : ∀ u, Below w.heap.size w u → Calls Tryz.prog 48 #[.string (str ([])), .string (str q)] u (RetT u y n er)) (he : (er == 0) = false) : Calls Tryz.prog 15 #[.string (str s), .int .i64 k] w (RetT w nilV 0 er) := by
  have hln : (k : Int) + (([] : List UInt8).length : Int) ≤ (s.length : Int) := by
    have := tw_len_le (p := wordC false) t
    rw [← hu, ht, List.length_drop] at this
    omega
  have d1 : decide ((65536 : Int) < s.length) = false := by simp; omega
  have d2 : decide ((k : Int) < 0) = false := by simp
  have d3 : decide ((s.length : Int) < k) = false := by simp; omega
  have d4 : ((k : Int) == (s.length : Int)) = false := by simp; omega
  have i1 : (k : Int) ≤ (s.length : Int) := by omega
  have e1 : (str s).extract k s.length = str t := by rw [ht]; exact str_drop s k _ rfl
  have hsz : (str s).size = s.length := rfl
  have hsu : (str ([])).size = ([] : List UInt8).length := rfl
  have HL := Lib.hid fun (W : World) => lead_num t W
  rw [← hu] at HL
  have HI := Lib.hid fun (W : World) => isNumber_any (str ([])) W
  rw [byt_str, hn] at HI
  have HC := Lib.hid fun (W : World) => cutp_any r [39] W
  rw [pre_one, hqb] at HC
  have i2 : (m : Int) ≤ (s.length : Int) := by omega
  have x1 : wrap64 (k : Int) = (m : Int) := by rw [i64_le (by simp at hln; omega) (by simp at hln; omega), hm]; simp
  have e2 : (str s).extract m s.length = str r := by rw [hr, ht, List.drop_drop, hm]; exact str_drop s _ _ rfl
  rw [hq] at HC
  have HB := Lib.hid HB9
  have x2 : wrap64 (1 + n) = 1 + n := i64_le (by omega) (by omega)
  have x3 : wrap64 ((m : Int) + (1 + n)) = (m : Int) + (1 + n) := i64_le (by omega) (by omega)
  have he2 : (er != 0) = true := by unfold bne; rw [he]; rfl
  clear h hk ht hu hr hm hqb hn hln hq HB9 hn0 hn9
  have O0 := (Own.at1 w 26 #[.slice none 0 0, .bool false] (g := w.heap.size) (by simp))
  have BB := (below_new (Below.refl w.heap.size w) (.cells #[.slice none 0 0, .bool false] 26))
  go_enter Tryz.func15, Tryz.ntmps15
  go_wp2_with (first
    | (go_at_call 44; (with_reducible refine (HL.out _).mono ?_); rintro e w1 ⟨rfl, hb⟩; replace BB := below_step BB hb; replace O0 := O0.step hb)
    | (go_at_call 46; (with_reducible refine (HC.out _).mono ?_); rintro e w2 ⟨rfl, rfl⟩)
    | (go_at_call 47; (with_reducible refine (HI.out _).mono ?_); rintro e w3 ⟨rfl, hb⟩; replace BB := below_step BB hb; replace O0 := O0.step hb; have q0 := O0.cell 0; have q1 := O0.cell 1; have f0 := O0.free 0; have f1 := O0.free 1)
    | (go_at_call 48; (with_reducible refine (HB.out _ BB).mono ?_); rintro e w4 ⟨A, kk, cc, rfl, hc, hk9, hN, hb⟩; have hlt := O0.lt; have hB := BB.size; replace BB := below_step BB hb; replace O0 := O0.step hb; have q0 := O0.cell 0; have q1 := O0.cell 1; have f0 := O0.free 0; have f1 := O0.free 1))
  exact ret_vecT Tryz.results15 rfl rfl rfl rfl ((O0.put2 _ _).put2 _ _) (RetT.nil (below_set2 (below_set2 BB (Nat.le_refl _) _ _) (Nat.le_refl _) _ _))
set_option maxRecDepth 100000 in
set_option maxHeartbeats 2000000 in
theorem parse_plain0 (s t r : List UInt8) (c : UInt8) (v : List UInt8) (k m : Nat) (w : World) (h : s.length ≤ 65536) (hk : k < s.length) (ht : t = s.drop k) (hu : c :: v = t.takeWhile (wordC false)) (hr : r = t.drop (c :: v : List UInt8).length) (hm : m = k + (c :: v : List UInt8).length) (hqb : (r.head? == some 39) = false) (hn : numOk (c :: v) = true) (y : V) (HB9 : ∀ u, Below w.heap.size w u → Calls Tryz.prog 49 #[.string (str (c :: v))] u (RetX u y 0)) : Calls Tryz.prog 15 #[.string (str s), .int .i64 k] w (RetT w y (m : Int) 0) := by
  have hln : (k : Int) + ((c :: v : List UInt8).length : Int) ≤ (s.length : Int) := by
    have := tw_len_le (p := wordC false) t
    rw [← hu, ht, List.length_drop] at this
    omega
  have d1 : decide ((65536 : Int) < s.length) = false := by simp; omega
  have d2 : decide ((k : Int) < 0) = false := by simp
  have d3 : decide ((s.length : Int) < k) = false := by simp; omega
  have d4 : ((k : Int) == (s.length : Int)) = false := by simp; omega
  have i1 : (k : Int) ≤ (s.length : Int) := by omega
  have e1 : (str s).extract k s.length = str t := by rw [ht]; exact str_drop s k _ rfl
  have hsz : (str s).size = s.length := rfl
  have hsu : (str (c :: v)).size = (c :: v : List UInt8).length := rfl
  have HL := Lib.hid fun (W : World) => lead_num t W
  rw [← hu] at HL
  have HI := Lib.hid fun (W : World) => isNumber_any (str (c :: v)) W
  rw [byt_str, hn] at HI
  have HC := Lib.hid fun (W : World) => cutp_any r [39] W
  rw [pre_one, hqb] at HC
  have i2 : (m : Int) ≤ (s.length : Int) := by omega
  have x1 : wrap64 ((k : Int) + ((v.length : Int) + 1)) = (m : Int) := by rw [i64_le (by simp at hln; omega) (by simp at hln; omega), hm]; simp
  have e2 : (str s).extract m s.length = str r := by rw [hr, ht, List.drop_drop, hm]; exact str_drop s _ _ rfl
  have HB := Lib.hid HB9
  have hc0 := str_0 c v
  clear h hk ht hu hr hm hqb hn hln HB9
  have O0 := (Own.at1 w 26 #[.slice none 0 0, .bool false] (g := w.heap.size) (by simp))
  have BB := (below_new (Below.refl w.heap.size w) (.cells #[.slice none 0 0, .bool false] 26))
  go_enter Tryz.func15, Tryz.ntmps15
  go_wp2_with (first
    | (go_at_call 44; (with_reducible refine (HL.out _).mono ?_); rintro e w1 ⟨rfl, hb⟩; replace BB := below_step BB hb; replace O0 := O0.step hb)
    | (go_at_call 46; (with_reducible refine (HC.out _).mono ?_); rintro e w2 ⟨rfl, rfl⟩)
    | (go_at_call 47; (with_reducible refine (HI.out _).mono ?_); rintro e w3 ⟨rfl, hb⟩; replace BB := below_step BB hb; replace O0 := O0.step hb; have q0 := O0.cell 0; have q1 := O0.cell 1; have f0 := O0.free 0; have f1 := O0.free 1)
    | (go_at_call 49; (with_reducible refine (HB.out _ BB).mono ?_); rintro e w4 ⟨A, kk, cc, rfl, hc, hk9, hN, hb⟩; have hlt := O0.lt; have hB := BB.size; replace BB := below_step BB hb; replace O0 := O0.step hb; have q0 := O0.cell 0; have q1 := O0.cell 1; have f0 := O0.free 0; have f1 := O0.free 1))
  exact ret_vecT Tryz.results15 rfl rfl rfl rfl ((O0.put2 _ _).put2 _ _) ⟨A, kk, cc, rfl, hc, hk9, ((hN.far2 hlt _ _).far2 hlt _ _).mono hB, below_set2 (below_set2 BB (Nat.le_refl _) _ _) (Nat.le_refl _) _ _⟩
set_option maxRecDepth 100000 in
set_option maxHeartbeats 2000000 in
theorem parse_plain1 (s t r : List UInt8) (c : UInt8) (v : List UInt8) (k m : Nat) (w : World) (h : s.length ≤ 65536) (hk : k < s.length) (ht : t = s.drop k) (hu : c :: v = t.takeWhile (wordC false)) (hr : r = t.drop (c :: v : List UInt8).length) (hm : m = k + (c :: v : List UInt8).length) (hqb : (r.head? == some 39) = false) (hn : numOk (c :: v) = true) (y : V) (er : Int) (HB9 : ∀ u, Below w.heap.size w u → Calls Tryz.prog 49 #[.string (str (c :: v))] u (RetX u y er)) (he : (er == 0) = false) : Calls Tryz.prog 15 #[.string (str s), .int .i64 k] w (RetT w nilV 0 er) := by
  have hln : (k : Int) + ((c :: v : List UInt8).length : Int) ≤ (s.length : Int) := by
    have := tw_len_le (p := wordC false) t
    rw [← hu, ht, List.length_drop] at this
    omega
  have d1 : decide ((65536 : Int) < s.length) = false := by simp; omega
  have d2 : decide ((k : Int) < 0) = false := by simp
  have d3 : decide ((s.length : Int) < k) = false := by simp; omega
  have d4 : ((k : Int) == (s.length : Int)) = false := by simp; omega
  have i1 : (k : Int) ≤ (s.length : Int) := by omega
  have e1 : (str s).extract k s.length = str t := by rw [ht]; exact str_drop s k _ rfl
  have hsz : (str s).size = s.length := rfl
  have hsu : (str (c :: v)).size = (c :: v : List UInt8).length := rfl
  have HL := Lib.hid fun (W : World) => lead_num t W
  rw [← hu] at HL
  have HI := Lib.hid fun (W : World) => isNumber_any (str (c :: v)) W
  rw [byt_str, hn] at HI
  have HC := Lib.hid fun (W : World) => cutp_any r [39] W
  rw [pre_one, hqb] at HC
  have i2 : (m : Int) ≤ (s.length : Int) := by omega
  have x1 : wrap64 ((k : Int) + ((v.length : Int) + 1)) = (m : Int) := by rw [i64_le (by simp at hln; omega) (by simp at hln; omega), hm]; simp
  have e2 : (str s).extract m s.length = str r := by rw [hr, ht, List.drop_drop, hm]; exact str_drop s _ _ rfl
  have HB := Lib.hid HB9
  have hc0 := str_0 c v
  have he2 : (er != 0) = true := by unfold bne; rw [he]; rfl
  clear h hk ht hu hr hm hqb hn hln HB9
  have O0 := (Own.at1 w 26 #[.slice none 0 0, .bool false] (g := w.heap.size) (by simp))
  have BB := (below_new (Below.refl w.heap.size w) (.cells #[.slice none 0 0, .bool false] 26))
  go_enter Tryz.func15, Tryz.ntmps15
  go_wp2_with (first
    | (go_at_call 44; (with_reducible refine (HL.out _).mono ?_); rintro e w1 ⟨rfl, hb⟩; replace BB := below_step BB hb; replace O0 := O0.step hb)
    | (go_at_call 46; (with_reducible refine (HC.out _).mono ?_); rintro e w2 ⟨rfl, rfl⟩)
    | (go_at_call 47; (with_reducible refine (HI.out _).mono ?_); rintro e w3 ⟨rfl, hb⟩; replace BB := below_step BB hb; replace O0 := O0.step hb; have q0 := O0.cell 0; have q1 := O0.cell 1; have f0 := O0.free 0; have f1 := O0.free 1)
    | (go_at_call 49; (with_reducible refine (HB.out _ BB).mono ?_); rintro e w4 ⟨A, kk, cc, rfl, hc, hk9, hN, hb⟩; have hlt := O0.lt; have hB := BB.size; replace BB := below_step BB hb; replace O0 := O0.step hb; have q0 := O0.cell 0; have q1 := O0.cell 1; have f0 := O0.free 0; have f1 := O0.free 1))
  exact ret_vecT Tryz.results15 rfl rfl rfl rfl ((O0.put2 _ _).put2 _ _) (RetT.nil (below_set2 (below_set2 BB (Nat.le_refl _) _ _) (Nat.le_refl _) _ _))
/-- What a call of Parse leaves. -/
theorem bas_n (l r : List UInt8) : 0 ≤ (basP l r).2.1 ∧ (basP l r).2.1 ≤ r.length := by
  unfold basP
  split
  · simp
  · split
    · simp
    · split
      · simp
      · split
        · simp
        · have := tw_len_le (p := wordC true) r
          simp only
          omega
theorem parse_any (s : List UInt8) (i : Int) (w : World) (E : Env w) : Calls Tryz.prog 15 #[.string (str s), .int .i64 i] w (RetT w (prsV s i).1 (prsV s i).2.1 (prsV s i).2.2) := by
  by_cases h : 65536 < s.length
  · have e : prsV s i = (nilV, 0, 5) := by unfold prsV; rw [if_pos h]
    rw [e]; exact parse_long s i h w
  · by_cases h1 : i < 0
    · have e : prsV s i = (nilV, 0, 1) := by unfold prsV; rw [if_neg h, if_pos (.inl h1)]
      rw [e]; exact parse_neg s i h h1 w
    · by_cases h2 : (s.length : Int) < i
      · have e : prsV s i = (nilV, 0, 1) := by unfold prsV; rw [if_neg h, if_pos (.inr h2)]
        rw [e]; exact parse_far s i h h1 h2 w
      · by_cases h3 : i = s.length
        · have e : prsV s i = (nilV, 0, 4) := by unfold prsV; rw [if_neg h, if_neg (by omega), if_pos h3]
          rw [e]; subst h3; exact parse_end s h w
        · obtain ⟨k, rfl⟩ : ∃ k : Nat, i = k := ⟨i.toNat, by omega⟩
          have hk : k < s.length := by omega
          have h' : s.length ≤ 65536 := by omega
          rw [prs_V s k h hk]
          obtain ⟨t, ht⟩ : ∃ t, t = s.drop k := ⟨_, rfl⟩
          rw [← ht]
          obtain ⟨u, hu⟩ : ∃ u, u = t.takeWhile (wordC false) := ⟨_, rfl⟩
          obtain ⟨r, hr⟩ : ∃ r, r = t.drop u.length := ⟨_, rfl⟩
          have hlt : t.length ≤ 65536 := by rw [ht, List.length_drop]; omega
          have hlu : u.length ≤ 65536 := by rw [hu]; exact Nat.le_trans (tw_len_le _) hlt
          have hlr : r.length ≤ 65536 := by rw [hr, List.length_drop]; omega
          have hP : prsP t = (if !numOk u && !(u.isEmpty && (r.head? == some 39)) then (nilV, 0, 3)
            else if (r.head? == some 39) then (if (basP u r.tail).2.2 = 0 then ((basP u r.tail).1, u.length + (1 + (basP u r.tail).2.1), 0) else (nilV, 0, (basP u r.tail).2.2))
            else if plainE (valU u) = 0 then (plainV (valU u), u.length, 0) else (nilV, 0, plainE (valU u))) := by
            unfold prsP
            simp only
            rw [← hu, ← hr]
          rw [hP]
          clear hP
          have htr : (r.head? == some 39) = true → Lib.trimPrefix r [39] = r.tail := fun h => by rw [trim_one r 39, if_pos h]
          obtain ⟨bn0, bn1⟩ := bas_n u r.tail
          have hrt : r.tail.length ≤ 65536 := by rw [List.length_tail]; omega
          cases hq : (r.head? == some 39)
          · cases hn : numOk u
            · have : (!false && !(u.isEmpty && false)) = true := by simp
              rw [if_pos this]
              cases u with
              | nil => exact parse_bad0 s t r k _ w h' hk ht hu hr rfl hq hn
              | cons c v => exact parse_bad1 s t r c v _ k _ w h' hk ht hu hr rfl hq hn
            · simp only [Bool.not_true, Bool.false_and, Bool.false_eq_true, if_false]
              cases u with
              | nil => cases hn
              | cons c v =>
                by_cases he : plainE (valU (c :: v)) = 0
                · rw [if_pos he]
                  simp only [if_true]
                  have := parse_plain0 s t r c v k _ w h' hk ht hu hr rfl hq hn (plainV (valU (c :: v))) (fun W hW => by
                    have := parsePlain_any (c :: v) W (E.step hW) (by omega) hn
                    rw [he] at this
                    exact this)
                  rw [Int.natCast_add] at this
                  exact this
                · rw [if_neg he]
                  simp only [if_neg he]
                  exact parse_plain1 s t r c v k _ w h' hk ht hu hr rfl hq hn (plainV (valU (c :: v))) (plainE (valU (c :: v))) (fun W hW => parsePlain_any (c :: v) W (E.step hW) (by omega) hn) (by simpa using he)
          · cases hn : numOk u
            · cases u with
              | cons c v =>
                simp only [List.isEmpty_cons, Bool.false_and, Bool.not_false, Bool.and_self, if_true]
                exact parse_bad1 s t r c v _ k _ w h' hk ht hu hr rfl hq hn
              | nil =>
                simp only [List.isEmpty_nil, Bool.true_and, Bool.not_true, Bool.and_false, Bool.false_eq_true, if_false, if_true]
                by_cases he : (basP [] r.tail).2.2 = 0
                · rw [if_pos he]
                  simp only [if_true]
                  have := parse_based_e0 s t r k _ w h' hk ht hu hr rfl hq hn r.tail (basP [] r.tail).1 (basP [] r.tail).2.1 (htr hq) bn0 (by omega) (fun W hW => by
                    have := parseBased_any [] r.tail W (E.step hW) (by simp) (by omega) (.inl rfl)
                    rw [he] at this
                    exact this)
                  rw [Int.natCast_add, Int.add_assoc] at this
                  exact this
                · rw [if_neg he]
                  simp only [if_neg he]
                  exact parse_based_e1 s t r k _ w h' hk ht hu hr rfl hq hn r.tail (basP [] r.tail).1 (basP [] r.tail).2.1 (basP [] r.tail).2.2 (htr hq) bn0 (by omega) (fun W hW => parseBased_any [] r.tail W (E.step hW) (by simp) (by omega) (.inl rfl)) (by simpa using he)
            · simp only [Bool.not_true, Bool.false_and, Bool.false_eq_true, if_false, if_true]
              cases u with
              | nil => cases hn
              | cons c v =>
                by_cases he : (basP (c :: v) r.tail).2.2 = 0
                · rw [if_pos he]
                  simp only [if_true]
                  have := parse_based_c0 s t r c v k _ w h' hk ht hu hr rfl hq hn r.tail (basP (c :: v) r.tail).1 (basP (c :: v) r.tail).2.1 (htr hq) bn0 (by omega) (fun W hW => by
                    have := parseBased_any (c :: v) r.tail W (E.step hW) (by omega) (by omega) (.inr hn)
                    rw [he] at this
                    exact this)
                  rw [Int.natCast_add, Int.add_assoc] at this
                  exact this
                · rw [if_neg he]
                  simp only [if_neg he]
                  exact parse_based_c1 s t r c v k _ w h' hk ht hu hr rfl hq hn r.tail (basP (c :: v) r.tail).1 (basP (c :: v) r.tail).2.1 (basP (c :: v) r.tail).2.2 (htr hq) bn0 (by omega) (fun W hW => parseBased_any (c :: v) r.tail W (E.step hW) (by omega) (by omega) (.inr hn)) (by simpa using he)
end Go.Proofs.YtgojnpblhfbdpaaGreatDoor

