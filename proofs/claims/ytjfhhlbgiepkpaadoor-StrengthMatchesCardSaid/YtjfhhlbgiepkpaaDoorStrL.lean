/-
  Lists of intervals as an argument, copied, over the seat's translation. Conditions: at most 60 intervals.
-/
import Derived.Test.YtjfhhlbgiepkpaaDoorStrH
namespace Go.Proofs.YtjfhhlbgiepkpaaDoor
open Go Go.RowKit

/-- A slice of n intervals that came in. -/
def RdA (w : World) (A : Option Addr) (n : Nat) (f : Nat → Int × Int) : Prop :=
  0 < n → ∃ b off, A = some ⟨b, off, none⟩ ∧ b < w.heap.size ∧ ∀ i, i < n → w.cell? ⟨b, off + i * 2, none⟩ = some (.int .i8 (f i).1) ∧ w.cell? ⟨b, off + i * 2 + 1, none⟩ = some (.int .i8 (f i).2)
def cellsL (f : Nat → Int × Int) : Nat → List Value
  | 0 => []
  | n + 1 => cellsL f n ++ [.int .i8 (f n).1, .int .i8 (f n).2]
theorem cellsL_len (f : Nat → Int × Int) (n : Nat) : (cellsL f n).length = n * 2 := by
  induction n with
  | zero => rfl
  | succ n ih => simp [cellsL, ih]; omega
theorem cellsL_get (f : Nat → Int × Int) : ∀ (n i : Nat), i < n → (cellsL f n)[i * 2]? = some (.int .i8 (f i).1) ∧ (cellsL f n)[i * 2 + 1]? = some (.int .i8 (f i).2)
  | 0, _, h => by omega
  | n + 1, i, h => by
    have hl := cellsL_len f n
    unfold cellsL
    by_cases hi : i < n
    · have ih := cellsL_get f n i hi
      rw [List.getElem?_append_left (by omega), List.getElem?_append_left (by omega)]
      exact ih
    · obtain rfl : i = n := by omega
      rw [List.getElem?_append_right (by omega), List.getElem?_append_right (by omega), hl]
      simp
/-- A copy of a list of intervals. -/
def CpPost (w : World) (n : Nat) (f : Nat → Int × Int) (e : Ending) (w' : World) : Prop := ∃ A cap, e = .returned (.slice A n cap) ∧ RdS w' A n f ∧ Below w.heap.size w w'
theorem RdS_own {w : World} {base : Nat} {t : TypeId} {v : Value} {n : Nat} {f : Nat → Int × Int} (h : w.ownsRow base t 2 v n (cellsL f n)) : ∃ A cap, v = .slice A n cap ∧ RdS w A n f := by
  by_cases hn : 0 < n
  · obtain ⟨g, cap, rfl, _, hg⟩ := h.form hn
    exact ⟨_, cap, rfl, fun _ => ⟨g, rfl, hg, fun i hi => by
      rw [h.cellAt _ (by omega), h.cellAt _ (by omega)]
      exact cellsL_get f n i hi⟩⟩
  · obtain rfl : n = 0 := by omega
    rcases h.2 with ⟨rfl, _⟩ | ⟨g, cap, cur, rfl, _⟩
    · exact ⟨none, 0, rfl, fun h => by omega⟩
    · exact ⟨_, cap, rfl, fun h => by omega⟩
theorem info_iv : (Tryd.prog.info? 29).map (fun i => (i.zero, i.size, i.bytes)) = some (some (.agg #[.int .i8 0, .int .i8 0]), 2, 2) := by kernel_rfl
theorem info_ivr : (Tryd.prog.info? 28).map (fun i => (i.zero, i.size, i.bytes)) = some (some (.agg #[.int .i8 0, .int .i8 0]), 2, 2) := by kernel_rfl

set_option maxRecDepth 100000 in
set_option maxHeartbeats 4000000 in
theorem given_any (A : Option Addr) (n cap : Nat) (f : Nat → Int × Int) (w : World) (hn : n ≤ 60) (hr : RdA w A n f) : Calls Tryd.prog 14 #[.slice A n cap] w (CpPost w n f) := by
  obtain ⟨i0, hi, hz0, hz1, hz2⟩ := info_parts info_iv
  replace hi := Lib.hid hi
  replace hz0 := Lib.hid hz0
  replace hz1 := Lib.hid hz1
  replace hz2 := Lib.hid hz2
  replace hr := Lib.hid hr
  by_cases h0 : n = 0
  · have hlt0 : ∀ k : Nat, k ≤ n → ¬ k < n := fun k _ => by omega
    replace h0 := Lib.hid h0
    clear hr
    go_enter Tryd.func14, Tryd.ntmps14
    go_wp2
    go_loopw [3, 4] (fun v x wr => x = .int .i64 0 ∧ v = .slice none 0 0 ∧ Below w.heap.size w wr) (fun _ _ _ => 0)
    case atStart => exact ⟨rfl, rfl, Below.refl _ _⟩
    case round =>
      obtain ⟨rfl, rfl, hB⟩ := hrel
      replace hB := Lib.hid hB
      have hn0 : (n : Int) ≤ 0 := by have := h0.out; omega
      go_wp2
      go_ret
      exact ⟨none, 0, by rw [h0.out]; rfl, fun h => by have := h0.out; omega, hB.out⟩
  · obtain ⟨b, off, rfl, hb, hc⟩ := hr.out (by omega)
    clear hr h0
    replace hb := Lib.hid hb
    replace hc := Lib.hid hc
    go_enter Tryd.func14, Tryd.ntmps14
    go_wp2
    go_loopw [3, 4] (fun v x wr => ∃ k : Nat, x = .int .i64 k ∧ k ≤ n ∧ wr.ownsRow w.heap.size 29 2 v k (cellsL f k) ∧ Below w.heap.size w wr) (fun _ x _ => n - (intOf x).toNat)
    case atStart => exact ⟨0, rfl, by omega, ⟨rfl, .inl ⟨rfl, rfl⟩⟩, Below.refl _ _⟩
    case round =>
      obtain ⟨k, rfl, hk, hown, hB⟩ := hrel
      replace hown := Lib.hid hown
      by_cases hlt : k < n
      · have ck := hc.out k hlt
        have c0 := (hB.cell (p := ⟨b, off + k * 2, none⟩) hb.out).trans ck.1
        have c1 := (hB.cell (p := ⟨b, off + k * 2 + 1, none⟩) hb.out).trans ck.2
        clear ck
        replace hB := Lib.hid hB
        go_wp2_with (at_builtin; refine wpList_append_own _ rfl _ _ 24 rfl w.heap.size 29 i0 (.agg #[.int .i8 0, .int .i8 0]) 2 2 Tryd.underlying24 hi.out hz0.out hz1.out hz2.out rfl (by decide) _ _ _ rfl (hown.out.alloc _) ⟨wr.heap.size, 0, none⟩ 1 1 [.int .i8 (f k).1, .int .i8 (f k).2] rfl rfl ?c1 ?c2 ?c3 ?c4 ?c5 ?_)
        case c1 =>
          intro j1 u hu
          match j1, hu with
          | 0, hu => simpa [Addr.add] using hu
          | 1, hu => simpa [Addr.add] using hu
        case c2 => intro u hu; simp at hu; rcases hu with rfl | rfl <;> rfl
        case c3 => unfold maxLen; omega
        case c4 => omega
        case c5 => have := hB.out.size; simp; omega
        intro v1 w1 hown1 hg1 _
        have hB1 : Below w.heap.size w w1 := (hB.out.alloc hB.out.size _).grown hg1 (by have := hB.out.size; simp; omega) (fun j hj => (hown.out.lt j hj).1)
        replace hown1 := Lib.hid (show w1.ownsRow w.heap.size 29 2 v1 (k + 1) (cellsL f (k + 1)) from hown1)
        replace hB1 := Lib.hid hB1
        clear hg1
        go_wp2
        go_roundw
        case rel => exact ⟨k + 1, by go_num, by omega, hown1.out, hB1.out⟩
        case measure => simp [intOf]; omega
      · obtain rfl : k = n := by omega
        replace hB := Lib.hid hB
        go_wp2
        go_ret
        obtain ⟨A', cap', hv, hr⟩ := RdS_own hown.out
        subst hv
        exact ⟨A', cap', rfl, hr, hB.out⟩

set_option maxRecDepth 100000 in
set_option maxHeartbeats 4000000 in
theorem told_any (A : Option Addr) (n cap : Nat) (f : Nat → Int × Int) (w : World) (hn : n ≤ 60) (hr : RdA w A n f) : Calls Tryd.prog 17 #[.slice A n cap] w (CpPost w n f) := by
  obtain ⟨i0, hi, hz0, hz1, hz2⟩ := info_parts info_ivr
  replace hi := Lib.hid hi
  replace hz0 := Lib.hid hz0
  replace hz1 := Lib.hid hz1
  replace hz2 := Lib.hid hz2
  replace hr := Lib.hid hr
  by_cases h0 : n = 0
  · have hlt0 : ∀ k : Nat, k ≤ n → ¬ k < n := fun k _ => by omega
    replace h0 := Lib.hid h0
    clear hr
    go_enter Tryd.func17, Tryd.ntmps17
    go_wp2
    go_loopw [3, 4] (fun v x wr => x = .int .i64 0 ∧ v = .slice none 0 0 ∧ Below w.heap.size w wr) (fun _ _ _ => 0)
    case atStart => exact ⟨rfl, rfl, Below.refl _ _⟩
    case round =>
      obtain ⟨rfl, rfl, hB⟩ := hrel
      replace hB := Lib.hid hB
      have hn0 : (n : Int) ≤ 0 := by have := h0.out; omega
      go_wp2
      go_ret
      exact ⟨none, 0, by rw [h0.out]; rfl, fun h => by have := h0.out; omega, hB.out⟩
  · obtain ⟨b, off, rfl, hb, hc⟩ := hr.out (by omega)
    clear hr h0
    replace hb := Lib.hid hb
    replace hc := Lib.hid hc
    go_enter Tryd.func17, Tryd.ntmps17
    go_wp2
    go_loopw [3, 4] (fun v x wr => ∃ k : Nat, x = .int .i64 k ∧ k ≤ n ∧ wr.ownsRow w.heap.size 28 2 v k (cellsL f k) ∧ Below w.heap.size w wr) (fun _ x _ => n - (intOf x).toNat)
    case atStart => exact ⟨0, rfl, by omega, ⟨rfl, .inl ⟨rfl, rfl⟩⟩, Below.refl _ _⟩
    case round =>
      obtain ⟨k, rfl, hk, hown, hB⟩ := hrel
      replace hown := Lib.hid hown
      by_cases hlt : k < n
      · have ck := hc.out k hlt
        have c0 := (hB.cell (p := ⟨b, off + k * 2, none⟩) hb.out).trans ck.1
        have c1 := (hB.cell (p := ⟨b, off + k * 2 + 1, none⟩) hb.out).trans ck.2
        clear ck
        replace hB := Lib.hid hB
        go_wp2_with (at_builtin; refine wpList_append_own _ rfl _ _ 32 rfl w.heap.size 28 i0 (.agg #[.int .i8 0, .int .i8 0]) 2 2 Tryd.underlying32 hi.out hz0.out hz1.out hz2.out rfl (by decide) _ _ _ rfl (hown.out.alloc _) ⟨wr.heap.size, 0, none⟩ 1 1 [.int .i8 (f k).1, .int .i8 (f k).2] rfl rfl ?c1 ?c2 ?c3 ?c4 ?c5 ?_)
        case c1 =>
          intro j1 u hu
          match j1, hu with
          | 0, hu => simpa [Addr.add] using hu
          | 1, hu => simpa [Addr.add] using hu
        case c2 => intro u hu; simp at hu; rcases hu with rfl | rfl <;> rfl
        case c3 => unfold maxLen; omega
        case c4 => omega
        case c5 => have := hB.out.size; simp; omega
        intro v1 w1 hown1 hg1 _
        have hB1 : Below w.heap.size w w1 := (hB.out.alloc hB.out.size _).grown hg1 (by have := hB.out.size; simp; omega) (fun j hj => (hown.out.lt j hj).1)
        replace hown1 := Lib.hid (show w1.ownsRow w.heap.size 28 2 v1 (k + 1) (cellsL f (k + 1)) from hown1)
        replace hB1 := Lib.hid hB1
        clear hg1
        go_wp2
        go_roundw
        case rel => exact ⟨k + 1, by go_num, by omega, hown1.out, hB1.out⟩
        case measure => simp [intOf]; omega
      · obtain rfl : k = n := by omega
        replace hB := Lib.hid hB
        go_wp2
        go_ret
        obtain ⟨A', cap', hv, hr⟩ := RdS_own hown.out
        subst hv
        exact ⟨A', cap', rfl, hr, hB.out⟩
end Go.Proofs.YtjfhhlbgiepkpaaDoor
