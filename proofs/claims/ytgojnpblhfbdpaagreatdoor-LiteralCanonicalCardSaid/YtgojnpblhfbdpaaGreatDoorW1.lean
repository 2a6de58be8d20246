/-
  Contracts of the statements' own functions Long and Spoil. Conditions: at most a thousand vectors, of which those that are overwritten have at most ten thousand bits.
-/
import Derived.Test.YtgojnpblhfbdpaaGreatDoorQb
import Derived.RegionTactic
import Derived.Deep.DrawnRows
namespace Go.Proofs.YtgojnpblhfbdpaaGreatDoor
open Go Go.RowKit
attribute [local go_sem ↓] Go.wp_at_zero Go.wp_at_succ

/-- A list of vectors that lies in memory, of these lengths. -/
def Lens (w : World) (b o l : Nat) (f : Nat → Nat) : Prop := ∀ i, i < l → ∃ A c, w.cell? ⟨b, o + i * 2, none⟩ = some (.slice A (f i) c)
set_option maxRecDepth 100000 in
theorem long_false (b o l cap : Nat) (f : Nat → Nat) (w : World) (h : Lens w b o l f) (hl : l ≤ 1000) (hf : ∀ i, i < l → f i ≤ 140) :
    Calls Tryz.prog 18 #[.slice (some ⟨b, o, none⟩) l cap] w fun e w' => e = .returned (.bool false) ∧ w = w' := by
  go_enter Tryz.func18, Tryz.ntmps18
  go_wp2
  go_loop [3] (fun i => ∃ k : Nat, k ≤ l ∧ i = .int .i64 k) (fun i => l - (intOf i).toNat)
  case atStart => exact ⟨0, Nat.zero_le _, rfl⟩
  case round =>
    obtain ⟨k, hk, rfl⟩ := hrel
    by_cases g1 : k < l
    · obtain ⟨A, c, hc⟩ := h k g1
      have hb := hf k g1
      have d1 : decide ((k : Int) < l) = true := by simpa using g1
      have d2 : decide ((140 : Int) < f k) = false := by simp; omega
      generalize f k = n at *
      clear hf h
      go_wp2
      go_round
      case rel => exact ⟨k + 1, by omega, by go_num⟩
      case measure => simp [intOf]; omega
    · obtain rfl : k = l := by omega
      go_wp2
      go_ret
      exact ⟨rfl, rfl⟩
set_option maxRecDepth 100000 in
theorem long_true (b o l cap j : Nat) (f : Nat → Nat) (w : World) (h : Lens w b o l f) (hl : l ≤ 1000) (hj : j < l) (hf : 140 < f j) :
    Calls Tryz.prog 18 #[.slice (some ⟨b, o, none⟩) l cap] w fun e w' => e = .returned (.bool true) ∧ w = w' := by
  go_enter Tryz.func18, Tryz.ntmps18
  go_wp2
  go_loop [3] (fun i => ∃ k : Nat, k ≤ j ∧ i = .int .i64 k) (fun i => l - (intOf i).toNat)
  case atStart => exact ⟨0, Nat.zero_le _, rfl⟩
  case round =>
    obtain ⟨k, hk, rfl⟩ := hrel
    obtain ⟨A, c, hc⟩ := h k (by omega)
    have d1 : decide ((k : Int) < l) = true := by simp; omega
    have l1 : (k : Int) < l := by omega
    by_cases g1 : 140 < f k
    · have d2 : decide ((140 : Int) < f k) = true := by simp; omega
      generalize f k = n at *
      clear h
      go_wp2
      go_ret
      exact ⟨rfl, rfl⟩
    · have hkj : k ≠ j := by rintro rfl; exact g1 hf
      have d2 : decide ((140 : Int) < f k) = false := by simp; omega
      generalize f k = n at *
      clear h hf
      go_wp2
      go_round
      case rel => exact ⟨k + 1, by omega, by go_num⟩
      case measure => simp [intOf]; omega
set_option maxRecDepth 100000 in
theorem long_any (b o l cap : Nat) (f : Nat → Nat) (w : World) (h : Lens w b o l f) (hl : l ≤ 1000) (p : Bool) (hp : p = true ↔ ∃ j, j < l ∧ 140 < f j) :
    Calls Tryz.prog 18 #[.slice (some ⟨b, o, none⟩) l cap] w fun e w' => e = .returned (.bool p) ∧ w = w' := by
  cases p
  · exact long_false b o l cap f w h hl fun i hi => by
      rcases Nat.lt_or_ge 140 (f i) with h1 | h1
      · have := hp.2 ⟨i, hi, h1⟩; cases this
      · exact h1
  · obtain ⟨j, hj, h1⟩ := hp.1 rfl
    exact long_true b o l cap j f w h hl hj h1
/-- The lengths of a few vectors, each at most 140. -/
def lngB (l : List Nat) : Bool := l.any fun n => decide (140 < n)
set_option maxRecDepth 100000 in
theorem lng_no {l : List Nat} (h : lngB l = false) : ∀ n ∈ l, n ≤ 140 := fun n hn => by
  unfold lngB at h; rw [List.any_eq_false] at h; have := h n hn; simp at this; omega
set_option maxRecDepth 100000 in
theorem long2 (A0 A1 : Option Addr) (n0 c0 n1 c1 : Nat) (s0 s1 : Bool) (w : World) :
    Calls Tryz.prog 18 #[.slice (some ⟨w.heap.size, 0, none⟩) 2 2] (w.alloc (.cells #[.slice A0 n0 c0, .bool s0, .slice A1 n1 c1, .bool s1] 26)) fun e w' => e = .returned (.bool (lngB [n0, n1])) ∧ (w.alloc (.cells #[.slice A0 n0 c0, .bool s0, .slice A1 n1 c1, .bool s1] 26)) = w' := by
  have o := Own.new w 26 #[.slice A0 n0 c0, .bool s0, .slice A1 n1 c1, .bool s1]
  refine long_any _ _ _ _ (fun i => [n0, n1].getD i 0) _ (fun i hi => ?_) (by decide) _ ?_
  · rcases (show i = 0 ∨ i = 1 by omega) with rfl | rfl
    · exact ⟨_, _, o.cell 0⟩
    · exact ⟨_, _, o.cell 2⟩
  · unfold lngB
    rw [List.any_eq_true]
    constructor
    · rintro ⟨x, hx, h⟩
      obtain ⟨i, hi, rfl⟩ := List.getElem_of_mem hx
      exact ⟨i, hi, by rw [List.getD_eq_getElem?_getD, List.getElem?_eq_getElem hi]; simpa using h⟩
    · rintro ⟨i, hi, h⟩
      rw [List.getD_eq_getElem?_getD, List.getElem?_eq_getElem (by simpa using hi)] at h
      exact ⟨_, List.getElem_mem _, by simpa using h⟩
set_option maxRecDepth 100000 in
theorem long3 (A0 A1 A2 : Option Addr) (n0 c0 n1 c1 n2 c2 : Nat) (s0 s1 s2 : Bool) (w : World) :
    Calls Tryz.prog 18 #[.slice (some ⟨w.heap.size, 0, none⟩) 3 3] (w.alloc (.cells #[.slice A0 n0 c0, .bool s0, .slice A1 n1 c1, .bool s1, .slice A2 n2 c2, .bool s2] 26)) fun e w' => e = .returned (.bool (lngB [n0, n1, n2])) ∧ (w.alloc (.cells #[.slice A0 n0 c0, .bool s0, .slice A1 n1 c1, .bool s1, .slice A2 n2 c2, .bool s2] 26)) = w' := by
  have o := Own.new w 26 #[.slice A0 n0 c0, .bool s0, .slice A1 n1 c1, .bool s1, .slice A2 n2 c2, .bool s2]
  refine long_any _ _ _ _ (fun i => [n0, n1, n2].getD i 0) _ (fun i hi => ?_) (by decide) _ ?_
  · rcases (show i = 0 ∨ i = 1 ∨ i = 2 by omega) with rfl | rfl | rfl
    · exact ⟨_, _, o.cell 0⟩
    · exact ⟨_, _, o.cell 2⟩
    · exact ⟨_, _, o.cell 4⟩
  · unfold lngB
    rw [List.any_eq_true]
    constructor
    · rintro ⟨x, hx, h⟩
      obtain ⟨i, hi, rfl⟩ := List.getElem_of_mem hx
      exact ⟨i, hi, by rw [List.getD_eq_getElem?_getD, List.getElem?_eq_getElem hi]; simpa using h⟩
    · rintro ⟨i, hi, h⟩
      rw [List.getD_eq_getElem?_getD, List.getElem?_eq_getElem (by simpa using hi)] at h
      exact ⟨_, List.getElem_mem _, by simpa using h⟩
set_option maxRecDepth 100000 in
theorem long4 (A0 A1 A2 A3 : Option Addr) (n0 c0 n1 c1 n2 c2 n3 c3 : Nat) (s0 s1 s2 s3 : Bool) (w : World) :
    Calls Tryz.prog 18 #[.slice (some ⟨w.heap.size, 0, none⟩) 4 4] (w.alloc (.cells #[.slice A0 n0 c0, .bool s0, .slice A1 n1 c1, .bool s1, .slice A2 n2 c2, .bool s2, .slice A3 n3 c3, .bool s3] 26)) fun e w' => e = .returned (.bool (lngB [n0, n1, n2, n3])) ∧ (w.alloc (.cells #[.slice A0 n0 c0, .bool s0, .slice A1 n1 c1, .bool s1, .slice A2 n2 c2, .bool s2, .slice A3 n3 c3, .bool s3] 26)) = w' := by
  have o := Own.new w 26 #[.slice A0 n0 c0, .bool s0, .slice A1 n1 c1, .bool s1, .slice A2 n2 c2, .bool s2, .slice A3 n3 c3, .bool s3]
  refine long_any _ _ _ _ (fun i => [n0, n1, n2, n3].getD i 0) _ (fun i hi => ?_) (by decide) _ ?_
  · rcases (show i = 0 ∨ i = 1 ∨ i = 2 ∨ i = 3 by omega) with rfl | rfl | rfl | rfl
    · exact ⟨_, _, o.cell 0⟩
    · exact ⟨_, _, o.cell 2⟩
    · exact ⟨_, _, o.cell 4⟩
    · exact ⟨_, _, o.cell 6⟩
  · unfold lngB
    rw [List.any_eq_true]
    constructor
    · rintro ⟨x, hx, h⟩
      obtain ⟨i, hi, rfl⟩ := List.getElem_of_mem hx
      exact ⟨i, hi, by rw [List.getD_eq_getElem?_getD, List.getElem?_eq_getElem hi]; simpa using h⟩
    · rintro ⟨i, hi, h⟩
      rw [List.getD_eq_getElem?_getD, List.getElem?_eq_getElem (by simpa using hi)] at h
      exact ⟨_, List.getElem_mem _, by simpa using h⟩
set_option maxRecDepth 100000 in
theorem long6 (A0 A1 A2 A3 A4 A5 : Option Addr) (n0 c0 n1 c1 n2 c2 n3 c3 n4 c4 n5 c5 : Nat) (s0 s1 s2 s3 s4 s5 : Bool) (w : World) :
    Calls Tryz.prog 18 #[.slice (some ⟨w.heap.size, 0, none⟩) 6 6] (w.alloc (.cells #[.slice A0 n0 c0, .bool s0, .slice A1 n1 c1, .bool s1, .slice A2 n2 c2, .bool s2, .slice A3 n3 c3, .bool s3, .slice A4 n4 c4, .bool s4, .slice A5 n5 c5, .bool s5] 26)) fun e w' => e = .returned (.bool (lngB [n0, n1, n2, n3, n4, n5])) ∧ (w.alloc (.cells #[.slice A0 n0 c0, .bool s0, .slice A1 n1 c1, .bool s1, .slice A2 n2 c2, .bool s2, .slice A3 n3 c3, .bool s3, .slice A4 n4 c4, .bool s4, .slice A5 n5 c5, .bool s5] 26)) = w' := by
  have o := Own.new w 26 #[.slice A0 n0 c0, .bool s0, .slice A1 n1 c1, .bool s1, .slice A2 n2 c2, .bool s2, .slice A3 n3 c3, .bool s3, .slice A4 n4 c4, .bool s4, .slice A5 n5 c5, .bool s5]
  refine long_any _ _ _ _ (fun i => [n0, n1, n2, n3, n4, n5].getD i 0) _ (fun i hi => ?_) (by decide) _ ?_
  · rcases (show i = 0 ∨ i = 1 ∨ i = 2 ∨ i = 3 ∨ i = 4 ∨ i = 5 by omega) with rfl | rfl | rfl | rfl | rfl | rfl
    · exact ⟨_, _, o.cell 0⟩
    · exact ⟨_, _, o.cell 2⟩
    · exact ⟨_, _, o.cell 4⟩
    · exact ⟨_, _, o.cell 6⟩
    · exact ⟨_, _, o.cell 8⟩
    · exact ⟨_, _, o.cell 10⟩
  · unfold lngB
    rw [List.any_eq_true]
    constructor
    · rintro ⟨x, hx, h⟩
      obtain ⟨i, hi, rfl⟩ := List.getElem_of_mem hx
      exact ⟨i, hi, by rw [List.getD_eq_getElem?_getD, List.getElem?_eq_getElem hi]; simpa using h⟩
    · rintro ⟨i, hi, h⟩
      rw [List.getD_eq_getElem?_getD, List.getElem?_eq_getElem (by simpa using hi)] at h
      exact ⟨_, List.getElem_mem _, by simpa using h⟩

set_option maxRecDepth 100000 in
theorem Nb.set_any {u : World} {B : Nat} {A : Option Addr} {n c : Nat} {l : List Int} (h : Nb u B A n c l) (g k : Nat) {v : Int} (hv : 0 ≤ v) : ∃ l', Nb (u.setCell ⟨g, k, none⟩ (.int .u8 v)) B A n c l' := by
  obtain ⟨hx, hl, hn, hr⟩ := h
  rcases hr with ⟨e, h0⟩ | ⟨g', cap, cur, e, hB, hh, h1, h2, h3, h4⟩
  · exact ⟨l, hx, hl, hn, .inl ⟨e, h0⟩⟩
  · by_cases hg : g' = g
    · subst hg
      refine ⟨l.set k v, by simpa using hx, fun a ha => ?_, by simpa [il_length] using hn, .inr ⟨g', cap, cur.setIfInBounds k (.int .u8 v), e, hB, ?_, h1, h2, by simpa using h3, ?_⟩⟩
      · rcases List.mem_or_eq_of_mem_set ha with h | h
        · exact hl a h
        · omega
      · exact Own.put (w := u) (g := g') (t := 58) (cs := cur) hh k (.int .u8 v)
      · rw [Array.toList_setIfInBounds, List.take_set, h4, il_set]
    · exact ⟨l, hx, hl, hn, .inr ⟨g', cap, cur, e, hB, (Below.heap_setCell u ⟨g, k, none⟩ (.int .u8 v) g' hg).trans hh, h1, h2, h3, h4⟩⟩
def Spo (W u : World) (b : Nat) (cells : Array Value) (l : Nat) : Prop :=
  Below W.heap.size W u ∧ Own u b 26 cells ∧ ∀ i, i < l → ∃ A n c x, cells[i * 2]? = some (.slice A n c) ∧ n ≤ 10000 ∧ Nb u W.heap.size A n c x
set_option maxRecDepth 100000 in
theorem Spo.set {W u : World} {b l : Nat} {cells : Array Value} (h : Spo W u b cells l) {g k : Nat} {cur : Array Value} (hg : Own u g 58 cur) (hB : W.heap.size ≤ g) {v : Int} (h0 : 0 ≤ v) : Spo W (u.setCell ⟨g, k, none⟩ (.int .u8 v)) b cells l := by
  obtain ⟨hb, ho, hc⟩ := h
  have hne : b ≠ g := by
    rintro rfl
    have h1 : u.heap[b]? = _ := ho
    have h2 : u.heap[b]? = _ := hg
    rw [h1] at h2
    simp at h2
  refine ⟨below_set hb hB _, ho.far hne _, fun i hi => ?_⟩
  obtain ⟨A, n, c, x, e, hn, hv⟩ := hc i hi
  obtain ⟨x', hv'⟩ := hv.set_any g k h0
  exact ⟨A, n, c, x', e, hn, hv'⟩
set_option maxRecDepth 100000 in
set_option maxHeartbeats 1000000 in
theorem spoil_any (W w : World) (b l : Nat) (cells : Array Value) (hs : Spo W w b cells l) (hl : l ≤ 1000) :
    Calls Tryz.prog 17 #[.slice (some ⟨b, 0, none⟩) l l] w fun e w' => e = .returned (.tuple #[]) ∧ Below W.heap.size W w' := by
  go_enter Tryz.func17, Tryz.ntmps17
  go_wp2
  go_loopw [2] (fun i u => ∃ k : Nat, k ≤ l ∧ i = .int .i64 k ∧ Spo W u b cells l) (fun i _ => l - (intOf i).toNat)
  case atStart => exact ⟨0, Nat.zero_le _, rfl, hs⟩
  case round =>
    obtain ⟨wo, rfl⟩ : ∃ wo : World, wo = wr := ⟨_, rfl⟩
    obtain ⟨k, hk, rfl, hS⟩ := hrel
    by_cases g1 : k < l
    · obtain ⟨A, n, c, _, he, hn, _⟩ := hS.2.2 k g1
      have d1 : decide ((k : Int) < l) = true := by simpa using g1
      have l0 : (0 : Int) ≤ k := by omega
      have l1 : (k : Int) < l := by omega
      go_wp2
      go_loopw [3] (fun i u => ∃ j : Nat, j ≤ n ∧ i = .int .i64 j ∧ Spo W u b cells l) (fun i _ => n - (intOf i).toNat)
      case atStart => exact ⟨0, Nat.zero_le _, rfl, hS⟩
      case round =>
        obtain ⟨j, hj, rfl, hT⟩ := hrel
        have ch : wr.cell? ⟨b, k * 2, none⟩ = some (.slice A n c) := (hT.2.1.cell (k * 2)).trans he
        have ch' : wr.cell? ⟨b, 0 + k * 2, none⟩ = some (.slice A n c) := by rw [Nat.zero_add]; exact ch
        by_cases g2 : j < n
        · obtain ⟨A', n', c', x, he', _, hv⟩ := hT.2.2 k g1
          rw [he] at he'
          simp only [Option.some.injEq, Value.slice.injEq] at he'
          obtain ⟨rfl, rfl, rfl⟩ := he'
          obtain ⟨g, cur, rfl, hB, hcur, _, hsz⟩ := hv.own (by omega)
          have cc : wr.cell? ⟨g, j, none⟩ = some (.int .u8 (nth x j)) := by
            obtain ⟨b2, o2, e2, _, h2⟩ := hv.rd.2.2 (by omega)
            simp only [Option.some.injEq, Addr.mk.injEq, and_true] at e2
            obtain ⟨rfl, rfl⟩ := e2
            have := h2 j g2
            rwa [Nat.zero_add] at this
          have fc := hcur.free j
          have hfin := Lib.hid (Spo.set hT hcur hB (k := j) (v := 99) (by decide))
          have d2 : decide ((j : Int) < n) = true := by simpa using g2
          have l2 : (0 : Int) ≤ j := by omega
          have l3 : (j : Int) < n := by omega
          generalize nth x j = bx at *
          clear hv hcur he hS hT hs hsz
          go_wp2
          go_roundw
          case rel => exact ⟨j + 1, by omega, by go_num, hfin.out⟩
          case measure => simp [intOf]; omega
        · obtain rfl : j = n := by omega
          clear he hS
          go_wp2
          go_roundw
          case rel => exact ⟨k + 1, by omega, by go_num, hT⟩
          case measure => simp [intOf]; omega
    · obtain rfl : k = l := by omega
      go_wp2
      go_end0
      exact ⟨rfl, hS.1⟩
end Go.Proofs.YtgojnpblhfbdpaaGreatDoor
