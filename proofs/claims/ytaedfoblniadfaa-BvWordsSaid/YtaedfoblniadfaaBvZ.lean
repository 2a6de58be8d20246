/-
  The contract of spoil: vectors of the call's own are overwritten, nothing else. No conditions.
-/
import Derived.Test.YtaedfoblniadfaaBvY
import Derived.RegionTactic
import Derived.Deep.DrawnRows
namespace Go.Proofs.Ytaedfoblniadfaa
open Go Go.RowKit
attribute [local go_sem ↓] Go.wp_at_zero Go.wp_at_succ

theorem bl_set (n x k : Nat) (v : Bool) : ∃ x', (x < 2 ^ n → x' < 2 ^ n) ∧ (bl n x).set k (.bool v) = bl n x' := by
  by_cases hk : k < n
  · refine ⟨setb x k v, fun h => setb_lt h hk, ?_⟩
    · have e := ba_set (x := x) v hk
      have e2 : (bl n x).set k (.bool v) = bl n (setb x k v) := by
        have := congrArg Array.toList e
        simpa [ba] using this
      exact e2
  · exact ⟨x, fun h => h, List.set_eq_of_length_le (by rw [bl_length]; omega)⟩
theorem Nw.set_any {u : World} {B : Nat} {A : Option Addr} {n c x : Nat} (h : Nw u B A n c x) (g k : Nat) (v : Bool) : ∃ x', Nw (u.setCell ⟨g, k, none⟩ (.bool v)) B A n c x' := by
  obtain ⟨hx, hl, hr⟩ := h
  rcases hr with ⟨e, h0⟩ | ⟨g', cap, cur, e, hB, hh, h1, h2, h3, h4⟩
  · exact ⟨x, hx, hl, .inl ⟨e, h0⟩⟩
  · by_cases hg : g' = g
    · subst hg
      obtain ⟨x', hx', hs⟩ := bl_set n x k v
      refine ⟨x', hx' hx, by simp [bl_length], .inr ⟨g', cap, cur.setIfInBounds k (.bool v), e, hB, ?_, h1, h2, by simpa using h3, ?_⟩⟩
      · have := Own.put (w := u) (g := g') (t := 4) (cs := cur) hh k (.bool v)
        exact this
      · rw [Array.toList_setIfInBounds, List.take_set, h4]
        exact hs
    · exact ⟨x, hx, hl, .inr ⟨g', cap, cur, e, hB, (Below.heap_setCell u ⟨g, k, none⟩ (.bool v) g' hg).trans hh, h1, h2, h3, h4⟩⟩
def Spo (W u : World) (b : Nat) (cells : Array Value) (l : Nat) : Prop :=
  Below W.heap.size W u ∧ Own u b 22 cells ∧ ∀ i, i < l → ∃ A n c x, cells[i]? = some (.slice A n c) ∧ n ≤ 10000 ∧ Nw u W.heap.size A n c x
theorem Spo.set {W u : World} {b l : Nat} {cells : Array Value} (h : Spo W u b cells l) {g k : Nat} {cur : Array Value} (hg : Own u g 4 cur) (hB : W.heap.size ≤ g) (v : Bool) : Spo W (u.setCell ⟨g, k, none⟩ (.bool v)).drew b cells l := by
  obtain ⟨hb, ho, hc⟩ := h
  have hne : b ≠ g := by
    rintro rfl
    have h1 : u.heap[b]? = _ := ho
    have h2 : u.heap[b]? = _ := hg
    rw [h1] at h2
    simp at h2
  refine ⟨below_drew (below_set hb hB _), ho.far hne _, fun i hi => ?_⟩
  obtain ⟨A, n, c, x, e, hn, hv⟩ := hc i hi
  obtain ⟨x', hv'⟩ := hv.set_any g k v
  exact ⟨A, n, c, x', e, hn, hv'⟩
set_option maxHeartbeats 1000000 in
theorem spoil_any (W w : World) (b l : Nat) (cells : Array Value) (hs : Spo W w b cells l) (hl : l ≤ 1000) :
    Calls Try.prog 25 #[.slice (some ⟨b, 0, none⟩) l l] w fun e w' => e = .returned (.tuple #[]) ∧ Below W.heap.size W w' := by
  go_enter Try.func25, Try.ntmps25
  go_wp2
  go_loopw [2] (fun i u => ∃ k : Nat, k ≤ l ∧ i = .int .i64 k ∧ Spo W u b cells l) (fun i _ => l - (intOf i).toNat)
  case atStart => exact ⟨0, Nat.zero_le _, rfl, hs⟩
  case round =>
    obtain ⟨wo, rfl⟩ : ∃ wo : World, wo = wr := ⟨_, rfl⟩
    obtain ⟨k, hk, rfl, hS⟩ := hrel
    by_cases g1 : k < l
    · obtain ⟨A, n, c, _, he, hn, _⟩ := hS.2.2 k g1
      have d1 : decide ((k : Int) < l) = true := by simpa using g1
      have l0 : (0 : Int) ≤ k := by omega
      have l1 : (k : Int) < l := by omega
      go_wp2
      go_loopw [3] (fun i u => ∃ j : Nat, j ≤ n ∧ i = .int .i64 j ∧ Spo W u b cells l) (fun i _ => n - (intOf i).toNat)
      case atStart => exact ⟨0, Nat.zero_le _, rfl, hS⟩
      case round =>
        obtain ⟨j, hj, rfl, hT⟩ := hrel
        have ch : wr.cell? ⟨b, k, none⟩ = some (.slice A n c) := (hT.2.1.cell k).trans he
        by_cases g2 : j < n
        · obtain ⟨A', n', c', x, he', _, hv⟩ := hT.2.2 k g1
          rw [he] at he'
          simp only [Option.some.injEq, Value.slice.injEq] at he'
          obtain ⟨rfl, rfl, rfl⟩ := he'
          obtain ⟨g, cap, e, hB, hlt⟩ := hv.2.form (by omega)
          simp only [Value.slice.injEq] at e
          obtain ⟨rfl, _, rfl⟩ := e
          have cc : wr.cell? ⟨g, j, none⟩ = some (.bool (x.testBit j)) := (hv.2.cellAt j (by omega)).trans (bl_get _ _ _ g2)
          have fc := hv.2.frozenAt j
          obtain ⟨cur, hcur⟩ : ∃ cur, Own wr g 4 cur := by
            rcases hv.2.2 with ⟨e, _⟩ | ⟨g', cap', cur, e, _, hh, _⟩
            · simp at e
            · simp only [Value.slice.injEq, Option.some.injEq, Addr.mk.injEq, and_true, true_and] at e
              obtain ⟨rfl, _⟩ := e
              exact ⟨cur, hh⟩
          have hfin := Lib.hid (fun v => Spo.set hT hcur hB (k := j) v)
          have d2 : decide ((j : Int) < n) = true := by simpa using g2
          have l2 : (0 : Int) ≤ j := by omega
          have l3 : (j : Int) < n := by omega
          generalize x.testBit j = bx at *
          clear hv hcur he hS hT hs
          go_wp2
          go_region
          all_goals
            go_wp2
            go_roundw
            case rel => exact ⟨j + 1, by omega, by go_num, hfin.out _⟩
            case measure => simp [intOf]; omega
        · obtain rfl : j = n := by omega
          clear he hS
          go_wp2
          go_roundw
          case rel => exact ⟨k + 1, by omega, by go_num, hT⟩
          case measure => simp [intOf]; omega
    · obtain rfl : k = l := by omega
      go_wp2
      go_end0
      exact ⟨rfl, hS.1⟩
end Go.Proofs.Ytaedfoblniadfaa
