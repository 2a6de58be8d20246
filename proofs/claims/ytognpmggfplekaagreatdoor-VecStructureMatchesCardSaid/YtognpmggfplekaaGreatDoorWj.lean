/-
  Spoil of a row that lies in an array; no conditions.
-/
import Derived.Test.YtognpmggfplekaaGreatDoorWh
namespace Go.Proofs.YtognpmggfplekaaGreatDoor
open Go Go.RowKit

def SpoT (T : TypeId) (W u : World) (b : Nat) (cells : Array Value) (l : Nat) : Prop :=
  Below W.heap.size W u ∧ Own u b T cells ∧ ∀ i, i < l → ∃ A n c x, cells[i * 2]? = some (.slice A n c) ∧ n ≤ 10000 ∧ Nb u W.heap.size A n c x
set_option maxRecDepth 100000 in
theorem SpoT.set {T : TypeId} (hT : T ≠ 48) {W u : World} {b l : Nat} {cells : Array Value} (h : SpoT T W u b cells l) {g k : Nat} {cur : Array Value} (hg : Own u g 48 cur) (hB : W.heap.size ≤ g) {v : Int} (h0 : 0 ≤ v) : SpoT T W (u.setCell ⟨g, k, none⟩ (.int .u8 v)) b cells l := by
  obtain ⟨hb, ho, hc⟩ := h
  have hne : b ≠ g := by
    rintro rfl
    have h1 : u.heap[b]? = _ := ho
    have h2 : u.heap[b]? = _ := hg
    rw [h1] at h2
    simp at h2
    exact hT h2.2
  refine ⟨below_set hb hB _, ho.far hne _, fun i hi => ?_⟩
  obtain ⟨A, n, c, x, e, hn, hv⟩ := hc i hi
  obtain ⟨x', hv'⟩ := hv.set_any g k h0
  exact ⟨A, n, c, x', e, hn, hv'⟩
set_option maxRecDepth 100000 in
set_option maxHeartbeats 1000000 in
theorem spoilT {T : TypeId} (hTT : T ≠ 48) (W w : World) (b l : Nat) (cells : Array Value) (hs : SpoT T W w b cells l) (hl : l ≤ 1000) :
    Calls Tryz.prog 18 #[.slice (some ⟨b, 0, none⟩) l l] w fun e w' => e = .returned (.tuple #[]) ∧ Below W.heap.size W w' := by
  go_enter Tryz.func18, Tryz.ntmps18
  go_wp2
  go_loopw [2] (fun i u => ∃ k : Nat, k ≤ l ∧ i = .int .i64 k ∧ SpoT T W u b cells l) (fun i _ => l - (intOf i).toNat)
  case atStart => exact ⟨0, Nat.zero_le _, rfl, hs⟩
  case round =>
    obtain ⟨wo, rfl⟩ : ∃ wo : World, wo = wr := ⟨_, rfl⟩
    obtain ⟨k, hk, rfl, hS⟩ := hrel
    by_cases g1 : k < l
    · obtain ⟨A, n, c, _, he, hn, _⟩ := hS.2.2 k g1
      have d1 : decide ((k : Int) < l) = true := by simpa using g1
      have l0 : (0 : Int) ≤ k := by omega
      have l1 : (k : Int) < l := by omega
      go_wp2
      go_loopw [3] (fun i u => ∃ j : Nat, j ≤ n ∧ i = .int .i64 j ∧ SpoT T W u b cells l) (fun i _ => n - (intOf i).toNat)
      case atStart => exact ⟨0, Nat.zero_le _, rfl, hS⟩
      case round =>
        obtain ⟨j, hj, rfl, hT⟩ := hrel
        have ch : wr.cell? ⟨b, k * 2, none⟩ = some (.slice A n c) := (hT.2.1.cell (k * 2)).trans he
        have ch' : wr.cell? ⟨b, 0 + k * 2, none⟩ = some (.slice A n c) := by rw [Nat.zero_add]; exact ch
        by_cases g2 : j < n
        · obtain ⟨A', n', c', x, he', _, hv⟩ := hT.2.2 k g1
          rw [he] at he'
          simp only [Option.some.injEq, Value.slice.injEq] at he'
          obtain ⟨rfl, rfl, rfl⟩ := he'
          obtain ⟨g, cur, rfl, hB, hcur, _, hsz⟩ := hv.own (by omega)
          have cc : wr.cell? ⟨g, j, none⟩ = some (.int .u8 (nth x j)) := by
            obtain ⟨b2, o2, e2, _, h2⟩ := hv.rd.2.2 (by omega)
            simp only [Option.some.injEq, Addr.mk.injEq, and_true] at e2
            obtain ⟨rfl, rfl⟩ := e2
            have := h2 j g2
            rwa [Nat.zero_add] at this
          have fc := hcur.free j
          have hfin := Lib.hid (SpoT.set hTT hT hcur hB (k := j) (v := 99) (by decide))
          have d2 : decide ((j : Int) < n) = true := by simpa using g2
          have l2 : (0 : Int) ≤ j := by omega
          have l3 : (j : Int) < n := by omega
          generalize nth x j = bx at *
          clear hv hcur he hS hT hs hsz
          go_wp2
          go_roundw
          case rel => exact ⟨j + 1, by omega, by go_num, hfin.out⟩
          case measure => simp [intOf]; omega
        · obtain rfl : j = n := by omega
          clear he hS
          go_wp2
          go_roundw
          case rel => exact ⟨k + 1, by omega, by go_num, hT⟩
          case measure => simp [intOf]; omega
    · obtain rfl : k = l := by omega
      go_wp2
      go_end0
      exact ⟨rfl, hS.1⟩
end Go.Proofs.YtognpmggfplekaaGreatDoor
