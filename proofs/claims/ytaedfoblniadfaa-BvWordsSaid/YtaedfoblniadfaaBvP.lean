/-
  Contracts of the statements' own functions: own, Long, equal; and words for their walks.
-/
import Derived.Test.YtaedfoblniadfaaBvO
import Derived.Test.YtaedfoblniadfaaBvS
namespace Go.Proofs.Ytaedfoblniadfaa
open Go Go.RowKit

theorem below_of_eq {w w' : World} (h : w = w') : Below w.heap.size w w' := h ▸ Below.refl _ _
theorem Rd.at_later {w u : World} {A : Option Addr} {n x : Nat} (hb : Below w.heap.size w u) (h : Rd w A n x) : Rd u A n x := h.step hb
theorem Nw.at_later {w u : World} {A : Option Addr} {n c x B : Nat} (hb : Below w.heap.size w u) (h : Nw w B A n c x) : Nw u B A n c x := h.step hb
theorem below_last {w b c : World} (k : Below b.heap.size b c) (h : Below w.heap.size w b) : Below w.heap.size w c := below_step h k
theorem own_any (A : Option Addr) (n c x : Nat) (w : World) (h : Rd w A n x) (hn : n ≤ 100000) :
    Calls Try.prog 15 #[.slice A n c] w (RetN w n x) := by
  go_enter Try.func15, Try.ntmps15
  go_wp2_with (at_builtin; refine wpList_cat rfl (.tmp 3) (.tmp 4) rfl rfl (below_new (Below.refl _ _) _) rfl (Nw.empty (Own.new w _ #[]) (Nat.le_refl _)) rfl (h.alloc _) (by omega) ?_; intro A1 c1 w1 hv1 hb1; simp only [Nat.zero_add, Nat.pow_zero, Nat.one_mul] at hv1)
  go_ret
  exact ⟨_, _, by simp, hv1, hb1⟩
/-- Same of two equal vectors. -/
theorem same_t (A B : Option Addr) (n c x m d y : Nat) (w : World) (h : Rd w A n x) (h' : Rd w B m y) (hn : n ≤ 10000) (hnm : n = m) (hxy : x = y) :
    Calls Try.prog 20 #[.slice A n c, .slice B m d] w fun e w' => e = .returned (.bool true) ∧ Below w.heap.size w w' := by
  refine (same_any A B n c x m d y w h h' hn (by omega)).mono fun e w' ⟨he, k, hk⟩ => ⟨?_, ?_⟩
  · rw [he, decide_eq_true (And.intro hnm hxy)]
  · rw [hk]; exact below_drewN (Below.refl _ _) k
/-- A list of vectors that lies in memory, none wider than 140. -/
def Lens (w : World) (b o l : Nat) (f : Nat → Nat) : Prop := ∀ i, i < l → ∃ A c, w.cell? ⟨b, o + i, none⟩ = some (.slice A (f i) c)
theorem long_false (b o l cap : Nat) (f : Nat → Nat) (w : World) (h : Lens w b o l f) (hl : l ≤ 1000) (hf : ∀ i, i < l → f i ≤ 140) :
    Calls Try.prog 13 #[.slice (some ⟨b, o, none⟩) l cap] w fun e w' => e = .returned (.bool false) ∧ w = w' := by
  go_enter Try.func13, Try.ntmps13
  go_wp2
  go_loop [3] (fun i => ∃ k : Nat, k ≤ l ∧ i = .int .i64 k) (fun i => l - (intOf i).toNat)
  case atStart => exact ⟨0, Nat.zero_le _, rfl⟩
  case round =>
    obtain ⟨k, hk, rfl⟩ := hrel
    by_cases g1 : k < l
    · obtain ⟨A, c, hc⟩ := h k g1
      have hb := hf k g1
      have d1 : decide ((k : Int) < l) = true := by simpa using g1
      have d2 : decide ((140 : Int) < f k) = false := by simp; omega
      generalize f k = n at *
      clear hf h
      go_wp2
      go_round
      case rel => exact ⟨k + 1, by omega, by go_num⟩
      case measure => simp [intOf]; omega
    · obtain rfl : k = l := by omega
      go_wp2
      go_ret
      exact ⟨rfl, rfl⟩
theorem long_true (b o l cap j : Nat) (f : Nat → Nat) (w : World) (h : Lens w b o l f) (hl : l ≤ 1000) (hj : j < l) (hf : 140 < f j) :
    Calls Try.prog 13 #[.slice (some ⟨b, o, none⟩) l cap] w fun e w' => e = .returned (.bool true) ∧ w = w' := by
  go_enter Try.func13, Try.ntmps13
  go_wp2
  go_loop [3] (fun i => ∃ k : Nat, k ≤ j ∧ i = .int .i64 k) (fun i => l - (intOf i).toNat)
  case atStart => exact ⟨0, Nat.zero_le _, rfl⟩
  case round =>
    obtain ⟨k, hk, rfl⟩ := hrel
    obtain ⟨A, c, hc⟩ := h k (by omega)
    have d1 : decide ((k : Int) < l) = true := by simp; omega
    have l1 : (k : Int) < l := by omega
    by_cases g1 : 140 < f k
    · have d2 : decide ((140 : Int) < f k) = true := by simp; omega
      generalize f k = n at *
      clear h
      go_wp2
      go_ret
      exact ⟨rfl, rfl⟩
    · have hkj : k ≠ j := by rintro rfl; exact g1 hf
      have d2 : decide ((140 : Int) < f k) = false := by simp; omega
      generalize f k = n at *
      clear h hf
      go_wp2
      go_round
      case rel => exact ⟨k + 1, by omega, by go_num⟩
      case measure => simp [intOf]; omega
theorem equal_any (A B C : Option Addr) (n c x m d y l e z : Nat) (w : World) (_h : Rd w A n x) (h' : Rd w B m y) (h'' : Rd w C l z) (hn : n ≤ 100000) (hm : m ≤ 100000) (hl : l ≤ 100000) :
    Calls Try.prog 49 #[.slice A n c, .slice B m d, .slice C l e] w fun en w' => ∃ A1 c1 A2 c2, en = .returned (.tuple #[.slice A n c, .slice A1 n c1, .slice A2 n c2]) ∧ Nw w' w.heap.size A1 n c1 (y % 2 ^ n) ∧ Nw w' w.heap.size A2 n c2 (z % 2 ^ n) ∧ Below w.heap.size w w' := by
  go_enter Try.func49, Try.ntmps49
  go_wp2_with (go_at_call 50; (first | ((with_reducible refine (rFit_any _ _ _ _ _ _ h' (by omega) (by omega)).mono ?_); rintro e w1 ⟨A1, c1, rfl, hv1, hb1⟩) | ((with_reducible refine (rFit_any _ _ _ _ _ _ (h''.step hb1) (by omega) (by omega)).mono ?_); rintro e w2 ⟨A2, c2, rfl, hv2, hb2⟩)))
  go_ret3
  exact ⟨_, _, _, _, rfl, hv1.step hb2, hv2.mono hb1.size, below_step hb1 hb2⟩
end Go.Proofs.Ytaedfoblniadfaa
