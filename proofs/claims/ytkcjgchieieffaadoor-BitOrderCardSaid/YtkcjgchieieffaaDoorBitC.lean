/-
  The statements of layer 1 (package bit) over the seat's translation: the walks: each returns true. Conditions: bits are not negative, the tables read as the program lays them.
-/
import Derived.Test.YtkcjgchieieffaaDoorBitB
namespace Go.Proofs.YtkcjgchieieffaaDoor
open Go Go.RowKit

/-! ### The plain facts: every function sees a bit by its state. -/
theorem stI_idem (a : Int) : stI (stI a) = stI a := by unfold stI; split <;> simp_all
theorem st_and (a b : Int) : andI a b = andI (stI a) (stI b) := by simp [andI, stI_idem]
theorem st_or (a b : Int) : orI a b = orI (stI a) (stI b) := by simp [orI, stI_idem]
theorem st_xor (a b : Int) : xorI a b = xorI (stI a) (stI b) := by simp [xorI, stI_idem]
theorem st_com (a b : Int) : comI a b = comI (stI a) (stI b) := by simp [comI, stI_idem]
theorem st_not (a : Int) : notI a = notI (stI a) := by simp [notI, stI_idem]
theorem st_buf (a : Int) : bufI a = bufI (stI a) := by simp [bufI, stI_idem]
theorem st_chr (a : Int) : chrI a = chrI (stI a) := by simp [chrI, stI_idem]
theorem st_eq (a b : Int) : eqI a b = eqI (stI a) (stI b) := by unfold eqI; rw [st_xor]
theorem st_same (a b : Int) : sameB a b = sameB (stI a) (stI b) := by simp [sameB, stI_idem]
theorem st_known (a : Int) : knownB a = knownB (stI a) := by
  unfold stI; split
  · rename_i h
    have h0 : (a == 0) = false := by simp; omega
    have h1 : (a == 1) = false := by simp; omega
    simp [knownB, h0, h1]
  · rfl
theorem st_leq (a b : Int) : leqB a b = leqB (stI a) (stI b) := by unfold leqB; rw [st_same, st_known a, st_known b]
theorem st_mux (x a b : Int) : muxI x a b = muxI (stI x) (stI a) (stI b) := by
  unfold muxI
  rw [st_com, st_buf a, st_buf b]
  by_cases h : x > 3
  · rw [show stI x = 2 from if_pos h, if_neg (by omega), if_neg (by omega)]; rfl
  · rw [show stI x = x from if_neg h]

def L4 : List Int := [0, 1, 2, 3]
theorem stI_mem (a : Int) [NN a] : stI a ∈ L4 := by rcases stI_cases a with h | h | h | h <;> rw [h] <;> decide


set_option maxHeartbeats 4000000 in
theorem walk_BitMatches (a : Int) (b : Int) (c : Int) (w : World) [NN a] [NN b] [NN c] [TAnd w] [TOr w] [TXor w] [TBuf w] [TCom w] [TNot w] [TChr w] : Calls Tryd.prog 3 #[.int .u8 a, .int .u8 b, .int .u8 c] w fun e w' => e = .returned (.bool true) ∧ ∃ m, w' = w.drewN m := by
  go_enter Tryd.func3, Tryd.ntmps3
  go_wp2_with (first
      | (go_at_call 11; refine (valid_any _ _).mono ?_; rintro e w' ⟨rfl, m, rfl⟩)
      | (go_at_call 12; refine (known_any _ _).mono ?_; rintro e w' ⟨rfl, m, rfl⟩)
      | (go_at_call 14; refine (not_any _ _).mono ?_; rintro e w' ⟨rfl, m, rfl⟩)
      | (go_at_call 16; refine (buf_any _ _).mono ?_; rintro e w' ⟨rfl, m, rfl⟩)
      | (go_at_call 18; refine (chr_any _ _).mono ?_; rintro e w' ⟨rfl, m, rfl⟩)
      | (go_at_call 20; refine (and_any _ _ _).mono ?_; rintro e w' ⟨rfl, m, rfl⟩)
      | (go_at_call 22; refine (or_any _ _ _).mono ?_; rintro e w' ⟨rfl, m, rfl⟩)
      | (go_at_call 24; refine (xor_any _ _ _).mono ?_; rintro e w' ⟨rfl, m, rfl⟩)
      | (go_at_call 26; refine (eq_any _ _ _).mono ?_; rintro e w' ⟨rfl, m, rfl⟩)
      | (go_at_call 28; refine (same_any _ _ _).mono ?_; rintro e w' ⟨rfl, m, rfl⟩)
      | (go_at_call 30; refine (leq_any _ _ _).mono ?_; rintro e w' ⟨rfl, m, rfl⟩)
      | (go_at_call 32; refine (mux_any _ _ _ _).mono ?_; rintro e w' ⟨rfl, m, rfl⟩)
      | (go_at_call 13; refine (rknown_any _ _).mono ?_; rintro e w' ⟨rfl, m, rfl⟩)
      | (go_at_call 15; refine (rnot_any _ _).mono ?_; rintro e w' ⟨rfl, m, rfl⟩)
      | (go_at_call 17; refine (rbuf_any _ _).mono ?_; rintro e w' ⟨rfl, m, rfl⟩)
      | (go_at_call 19; refine (rchr_any _ _).mono ?_; rintro e w' ⟨rfl, m, rfl⟩)
      | (go_at_call 21; refine (rand_any _ _ _).mono ?_; rintro e w' ⟨rfl, m, rfl⟩)
      | (go_at_call 23; refine (ror_any _ _ _).mono ?_; rintro e w' ⟨rfl, m, rfl⟩)
      | (go_at_call 25; refine (rxor_any _ _ _).mono ?_; rintro e w' ⟨rfl, m, rfl⟩)
      | (go_at_call 27; refine (req_any _ _ _).mono ?_; rintro e w' ⟨rfl, m, rfl⟩)
      | (go_at_call 29; refine (rsame_any _ _ _).mono ?_; rintro e w' ⟨rfl, m, rfl⟩)
      | (go_at_call 31; refine (rleq_any _ _ _).mono ?_; rintro e w' ⟨rfl, m, rfl⟩)
      | (go_at_call 33; refine (rmux_any _ _ _ _).mono ?_; rintro e w' ⟨rfl, m, rfl⟩)
      | (go_at_call 34; refine (awake_any _).mono ?_; rintro e w' ⟨rfl, m, rfl⟩))
  go_ret
  exact ⟨rfl, _, rfl⟩

set_option maxHeartbeats 4000000 in
theorem walk_BitParseMatches (c : Int) (v : Bool) (w : World)  [TAnd w] [TOr w] [TXor w] [TBuf w] [TCom w] : Calls Tryd.prog 4 #[.int .u8 c, .bool v] w fun e w' => e = .returned (.bool true) ∧ ∃ m, w' = w.drewN m := by
  go_enter Tryd.func4, Tryd.ntmps4
  go_wp2_with (first
      | (go_at_call 35; refine (parse_any _ _).mono ?_; rintro e w' ⟨rfl, m, rfl⟩)
      | (go_at_call 36; refine (rparse_any _ _).mono ?_; rintro e w' ⟨rfl, m, rfl⟩)
      | (go_at_call 37; refine (from_any _ _).mono ?_; rintro e w' ⟨rfl, m, rfl⟩)
      | (go_at_call 38; refine (rfrom_any _ _).mono ?_; rintro e w' ⟨rfl, m, rfl⟩)
      | (go_at_call 34; refine (awake_any _).mono ?_; rintro e w' ⟨rfl, m, rfl⟩))
  go_ret
  exact ⟨rfl, _, rfl⟩

theorem mono1 : ∀ a ∈ L4, ∀ d ∈ L4, leqB a d = true → leqB (notI a) (notI d) = true ∧ leqB (bufI a) (bufI d) = true := by decide
theorem mono2 : ∀ a ∈ L4, ∀ d ∈ L4, leqB a d = true → ∀ b ∈ L4, ∀ e ∈ L4, leqB b e = true → leqB (andI a b) (andI d e) = true ∧ leqB (orI a b) (orI d e) = true ∧ leqB (xorI a b) (xorI d e) = true ∧ leqB (eqI a b) (eqI d e) = true := by decide +kernel
theorem mono3 : ∀ a ∈ L4, ∀ d ∈ L4, leqB a d = true → ∀ b ∈ L4, ∀ e ∈ L4, leqB b e = true → ∀ c ∈ L4, ∀ f ∈ L4, leqB c f = true → leqB (muxI a b c) (muxI d e f) = true := by decide +kernel

set_option maxHeartbeats 4000000 in
theorem walk_BitMonotone (a : Int) (b : Int) (c : Int) (d : Int) (e : Int) (f : Int) (w : World) [NN a] [NN b] [NN c] [NN d] [NN e] [NN f] [TAnd w] [TOr w] [TXor w] [TBuf w] [TCom w] [TNot w] : Calls Tryd.prog 6 #[.int .u8 a, .int .u8 b, .int .u8 c, .int .u8 d, .int .u8 e, .int .u8 f] w fun e w' => e = .returned (.bool true) ∧ ∃ m, w' = w.drewN m := by
  by_cases h : leqB a d = true ∧ leqB b e = true ∧ leqB c f = true
  · obtain ⟨h1, h2, h3⟩ := h
    have g1 := h1
    have g2 := h2
    have g3 := h3
    rw [st_leq] at g1 g2 g3
    have m1 := mono1 _ (stI_mem a) _ (stI_mem d) g1
    have m2 := mono2 _ (stI_mem a) _ (stI_mem d) g1 _ (stI_mem b) _ (stI_mem e) g2
    have m3 := mono3 _ (stI_mem a) _ (stI_mem d) g1 _ (stI_mem b) _ (stI_mem e) g2 _ (stI_mem c) _ (stI_mem f) g3
    rw [← st_not, ← st_not, ← st_buf, ← st_buf] at m1
    rw [← st_and, ← st_and, ← st_or, ← st_or, ← st_xor, ← st_xor, ← st_eq, ← st_eq] at m2
    rw [← st_mux, ← st_mux] at m3
    obtain ⟨p1, p2⟩ := m1
    obtain ⟨p3, p4, p5, p6⟩ := m2
    clear g1 g2 g3
    go_enter Tryd.func6, Tryd.ntmps6
    go_wp2_with (first
        | (go_at_call 14; refine (not_any _ _).mono ?_; rintro e w' ⟨rfl, m, rfl⟩)
        | (go_at_call 16; refine (buf_any _ _).mono ?_; rintro e w' ⟨rfl, m, rfl⟩)
        | (go_at_call 20; refine (and_any _ _ _).mono ?_; rintro e w' ⟨rfl, m, rfl⟩)
        | (go_at_call 22; refine (or_any _ _ _).mono ?_; rintro e w' ⟨rfl, m, rfl⟩)
        | (go_at_call 24; refine (xor_any _ _ _).mono ?_; rintro e w' ⟨rfl, m, rfl⟩)
        | (go_at_call 26; refine (eq_any _ _ _).mono ?_; rintro e w' ⟨rfl, m, rfl⟩)
        | (go_at_call 30; refine (leq_any _ _ _).mono ?_; rintro e w' ⟨rfl, m, rfl⟩)
        | (go_at_call 32; refine (mux_any _ _ _ _).mono ?_; rintro e w' ⟨rfl, m, rfl⟩)
        | (go_at_call 34; refine (awake_any _).mono ?_; rintro e w' ⟨rfl, m, rfl⟩))
    go_ret
    exact ⟨rfl, _, rfl⟩
  · have h' : leqB a d = false ∨ leqB a d = true ∧ leqB b e = false ∨ leqB a d = true ∧ leqB b e = true ∧ leqB c f = false := by
      cases h1 : leqB a d <;> cases h2 : leqB b e <;> cases h3 : leqB c f <;> simp_all
    clear h
    rcases h' with h1 | ⟨h1, h2⟩ | ⟨h1, h2, h3⟩
    all_goals
      go_enter Tryd.func6, Tryd.ntmps6
      go_wp2_with (first
          | (go_at_call 30; refine (leq_any _ _ _).mono ?_; rintro e w' ⟨rfl, m, rfl⟩)
          | (go_at_call 34; refine (awake_any _).mono ?_; rintro e w' ⟨rfl, m, rfl⟩))
      go_ret
      exact ⟨rfl, _, rfl⟩

set_option maxHeartbeats 4000000 in
theorem walk_BitBoolean (a : Bool) (b : Bool) (c : Bool) (w : World) [TAnd w] [TOr w] [TXor w] [TBuf w] [TCom w] [TNot w] : Calls Tryd.prog 7 #[.bool a, .bool b, .bool c] w fun e w' => e = .returned (.bool true) ∧ ∃ m, w' = w.drewN m := by
  have f0 : fromI false = 0 := rfl
  have f1 : fromI true = 1 := rfl
  have k0 : knownB 0 = true := by decide
  have k1 : knownB 1 = true := by decide
  have k2 : notI 0 = 1 := by decide
  have k3 : notI 1 = 0 := by decide
  have k4 : bufI 0 = 0 := by decide
  have k5 : bufI 1 = 1 := by decide
  have k6 : andI 0 0 = 0 := by decide
  have k7 : andI 0 1 = 0 := by decide
  have k8 : andI 1 0 = 0 := by decide
  have k9 : andI 1 1 = 1 := by decide
  have k10 : orI 0 0 = 0 := by decide
  have k11 : orI 0 1 = 1 := by decide
  have k12 : orI 1 0 = 1 := by decide
  have k13 : orI 1 1 = 1 := by decide
  have k14 : xorI 0 0 = 0 := by decide
  have k15 : xorI 0 1 = 1 := by decide
  have k16 : xorI 1 0 = 1 := by decide
  have k17 : xorI 1 1 = 0 := by decide
  have k18 : eqI 0 0 = 1 := by decide
  have k19 : eqI 0 1 = 0 := by decide
  have k20 : eqI 1 0 = 0 := by decide
  have k21 : eqI 1 1 = 1 := by decide
  have k22 : muxI 0 0 0 = 0 := by decide
  have k23 : muxI 0 0 1 = 1 := by decide
  have k24 : muxI 0 1 0 = 0 := by decide
  have k25 : muxI 0 1 1 = 1 := by decide
  have k26 : muxI 1 0 0 = 0 := by decide
  have k27 : muxI 1 0 1 = 0 := by decide
  have k28 : muxI 1 1 0 = 1 := by decide
  have k29 : muxI 1 1 1 = 1 := by decide
  cases a <;> cases b <;> cases c
  all_goals
    go_enter Tryd.func7, Tryd.ntmps7
    go_wp2_with (first
        | (go_at_call 37; refine (from_any _ _).mono ?_; rintro e w' ⟨rfl, m, rfl⟩)
        | (go_at_call 12; refine (known_any _ _).mono ?_; rintro e w' ⟨rfl, m, rfl⟩)
        | (go_at_call 14; refine (not_any _ _).mono ?_; rintro e w' ⟨rfl, m, rfl⟩)
        | (go_at_call 16; refine (buf_any _ _).mono ?_; rintro e w' ⟨rfl, m, rfl⟩)
        | (go_at_call 20; refine (and_any _ _ _).mono ?_; rintro e w' ⟨rfl, m, rfl⟩)
        | (go_at_call 22; refine (or_any _ _ _).mono ?_; rintro e w' ⟨rfl, m, rfl⟩)
        | (go_at_call 24; refine (xor_any _ _ _).mono ?_; rintro e w' ⟨rfl, m, rfl⟩)
        | (go_at_call 26; refine (eq_any _ _ _).mono ?_; rintro e w' ⟨rfl, m, rfl⟩)
        | (go_at_call 32; refine (mux_any _ _ _ _).mono ?_; rintro e w' ⟨rfl, m, rfl⟩)
        | (go_at_call 34; refine (awake_any _).mono ?_; rintro e w' ⟨rfl, m, rfl⟩))
    go_ret
    exact ⟨rfl, _, rfl⟩

theorem algebra : ∀ a ∈ L4, ∀ b ∈ L4, ∀ c ∈ L4, andI b a = andI a b ∧ orI b a = orI a b ∧ xorI b a = xorI a b ∧ andI a a = bufI a ∧ orI a a = bufI a ∧ andI a (andI b c) = andI (andI a b) c ∧ orI a (orI b c) = orI (orI a b) c ∧ xorI a (xorI b c) = xorI (xorI a b) c ∧ orI (andI a b) (andI a c) = andI a (orI b c) ∧ andI (orI a b) (orI a c) = orI a (andI b c) ∧ orI (notI a) (notI b) = notI (andI a b) ∧ andI (notI a) (notI b) = notI (orI a b) := by decide +kernel
theorem and_l (a b : Int) : andI a b = andI (stI a) b := by simp [andI, stI_idem]
theorem and_r (b a : Int) : andI a b = andI a (stI b) := by simp [andI, stI_idem]
theorem or_l (a b : Int) : orI a b = orI (stI a) b := by simp [orI, stI_idem]
theorem or_r (b a : Int) : orI a b = orI a (stI b) := by simp [orI, stI_idem]
theorem xor_l (a b : Int) : xorI a b = xorI (stI a) b := by simp [xorI, stI_idem]
theorem xor_r (b a : Int) : xorI a b = xorI a (stI b) := by simp [xorI, stI_idem]
theorem algebra_any (a b c : Int) [NN a] [NN b] [NN c] : andI b a = andI a b ∧ orI b a = orI a b ∧ xorI b a = xorI a b ∧ andI a a = bufI a ∧ orI a a = bufI a ∧ andI a (andI b c) = andI (andI a b) c ∧ orI a (orI b c) = orI (orI a b) c ∧ xorI a (xorI b c) = xorI (xorI a b) c ∧ orI (andI a b) (andI a c) = andI a (orI b c) ∧ andI (orI a b) (orI a c) = orI a (andI b c) ∧ orI (notI a) (notI b) = notI (andI a b) ∧ andI (notI a) (notI b) = notI (orI a b) := by
  have h := algebra _ (stI_mem a) _ (stI_mem b) _ (stI_mem c)
  simp only [and_l a, or_l a, xor_l a, and_l b, or_l b, xor_l b, and_r a, or_r a, xor_r a, and_r b, or_r b, xor_r b, and_r c, or_r c, xor_r c, st_not a, st_not b, st_buf a]
  exact h

set_option maxHeartbeats 4000000 in
theorem walk_BitAlgebra (a : Int) (b : Int) (c : Int) (w : World) [NN a] [NN b] [NN c] [TAnd w] [TOr w] [TXor w] [TBuf w] [TCom w] [TNot w] : Calls Tryd.prog 8 #[.int .u8 a, .int .u8 b, .int .u8 c] w fun e w' => e = .returned (.bool true) ∧ ∃ m, w' = w.drewN m := by
  obtain ⟨h1, h2, h3, h4, h5, h6, h7, h8, h9, h10, h11, h12⟩ := algebra_any a b c
  go_enter Tryd.func8, Tryd.ntmps8
  go_wp2_with (first
      | (go_at_call 14; refine (not_any _ _).mono ?_; rintro e w' ⟨rfl, m, rfl⟩)
      | (go_at_call 16; refine (buf_any _ _).mono ?_; rintro e w' ⟨rfl, m, rfl⟩)
      | (go_at_call 20; refine (and_any _ _ _).mono ?_; rintro e w' ⟨rfl, m, rfl⟩)
      | (go_at_call 22; refine (or_any _ _ _).mono ?_; rintro e w' ⟨rfl, m, rfl⟩)
      | (go_at_call 24; refine (xor_any _ _ _).mono ?_; rintro e w' ⟨rfl, m, rfl⟩)
      | (go_at_call 34; refine (awake_any _).mono ?_; rintro e w' ⟨rfl, m, rfl⟩))
  go_ret
  exact ⟨rfl, _, rfl⟩

theorem order : ∀ a ∈ L4, ∀ b ∈ L4, ∀ c ∈ L4, leqB a a = true ∧ (leqB a b = true → leqB b c = true → leqB a c = true) ∧ (leqB a b = true → leqB b a = sameB a b) ∧ (knownB a = true → leqB a b = sameB a b) := by decide +kernel
theorem order_any (a b c : Int) [NN a] [NN b] [NN c] : leqB a a = true ∧ (leqB a b = true → leqB b c = true → leqB a c = true) ∧ (leqB a b = true → leqB b a = sameB a b) ∧ (knownB a = true → leqB a b = sameB a b) := by
  have h := order _ (stI_mem a) _ (stI_mem b) _ (stI_mem c)
  rw [← st_leq, ← st_leq, ← st_leq, ← st_leq, ← st_leq, ← st_same, ← st_known] at h
  exact h

set_option maxHeartbeats 4000000 in
theorem walk_BitOrder (a : Int) (b : Int) (c : Int) (w : World) [NN a] [NN b] [NN c] [TAnd w] [TOr w] [TXor w] [TBuf w] [TCom w] : Calls Tryd.prog 9 #[.int .u8 a, .int .u8 b, .int .u8 c] w fun e w' => e = .returned (.bool true) ∧ ∃ m, w' = w.drewN m := by
  obtain ⟨h1, h2, h3, h4⟩ := order_any a b c
  cases hab : leqB a b <;> cases hbc : leqB b c <;> cases hac : leqB a c <;> cases hk : knownB a <;> cases hs : sameB a b <;> cases hba : leqB b a
  all_goals first
    | (exfalso; simp_all; done)
    | skip
  all_goals clear h2 h3 h4
  all_goals
    go_enter Tryd.func9, Tryd.ntmps9
    go_wp2_with (first
        | (go_at_call 30; refine (leq_any _ _ _).mono ?_; rintro e w' ⟨rfl, m, rfl⟩)
        | (go_at_call 28; refine (same_any _ _ _).mono ?_; rintro e w' ⟨rfl, m, rfl⟩)
        | (go_at_call 12; refine (known_any _ _).mono ?_; rintro e w' ⟨rfl, m, rfl⟩)
        | (go_at_call 34; refine (awake_any _).mono ?_; rintro e w' ⟨rfl, m, rfl⟩))
    go_ret
    exact ⟨rfl, _, rfl⟩

theorem chars : ∀ a ∈ L4, parB (chrI a) = true ∧ sameB a (parI (chrI a)) = true ∧ validB (parI (chrI a)) = true := by decide
theorem chars_any (a : Int) [NN a] : parB (chrI a) = true ∧ sameB a (parI (chrI a)) = true ∧ validB (parI (chrI a)) = true := by
  have h := chars _ (stI_mem a)
  rw [← st_chr, st_same, stI_idem, ← st_same] at h
  exact h
theorem par_some (c : Int) : validB (parI c) = true := by unfold validB parI; (repeat' split) <;> decide
theorem par_none (c : Int) (h : parB c = false) : parI c = 0 := by
  unfold parB at h
  unfold parI
  simp only [decide_eq_false_iff_not, not_or] at h
  obtain ⟨h1, h2, h3, h4, h5, h6, h7⟩ := h
  rw [if_neg h1, if_neg h2, if_neg (by omega), if_neg (by omega)]

set_option maxHeartbeats 4000000 in
theorem walk_BitChars (a : Int) (c : Int) (w : World) [NN a] [NN c] [TAnd w] [TOr w] [TXor w] [TBuf w] [TCom w] [TChr w] : Calls Tryd.prog 10 #[.int .u8 a, .int .u8 c] w fun e w' => e = .returned (.bool true) ∧ ∃ m, w' = w.drewN m := by
  obtain ⟨h1, h2, h3⟩ := chars_any a
  have hv := par_some c
  have hn := par_none c
  cases hc : parB c
  all_goals
    first | have hn' := hn hc | skip
    clear hn
    go_enter Tryd.func10, Tryd.ntmps10
    go_wp2_with (first
        | (go_at_call 18; refine (chr_any _ _).mono ?_; rintro e w' ⟨rfl, m, rfl⟩)
        | (go_at_call 35; refine (parse_any _ _).mono ?_; rintro e w' ⟨rfl, m, rfl⟩)
        | (go_at_call 28; refine (same_any _ _ _).mono ?_; rintro e w' ⟨rfl, m, rfl⟩)
        | (go_at_call 11; refine (valid_any _ _).mono ?_; rintro e w' ⟨rfl, m, rfl⟩)
        | (go_at_call 34; refine (awake_any _).mono ?_; rintro e w' ⟨rfl, m, rfl⟩))
    go_ret
    exact ⟨rfl, _, rfl⟩

end Go.Proofs.YtkcjgchieieffaaDoor
