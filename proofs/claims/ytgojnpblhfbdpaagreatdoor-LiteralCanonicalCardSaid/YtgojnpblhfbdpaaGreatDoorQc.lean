/-
  Contracts of the program's basics: the library's IndexFunc, ContainsFunc and Clone at bits, Check, single, operand, build. No conditions.
  Contracts of the program's basics: Check, single, operand. No conditions.
  Contracts of the program's build, at, filler. Widths up to a million.
  Contracts of the program's fit and its closure. Widths up to a million.
-/
import Derived.Test.YtgojnpblhfbdpaaGreatDoorQb
import Derived.RegionTactic
import Derived.Deep.RegionHeld3
import Derived.Deep.DrawnRows
import Derived.Deep.RegionLaw
import Derived.Outline

namespace Go.Proofs.YtgojnpblhfbdpaaGreatDoor
open Go Go.RowKit

/-- The function value tests a bit. -/
def Pd (w : World) (g : Nat) (lb : Array Value) (p : Int → Bool) : Prop := ∀ W a, Below w.heap.size w W →
  Calls Tryz.prog g (#[.int .u8 a] ++ lb) W fun e w' => e = .returned (.bool (p a)) ∧ Below W.heap.size W w'
/-- The first index at which p holds among the first n; -1 where there is none. -/
def idx (p : Int → Bool) (l : List Int) : Int := match l.findIdx? p with | some i => i | none => -1
theorem idx_hit {p : Int → Bool} {l : List Int} {k : Nat} (hk : k < l.length) (h : p (nth l k) = true) (hb : ∀ j, j < k → p (nth l j) = false) : idx p l = k := by
  unfold idx
  have e : l.findIdx? p = some k := by
    rw [List.findIdx?_eq_some_iff_getElem]
    have ee : ∀ (j : Nat) (hj : j < l.length), l[j] = nth l j := fun j hj => by simp [nth, List.getD_eq_getElem?_getD, hj]
    exact ⟨hk, by rw [ee k hk]; exact h, fun j hj => by rw [ee j (by omega), hb j hj]; decide⟩
  rw [e]
theorem idx_miss {p : Int → Bool} {l : List Int} (hb : ∀ j, j < l.length → p (nth l j) = false) : idx p l = -1 := by
  unfold idx
  have e : l.findIdx? p = none := by
    rw [List.findIdx?_eq_none_iff]
    intro x hx
    obtain ⟨i, hi, rfl⟩ := List.mem_iff_getElem.1 hx
    have e : nth l i = l[i] := by simp [nth, List.getD_eq_getElem?_getD, hi]
    rw [← e, hb i hi]
  rw [e]
theorem idx_any (p : Int → Bool) (l : List Int) : decide (0 ≤ idx p l) = l.any p := by
  unfold idx
  cases h : l.findIdx? p with
  | none =>
    rw [List.findIdx?_eq_none_iff] at h
    have : l.any p = false := by rw [List.any_eq_false]; intro x hx; simp [h x hx]
    rw [this]; rfl
  | some i =>
    rw [List.findIdx?_eq_some_iff_getElem] at h
    obtain ⟨hi, hp, _⟩ := h
    have : l.any p = true := List.any_eq_true.2 ⟨_, List.getElem_mem hi, hp⟩
    rw [this]; simp

set_option maxHeartbeats 1000000 in
theorem indexFunc_any (A : Option Addr) (n c : Nat) (l : List Int) (g : Nat) (lb : Array Value) (p : Int → Bool) (w : World) (h : Rb w A n l) (hn : n ≤ 1000000) (eg : Ent g) (hp : Pd w g lb p) :
    Calls Tryz.prog 108 #[.slice A n c, .func (.func g) #[] lb] w fun e w' => e = .returned (.int .i64 (idx p l)) ∧ Below w.heap.size w w' := by
  unfold Ent at eg
  go_enter Tryz.func108, Tryz.ntmps108
  go_wp2
  go_loopw [8] (fun i wr => ∃ k : Nat, k ≤ n ∧ i = .int .i64 k ∧ Hid (Below w.heap.size w wr) ∧ Hid (∀ j, j < k → p (nth l j) = false)) (fun i _ => n - (intOf i).toNat)
  case atStart => exact ⟨0, Nat.zero_le _, rfl, Lib.hid (Below.refl _ w), Lib.hid fun j hj => absurd hj (Nat.not_lt_zero _)⟩
  case round =>
    obtain ⟨k, hk, rfl, BW, H⟩ := hrel
    by_cases hlt : k < n
    · obtain ⟨b, o, rfl, hb, hc0⟩ := h.at_ hlt
      have hc := (BW.out.cell (p := ⟨b, o + k, none⟩) hb).trans hc0
      have hcall := hp wr (nth l k) BW.out
      have hlen := Lib.hid h.len
      clear hc0 hp h
      generalize hy : nth l k = y at hc hcall
      replace hy := Lib.hid hy
      cases hq : p y with
      | true =>
        rw [hq] at hcall
        go_wp2_with (go_at_fn g; refine hcall.mono ?_; rintro e w' ⟨rfl, hb'⟩)
        go_ret
        exact ⟨ret_i (by rw [idx_hit (by rw [hlen.out]; exact hlt) (by rw [hy.out]; exact hq) H.out]), below_step BW.out hb'⟩
      | false =>
        rw [hq] at hcall
        go_wp2_with (go_at_fn g; refine hcall.mono ?_; rintro e w' ⟨rfl, hb'⟩)
        go_roundw
        case rel =>
          refine ⟨k + 1, by omega, by go_num, Lib.hid (below_step BW.out hb'), Lib.hid fun j hj => ?_⟩
          by_cases e : j = k
          · subst e; rw [hy.out]; exact hq
          · exact H.out j (by omega)
        case measure => simp [intOf]; omega
    · obtain rfl : k = n := by omega
      have hlen := Lib.hid h.len
      clear h
      go_wp2
      go_ret
      exact ⟨ret_i (by rw [idx_miss (by rw [hlen.out]; exact H.out)]), BW.out⟩
theorem containsFunc_any (A : Option Addr) (n c : Nat) (l : List Int) (g : Nat) (lb : Array Value) (p : Int → Bool) (w : World) (h : Rb w A n l) (hn : n ≤ 1000000) (eg : Ent g) (hp : Pd w g lb p) :
    Calls Tryz.prog 64 #[.slice A n c, .func (.func g) #[] lb] w fun e w' => e = .returned (.bool (l.any p)) ∧ Below w.heap.size w w' := by
  rw [← idx_any]
  have HC := Lib.hid (fun (c : Nat) => indexFunc_any A n c l g lb p w h hn eg hp)
  clear h hp
  go_enter Tryz.func64, Tryz.ntmps64
  go_wp2_with (go_at_call 108; refine (HC.out _).mono ?_; rintro e w' ⟨rfl, hb'⟩)
  go_ret
  exact ⟨rfl, hb'⟩
end Go.Proofs.YtgojnpblhfbdpaaGreatDoor

namespace Go.Proofs.YtgojnpblhfbdpaaGreatDoor
open Go Go.RowKit

theorem ent_bad : Ent 62 := enters_of Tryz.func62 (by kernel_rfl) rfl
theorem pd_bad (w : World) : Pd w 62 #[] badB := by
  intro W a hb
  show Calls _ _ #[.int .u8 a] W _
  unfold badB
  go_enter Tryz.func62, Tryz.ntmps62
  go_wp2_with (go_at_call 63; refine (valid_any _ _).mono ?_; rintro e w' ⟨rfl, m, rfl⟩)
  go_ret
  exact ⟨rfl, below_drewN (Below.refl _ _) m⟩
theorem chk_zero {l : List Int} (h : l.length = 0) : chk l = 4 := by unfold chk; rw [if_pos h]
theorem chk_long {l : List Int} (h : 128 < l.length) : chk l = 5 := by unfold chk; rw [if_neg (by omega), if_pos h]
theorem chk_rest {l : List Int} (h0 : l.length ≠ 0) (h : l.length ≤ 128) : chk l = if l.any badB then 1 else 0 := by unfold chk; rw [if_neg h0, if_neg (by omega)]
set_option maxHeartbeats 1000000 in
theorem check_any (A : Option Addr) (n c : Nat) (s : Bool) (l : List Int) (w : World) (h : Rb w A n l) :
    Calls Tryz.prog 30 #[.agg #[.slice A n c, .bool s]] w fun e w' => e = .returned (.int .i64 (chk l)) ∧ Below w.heap.size w w' := by
  have hl := h.len
  by_cases h0 : n = 0
  · subst h0
    rw [chk_zero hl]
    clear h hl
    go_enter Tryz.func30, Tryz.ntmps30
    go_wp2
    go_ret
    exact ⟨rfl, below_new (Below.refl _ _) _⟩
  · have e0 : ((n : Int) == 0) = false := by simpa using h0
    by_cases h1 : 128 < n
    · rw [chk_long (by omega)]
      clear h hl
      have e1 : decide ((128 : Int) < n) = true := by simp; omega
      go_enter Tryz.func30, Tryz.ntmps30
      go_wp2
      go_ret
      exact ⟨rfl, below_new (Below.refl _ _) _⟩
    · have e1 : decide ((128 : Int) < n) = false := by simp; omega
      rw [chk_rest (by omega) (by omega)]
      have HC := Lib.hid (fun (c : Nat) => containsFunc_any A n c l _ _ badB (w.alloc (.cells #[.slice A n c, .bool s] 26)) (h.alloc _) (by omega) ent_bad (pd_bad _))
      clear h hl h0 h1
      cases hb : l.any badB
      all_goals
        rw [hb] at HC
        go_enter Tryz.func30, Tryz.ntmps30
        go_wp2_with (go_at_call 64; refine (HC.out _).mono ?_; rintro e w' ⟨rfl, hb'⟩)
        go_ret
        exact ⟨rfl, below_step (below_new (Below.refl _ _) _) hb'⟩

/-- What a call leaves that returns a vector, of its own or an argument's. -/
def RetR (w : World) (v : V) (e : Ending) (w' : World) : Prop := ∃ A c, e = .returned (.agg #[.slice A v.l.length c, .bool v.s]) ∧ Rb w' A v.l.length v.l ∧ Below w.heap.size w w'
theorem RetV.retR {w w' : World} {v : V} {e : Ending} (h : RetV w v e w') : RetR w v e w' := by
  obtain ⟨A, c, h1, h2, h3⟩ := h; exact ⟨A, c, h1, h2.rd, h3⟩

theorem single_any (b : Int) (w : World) (hb : 0 ≤ b) : Calls Tryz.prog 109 #[.int .u8 b] w (RetV w (one1 b)) := by
  go_enter Tryz.func109, Tryz.ntmps109
  go_wp2
  refine bodyPost_ret (v := .agg #[.slice (some ⟨w.heap.size + 1, 0, none⟩) 1 1, .bool false]) (by simp [results, Tryz.results109, go_sem]) rfl ?_
  exact ⟨_, _, rfl, Nb.of_own (l := [b]) (Own.at1 _ _ _ (by simp)) (nnL_one hb) rfl (by omega) (by simp [maxLen, one1]), below_new (below_new (Below.refl _ _) _) _⟩

theorem nrm_cases (v : V) : (chk v.l = 0 ∧ nrm v = v) ∨ ((chk v.l == 0) = false ∧ nrm v = one1 2) := by
  cases h : okB v.l
  · refine .inr ⟨?_, nrm_no h⟩
    cases h2 : chk v.l == 0
    · rfl
    · rw [(chk_ok _).1 (by simpa using h2)] at h; exact absurd h (by decide)
  · exact .inl ⟨(chk_ok _).2 h, nrm_of h⟩
set_option maxHeartbeats 1000000 in
theorem operand_any (A : Option Addr) (n c : Nat) (s : Bool) (l : List Int) (w : World) (h : Rb w A n l) :
    Calls Tryz.prog 66 #[.agg #[.slice A n c, .bool s]] w (RetR w (nrm ⟨l, s⟩)) := by
  have HC := Lib.hid (check_any A n c s l ((w.alloc (.cells #[.slice A n c, .bool s] 26)).alloc (.cells #[.slice none 0 0, .bool false] 26)) ((h.alloc _).alloc _))
  have B0 := below_new (below_new (Below.refl w.heap.size w) (.cells #[.slice A n c, .bool s] 26)) (.cells #[.slice none 0 0, .bool false] 26)
  have P0 := (Own.new w 26 #[.slice A n c, .bool s]).alloc (.cells #[.slice none 0 0, .bool false] 26)
  have Q0 := Own.at1 (w.alloc (.cells #[.slice A n c, .bool s] 26)) 26 #[.slice none 0 0, .bool false] (g := w.heap.size + 1) (by simp)
  rcases nrm_cases ⟨l, s⟩ with ⟨h1, h2⟩ | ⟨h1, h2⟩
  · rw [h2]
    simp only at h1
    rw [h1] at HC
    have hl := h.len
    subst hl
    clear h1 h2
    replace h := Lib.hid h
    go_enter Tryz.func66, Tryz.ntmps66
    go_wp2_with (go_at_call 30; refine HC.out.mono ?_; rintro e w' ⟨rfl, hb'⟩; replace B0 := below_step B0 hb'; replace P0 := P0.step hb'; replace Q0 := Q0.step hb'; have p0 := P0.cell 0; have p1 := P0.cell 1; have q0 := Q0.cell 0; have q1 := Q0.cell 1; have f0 := Q0.free 0; have f1 := Q0.free 1)
    exact ret_vec Tryz.results66 rfl rfl (Q0.put2 _ _) ⟨_, _, rfl, h.out.step (below_set2 B0 (by omega) _ _), below_set2 B0 (by omega) _ _⟩
  · rw [h2]
    have h1' : (chk l != 0) = true := by simp only at h1; simp [bne, h1]
    generalize chk l = z at *
    clear h2
    replace h := Lib.hid h
    go_enter Tryz.func66, Tryz.ntmps66
    go_wp2_with (first
      | (go_at_call 30; refine HC.out.mono ?_; rintro e w' ⟨rfl, hb'⟩; replace B0 := below_step B0 hb'; replace P0 := P0.step hb'; replace Q0 := Q0.step hb'; have p0 := P0.cell 0; have p1 := P0.cell 1; have Q0lt := Q0.lt)
      | (go_at_call 109; refine (single_any 2 _ (by decide)).mono ?_; rintro e w2 ⟨A2, c2, rfl, hN, hb2⟩; have B1 := below_step B0 hb2; replace Q0 := Q0.step hb2; have q0 := Q0.cell 0; have q1 := Q0.cell 1; have f0 := Q0.free 0; have f1 := Q0.free 1))
    exact ret_vec Tryz.results66 rfl rfl (Q0.put2 _ _) ⟨_, _, rfl, (hN.far2 Q0lt _ _).rd, below_set2 B1 (by omega) _ _⟩
end Go.Proofs.YtgojnpblhfbdpaaGreatDoor

namespace Go.Proofs.YtgojnpblhfbdpaaGreatDoor
open Go Go.RowKit

def ups (n : Nat) (f : Nat → Int) (k : Nat) : List Int := tab n fun i => if i < k then f i else 0
theorem ups_len (n : Nat) (f : Nat → Int) (k : Nat) : (ups n f k).length = n := tab_len _ _
theorem ups_zero (n : Nat) (f : Nat → Int) : ups n f 0 = tab n fun _ => 0 := tab_congr fun i _ => by simp
theorem ups_last (n : Nat) (f : Nat → Int) : ups n f n = tab n f := tab_congr fun i h => by simp [h]
theorem nth_set (l : List Int) (k i : Nat) (v : Int) : nth (l.set k v) i = if i = k ∧ k < l.length then v else nth l i := by
  simp only [nth, List.getD_eq_getElem?_getD, List.getElem?_set]
  by_cases h : k = i
  · subst h
    by_cases h2 : k < l.length
    · simp [h2]
    · simp [h2]
  · rw [if_neg h, if_neg (fun e => h e.1.symm)]
theorem ups_next {n : Nat} (f : Nat → Int) {k : Nat} (h : k < n) : (ups n f k).set k (f k) = ups n f (k + 1) := list_ext (by simp [ups_len]) fun i hi => by
  have hi' : i < n := by simpa [ups_len] using hi
  rw [nth_set, ups_len, ups, ups, nth_tab _ hi', nth_tab _ hi']
  by_cases e : i = k
  · subst e; simp [hi']
  · rw [if_neg (fun x => e x.1)]
    by_cases e2 : i < k
    · rw [if_pos e2, if_pos (by omega)]
    · rw [if_neg e2, if_neg (by omega)]
theorem tab_nn {n : Nat} {f : Nat → Int} (h : ∀ i, i < n → 0 ≤ f i) : nnL (tab n f) := nnL_tab h

set_option maxHeartbeats 1000000 in
theorem build_any (n : Nat) (s : Bool) (g : Nat) (lb : Array Value) (f : Nat → Int) (w : World) (hn : n ≤ 1000000) (eg : Ent g) (hg : Gt w n g lb f) (hf : ∀ i, i < n → 0 ≤ f i) :
    Calls Tryz.prog 110 #[.int .i64 n, .bool s, .func (.func g) #[] lb] w (RetV w ⟨tab n f, s⟩) := by
  unfold Ent at eg
  have hmk := fun W => run_makeV n hn W
  go_enter Tryz.func110, Tryz.ntmps110
  go_wp2
  have B0 := below_new (below_new (Below.refl w.heap.size w) (.cells #[.slice none 0 0, .bool false] 26)) (.cells (ia (tab n fun _ => 0)) 58)
  have P0 := (Own.new w 26 #[.slice none 0 0, .bool false]).alloc (.cells (ia (tab n fun _ => 0)) 58)
  have Q0 := Own.at1 (w.alloc (.cells #[.slice none 0 0, .bool false] 26)) 58 (ia (tab n fun _ => 0)) (g := w.heap.size + 1) (by simp)
  rw [← ups_zero n f] at B0 P0 Q0 ⊢
  go_loopw [13] (fun i wr => ∃ k : Nat, k ≤ n ∧ i = .int .i64 k ∧ Hid (Own wr (w.heap.size + 1) 58 (ia (ups n f k))) ∧ Hid (Own wr w.heap.size 26 #[.slice none 0 0, .bool false]) ∧ Hid (Below w.heap.size w wr)) (fun i _ => n - (intOf i).toNat)
  case atStart => exact ⟨0, Nat.zero_le _, rfl, Lib.hid Q0, Lib.hid P0, Lib.hid B0⟩
  case round =>
    obtain ⟨k, hk, rfl, Q, P, B⟩ := hrel
    clear B0 P0 Q0 hmk
    by_cases hlt : k < n
    · have hcall := hg wr k hlt B.out
      have hfk := hf k hlt
      have hnext := Lib.hid (ups_next f hlt)
      clear hg hf
      generalize hy : f k = y at hcall hnext
      go_wp2_with (go_at_fn g; refine hcall.mono ?_; rintro e w' ⟨rfl, hb'⟩; have Q1 := Q.out.step hb'; have q0 := (Q1.cell k).trans (ia_get (by rw [ups_len]; exact hlt)); have f0 := Q1.free k)
      go_roundw
      case rel =>
        refine ⟨k + 1, by omega, by go_num, Lib.hid ?_, Lib.hid ((P.out.step hb').far (by simp) _), Lib.hid (below_set (below_step B.out hb') (by simp) _)⟩
        rw [← hnext.out, ← ia_set]
        exact Q1.put k _
      case measure => simp [intOf]; omega
    · obtain rfl : k = n := by omega
      have hnn := Lib.hid (tab_nn hf)
      have hlst := Lib.hid (ups_last k f)
      have P1 := P.out
      have Q1 := Q.out
      have p0 := P1.cell 0
      have p1 := P1.cell 1
      have f0 := P1.free 0
      have f1 := P1.free 1
      clear hg hf
      go_wp2
      rw [hlst.out] at Q1
      refine ret_vec Tryz.results110 rfl rfl (P1.put2 _ _) (RetV.mk' (v := ⟨tab k f, s⟩) (Nb.of_own (Q1.far2 (Nat.succ_ne_self _) _ _) hnn.out (tab_len _ _) (Nat.le_succ _) (show k ≤ maxLen from by unfold maxLen; omega)) (below_set2 B.out (by simp) _ _))

theorem at_in (A : Option Addr) (n c : Nat) (s : Bool) (l : List Int) (k : Nat) (z : Int) (w : World) (h : Rb w A n l) (_hn : n ≤ 1000000) (hk : k < n) :
    Calls Tryz.prog 112 #[.agg #[.slice A n c, .bool s], .int .i64 k, .int .u8 z] w fun e w' => e = .returned (.int .u8 (nth l k)) ∧ Below w.heap.size w w' := by
  obtain ⟨b, o, rfl, hb, hc⟩ := h.at_ hk
  clear h
  have d0 : decide ((k : Int) < 0) = false := by simp
  have d1 : decide ((n : Int) ≤ k) = false := by simp; omega
  go_enter Tryz.func112, Tryz.ntmps112
  go_wp2
  go_ret
  exact ⟨rfl, below_new (Below.refl _ _) _⟩
theorem at_low (A : Option Addr) (n c : Nat) (s : Bool) (k : Int) (z : Int) (w : World) (hk : k < 0) :
    Calls Tryz.prog 112 #[.agg #[.slice A n c, .bool s], .int .i64 k, .int .u8 z] w fun e w' => e = .returned (.int .u8 z) ∧ Below w.heap.size w w' := by
  have d0 : decide (k < 0) = true := by simpa using hk
  go_enter Tryz.func112, Tryz.ntmps112
  go_wp2
  go_ret
  exact ⟨rfl, below_new (Below.refl _ _) _⟩
theorem at_high (A : Option Addr) (n c : Nat) (s : Bool) (k : Int) (z : Int) (w : World) (hk : (n : Int) ≤ k) :
    Calls Tryz.prog 112 #[.agg #[.slice A n c, .bool s], .int .i64 k, .int .u8 z] w fun e w' => e = .returned (.int .u8 z) ∧ Below w.heap.size w w' := by
  have d0 : decide (k < 0) = false := by simp; omega
  have d1 : decide ((n : Int) ≤ k) = true := by simpa using hk
  go_enter Tryz.func112, Tryz.ntmps112
  go_wp2
  go_ret
  exact ⟨rfl, below_new (Below.refl _ _) _⟩
/-- Bit k, or z. -/
def atI (l : List Int) (k : Int) (z : Int) : Int := if 0 ≤ k ∧ k < l.length then nth l k.toNat else z
theorem at_any (A : Option Addr) (n c : Nat) (s : Bool) (l : List Int) (k : Int) (z : Int) (w : World) (h : Rb w A n l) (hn : n ≤ 1000000) :
    Calls Tryz.prog 112 #[.agg #[.slice A n c, .bool s], .int .i64 k, .int .u8 z] w fun e w' => e = .returned (.int .u8 (atI l k z)) ∧ Below w.heap.size w w' := by
  have hl := h.len
  unfold atI
  by_cases h0 : k < 0
  · rw [if_neg (by omega)]; exact at_low A n c s k z w h0
  · by_cases h1 : (n : Int) ≤ k
    · rw [if_neg (by omega)]; exact at_high A n c s k z w h1
    · rw [if_pos (by omega)]
      obtain ⟨j, rfl⟩ := Int.eq_ofNat_of_zero_le (show 0 ≤ k by omega)
      exact at_in A n c s l j z w h hn (by omega)
theorem filler_any (A : Option Addr) (n c : Nat) (s : Bool) (l : List Int) (w : World) (h : Rb w A n l) (_hn : n ≤ 1000000) (h0 : 0 < n) :
    Calls Tryz.prog 113 #[.agg #[.slice A n c, .bool s]] w fun e w' => e = .returned (.int .u8 (fill ⟨l, s⟩)) ∧ Below w.heap.size w w' := by
  have hl := h.len
  cases s
  · rw [show fill ⟨l, false⟩ = 0 from rfl]
    clear h hl
    go_enter Tryz.func113, Tryz.ntmps113
    go_wp2
    go_ret
    exact ⟨rfl, below_new (Below.refl _ _) _⟩
  · rw [show fill ⟨l, true⟩ = nth l (n - 1) from by rw [← hl]; rfl]
    obtain ⟨k, rfl⟩ : ∃ k, n = k + 1 := ⟨n - 1, by omega⟩
    obtain ⟨b, o, rfl, hb, hc⟩ := h.at_ (Nat.lt_succ_self k)
    rw [show k + 1 - 1 = k from rfl]
    clear h hl
    go_enter Tryz.func113, Tryz.ntmps113
    go_wp2
    go_ret
    exact ⟨rfl, below_new (Below.refl _ _) _⟩
end Go.Proofs.YtgojnpblhfbdpaaGreatDoor

namespace Go.Proofs.YtgojnpblhfbdpaaGreatDoor
open Go Go.RowKit

theorem atI_ext (l : List Int) (s : Bool) (i : Nat) : atI l i (fill ⟨l, s⟩) = ext ⟨l, s⟩ i := by
  unfold atI ext
  by_cases h : i < l.length
  · rw [if_pos (by omega), if_pos h]; rfl
  · rw [if_neg (by omega), if_neg h]
set_option maxHeartbeats 1000000 in
theorem fit1_any (g : Nat) (A : Option Addr) (n c : Nat) (s : Bool) (l : List Int) (i : Nat) (w : World) (O : Own w g 26 #[.slice A n c, .bool s]) (h : Rb w A n l) (hn : n ≤ 1000000) (h0 : 0 < n) :
    Calls Tryz.prog 111 #[.int .i64 i, .pointer (some ⟨g, 0, none⟩)] w fun e w' => e = .returned (.int .u8 (ext ⟨l, s⟩ i)) ∧ Below w.heap.size w w' := by
  rw [← atI_ext]
  have q0 := O.cell 0
  have q1 := O.cell 1
  simp only [List.getElem?_toArray, List.getElem?_cons_zero, List.getElem?_cons_succ] at q0 q1
  have hlt := O.lt
  have hF := Lib.hid fun (u : World) (hr : Rb u A n l) => filler_any A n c s l u hr hn h0
  have hA := Lib.hid fun (u : World) (hr : Rb u A n l) => at_any A n c s l i (fill ⟨l, s⟩) u hr hn
  clear O
  replace h := Lib.hid h
  generalize fill ⟨l, s⟩ = z at *
  go_enter Tryz.func111, Tryz.ntmps111
  go_wp2
  go_region_held3 (fun u => u.cell? ⟨g, 0, none⟩ = some (.slice A n c) ∧ u.cell? ⟨g, 1, none⟩ = some (.bool s)) (first | exact ⟨q0, q1⟩ | exact ⟨cell_step hb1 q0, cell_step hb1 q1⟩ | exact ⟨cell_step hb2 (cell_step hb1 q0), cell_step hb2 (cell_step hb1 q1)⟩) (first
    | (go_at_call 113; refine (hF.out _ ?_).mono ?_; (first | exact h.out | exact h.out.drew); rintro e w1 ⟨rfl, hb1⟩; obtain ⟨hc1, hf1⟩ := bcell hb1)
    | (go_at_call 112; refine (hA.out _ ?_).mono ?_; (first | exact h.out.step hb1 | exact h.out.drew.step hb1); rintro e w2 ⟨rfl, hb2⟩; obtain ⟨hc2, hf2⟩ := bcell hb2))
  all_goals go_wp2
  go_ret
  exact ⟨rfl, below_step (below_of_drew hb1) hb2⟩
theorem ent_fit1 : Ent 111 := enters_of Tryz.func111 (by kernel_rfl) rfl
set_option maxHeartbeats 1000000 in
theorem fit_any (A : Option Addr) (n c : Nat) (s : Bool) (l : List Int) (m : Nat) (w : World) (h : Rb w A n l) (hn : n ≤ 1000000) (h0 : 0 < n) (hm : m ≤ 1000000) :
    Calls Tryz.prog 69 #[.agg #[.slice A n c, .bool s], .int .i64 m] w (RetV w (fitV ⟨l, s⟩ m)) := by
  have hnn := h.nn
  have B0 := below_new (below_new (Below.refl w.heap.size w) (.cells #[.slice A n c, .bool s] 26)) (.cells #[.slice none 0 0, .bool false] 26)
  have P0 := (Own.new w 26 #[.slice A n c, .bool s]).alloc (.cells #[.slice none 0 0, .bool false] 26)
  have Q0 := Own.at1 (w.alloc (.cells #[.slice A n c, .bool s] 26)) 26 #[.slice none 0 0, .bool false] (g := w.heap.size + 1) (by simp)
  have hr := (h.alloc (.cells #[.slice A n c, .bool s] 26)).alloc (.cells #[.slice none 0 0, .bool false] 26)
  have HB := Lib.hid (build_any m s 111 #[.pointer (some ⟨w.heap.size, 0, none⟩)] (ext ⟨l, s⟩) _ hm ent_fit1 (fun W i _ hb => fit1_any w.heap.size A n c s l i W (P0.step hb) (hr.step hb) hn h0) (fun i _ => ext_nn (v := ⟨l, s⟩) hnn i))
  clear h hr hnn P0
  go_enter Tryz.func69, Tryz.ntmps69
  go_wp2_with (go_at_call 110; refine HB.out.mono ?_; rintro e w1 ⟨A1, c1, rfl, hN, hb1⟩; have B1 := below_step B0 hb1; have Q1 := Q0.step hb1; have q0 := Q1.cell 0; have q1 := Q1.cell 1; have f0 := Q1.free 0; have f1 := Q1.free 1)
  exact ret_vec Tryz.results69 rfl rfl (Q1.put2 _ _) (RetV.mk' (v := fitV ⟨l, s⟩ m) ((hN.far2 (by simp) _ _).mono (by simp; omega)) (below_set2 B1 (by simp) _ _))
end Go.Proofs.YtgojnpblhfbdpaaGreatDoor
