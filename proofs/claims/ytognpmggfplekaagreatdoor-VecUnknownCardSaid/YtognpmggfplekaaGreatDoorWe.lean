/-
  The walk of VecUnknown: it returns true. Conditions: the tables of package bit read as the program lays them.
-/
import Derived.Test.YtognpmggfplekaaGreatDoorWx
namespace Go.Proofs.YtognpmggfplekaaGreatDoor
open Go Go.RowKit

set_option maxRecDepth 100000 in
theorem known_b {p : Bool} (A : Option Addr) (n c : Nat) (s : Bool) (l : List Int) (w : World) (h : Rb w A n l) (hs : kn ⟨l, s⟩ = p) :
    Calls Tryz.prog 31 #[.agg #[.slice A n c, .bool s]] w fun e w' => e = .returned (.bool p) ∧ Below w.heap.size w w' := by
  have := known_v A n c s l w h
  rw [hs] at this
  exact this
set_option maxRecDepth 100000 in
theorem rFill_w (b m : Int) (s : Bool) (w : World) (hb : 0 ≤ b) (hm : m ≤ 1000) : Calls Tryz.prog 53 #[.int .u8 b, .int .i64 m, .bool s] w (RetW w (allV b m.toNat s)) :=
  (rFill_any b m s w hb (by omega)).mono fun _ _ ⟨A, c, e, hN, hB⟩ => ⟨A, _, c, e, hN.le, by rw [len_all]; omega, hN, hB⟩
/-! The mathematics. -/
set_option maxRecDepth 100000 in
theorem fit_unk {l : List Int} {S : Bool} {N : Nat} (h : knL l = false) (hN : l.length ≤ N) : knL (fitV ⟨l, S⟩ N).l = false := by
  cases g : knL (fitV ⟨l, S⟩ N).l
  · rfl
  · have : knL l = true := knL_iff.2 fun i hi => by
      have := knL_iff.1 g i (by rw [fitV, tab_len]; omega)
      rw [fitV, nth_tab _ (by omega)] at this
      unfold ext at this
      rwa [if_pos hi] at this
    rw [this] at h; cases h
set_option maxRecDepth 100000 in
theorem bal_unk {a b : V} (h : kn a = false ∨ kn b = false) : (knL (balL a b).l && knL (balR a b).l) = false := by
  have h1 : (nrm a).l.length ≤ balN a b := by unfold balN; omega
  have h2 : (nrm b).l.length ≤ balN a b := by unfold balN; omega
  rcases h with h | h
  · rw [show knL (balL a b).l = false from fit_unk h h1]; rfl
  · rw [show knL (balR a b).l = false from fit_unk h h2]; simp
set_option maxRecDepth 100000 in
theorem all_same {x : V} {N : Nat} {S : Bool} (hx : x = allV 2 N S) (h0 : 0 < N) (h1 : N ≤ 128) {M : Int} (hM : M.toNat = N) : sameV ⟨(nrm x).l, false⟩ (allV 2 M.toNat false) = true := by
  subst hx
  have ok : okB (allV 2 N S).l = true := ok_mk (by rw [len_all]; exact h0) (by rw [len_all]; exact h1) fun i hi => by
    rw [len_all] at hi
    unfold allV
    rw [nth_tab _ hi]; decide
  rw [sameV_iff, nrm_of ok, hM]
  rfl
set_option maxRecDepth 100000 in
theorem unk_ar {F : Nat → Nat → Nat → Option Nat} {a b : V} {n : Nat} (h : kn a = false ∨ kn b = false) (hn : n = balN a b) : sameV ⟨(nrm (arV F a b)).l, false⟩ (allV 2 ((n : Int)).toNat false) = true :=
  all_same (by unfold arV; rw [bal_unk h]; rfl) (balN_bd a b).1 (balN_bd a b).2 (by simpa using hn)
set_option maxRecDepth 100000 in
theorem unk_div {f : Bool} {a b : V} {n : Nat} (h : kn a = false ∨ kn b = false) (hn : n = balN a b) : sameV ⟨(nrm (divV f a b)).l, false⟩ (allV 2 ((n : Int)).toNat false) = true := unk_ar h hn
set_option maxRecDepth 100000 in
theorem unk_cmp {p : Int → Bool} {a b : V} (h : kn a = false ∨ kn b = false) : sameV ⟨(nrm (one1 (cmpV p a b))).l, false⟩ (allV 2 ((1 : Int)).toNat false) = true := by
  have e : cmpV p a b = 2 := by unfold cmpV; rw [bal_unk h]; rfl
  rw [e]
  decide
set_option maxRecDepth 100000 in
theorem unk_pow {a b : V} {n : Nat} (h : kn a = false ∨ kn b = false) (hn : n = (nrm a).l.length) : sameV ⟨(nrm (powV a b)).l, false⟩ (allV 2 ((n : Int)).toNat false) = true :=
  all_same (by
    have e : (knL (nrm a).l && knL (nrm b).l) = false := by
      rcases h with h | h
      · rw [show knL (nrm a).l = false from h]; rfl
      · rw [show knL (nrm b).l = false from h]; simp
    unfold powV; rw [e]; rfl) (nrm_len a).1 (nrm_len a).2 (by simpa using hn)
set_option maxRecDepth 100000 in
theorem unk_sh {fr : Int → Int → Int} {z : Int} {a b : V} {n : Nat} (h : kn b = false) (hn : n = (nrm a).l.length) : sameV ⟨(nrm (shV fr z a b)).l, false⟩ (allV 2 ((n : Int)).toNat false) = true :=
  all_same (by unfold shV; rw [show knL (nrm b).l = false from h]; rfl) (nrm_len a).1 (nrm_len a).2 (by simpa using hn)
set_option maxRecDepth 100000 in
theorem unk_a {i : Nat} {a b : V} {n : Nat} (hi : i = 4 ∨ i = 5 ∨ i = 6 ∨ i = 7 ∨ i = 8) (h : kn a = false ∨ kn b = false) (hn : n = balN a b) : sameV ⟨(nrm (twoV i a b)).l, false⟩ (allV 2 ((n : Int)).toNat false) = true := by
  rcases hi with rfl | rfl | rfl | rfl | rfl
  · exact unk_ar h hn
  · exact unk_ar h hn
  · exact unk_ar h hn
  · exact unk_div h hn
  · exact unk_div h hn
set_option maxRecDepth 100000 in
theorem unk_r {i : Nat} {a b : V} (hi : i = 12 ∨ i = 13 ∨ i = 14 ∨ i = 15) (h : kn a = false ∨ kn b = false) : sameV ⟨(nrm (twoV i a b)).l, false⟩ (allV 2 ((1 : Int)).toNat false) = true := by
  rcases hi with rfl | rfl | rfl | rfl <;> exact unk_cmp h
set_option maxRecDepth 100000 in
theorem unk_p {i : Nat} {a b : V} {n : Nat} (hi : i = 9) (h : kn a = false ∨ kn b = false) (hn : n = (nrm a).l.length) : sameV ⟨(nrm (twoV i a b)).l, false⟩ (allV 2 ((n : Int)).toNat false) = true := by
  subst hi; exact unk_pow h hn
set_option maxRecDepth 100000 in
theorem unk_s {i : Nat} {a b : V} {n : Nat} (hi : i = 18 ∨ i = 19 ∨ i = 20 ∨ i = 21) (h : kn b = false) (hn : n = (nrm a).l.length) : sameV ⟨(nrm (twoV i a b)).l, false⟩ (allV 2 ((n : Int)).toNat false) = true := by
  rcases hi with rfl | rfl | rfl | rfl <;> exact unk_sh h hn
set_option maxRecDepth 100000 in
theorem tv_of {x y u : V} (h : x = y) (k : sameV ⟨(nrm y).l, false⟩ u = true) : sameV ⟨(nrm x).l, false⟩ u = true := by rw [h]; exact k
set_option maxRecDepth 100000 in
set_option maxHeartbeats 16000000 in
theorem walk_VecUnknown (A0 : Option Addr) (n0 c0 : Nat) (s0 : Bool) (l0 : List Int) (A1 : Option Addr) (n1 c1 : Nat) (s1 : Bool) (l1 : List Int) (w : World) (h0 : Rb w A0 n0 l0) (hc0 : n0 ≤ c0) (h1 : Rb w A1 n1 l1) (hc1 : n1 ≤ c1) (TT : Tabs w) : Calls Tryz.prog 11 #[.agg #[.slice A0 n0 c0, .bool s0], .agg #[.slice A1 n1 c1, .bool s1]] w fun e w' => e = .returned (.bool true) ∧ Below w.heap.size w w' := by
  have O0 := ((Own.at1 w 24 #[.slice A0 n0 c0, .bool s0] (g := w.heap.size) (by simp)).alloc (.cells #[.slice A1 n1 c1, .bool s1] 24))
  have O1 := (Own.at1 (w.alloc (.cells #[.slice A0 n0 c0, .bool s0] 24)) 24 #[.slice A1 n1 c1, .bool s1] (g := w.heap.size + 1) (by simp))
  have BB := (below_new (below_new (Below.refl w.heap.size w) (.cells #[.slice A0 n0 c0, .bool s0] 24)) (.cells #[.slice A1 n1 c1, .bool s1] 24))
  have X2 := O0
  have X3 := O1
  clear O0
  clear O1
  have O2 := X2
  clear X2
  have O3 := X3
  clear X3
  replace TT := TT.step BB
  have r0 := h0.step BB
  have r1 := h1.step BB
  clear h0 h1
  replace BB := Lib.hid BB
  cases hl : lngB [n0, n1]
  · skip
    have hn := lng_no hl
    have hn0 : n0 ≤ 140 := hn n0 (by simp)
    have hn1 : n1 ≤ 140 := hn n1 (by simp)
    have HL := Lib.hid (long2_b _ A0 A1 n0 c0 n1 c1 s0 s1 hl)
    clear hl hn
    have q20 := O2.cell 0
    have q21 := O2.cell 1
    have q30 := O3.cell 0
    have q31 := O3.cell 1
    go_enter Tryz.func11, Tryz.ntmps11
    go_wp2_with (first | (go_at_call 12; refine (HL.out _ _ (by simp)).mono ?_; rintro e wn ⟨rfl, rfl⟩; replace O2 := O2.alloc (.cells #[.slice A0 n0 c0, .bool s0, .slice A1 n1 c1, .bool s1] 24); replace O3 := O3.alloc (.cells #[.slice A0 n0 c0, .bool s0, .slice A1 n1 c1, .bool s1] 24); replace r0 := r0.alloc (.cells #[.slice A0 n0 c0, .bool s0, .slice A1 n1 c1, .bool s1] 24); replace r1 := r1.alloc (.cells #[.slice A0 n0 c0, .bool s0, .slice A1 n1 c1, .bool s1] 24); replace TT := TT.alloc (.cells #[.slice A0 n0 c0, .bool s0, .slice A1 n1 c1, .bool s1] 24); replace BB := Lib.hid (below_new BB.out (.cells #[.slice A0 n0 c0, .bool s0, .slice A1 n1 c1, .bool s1] 24))) | (go_at_call 13; refine (awake_any _ TT).mono ?_; rintro e wn ⟨rfl, hb⟩; have kb := hb; (try replace O2 := O2.step kb); (try replace O3 := O3.step kb); (try replace r0 := r0.step kb); (try replace r1 := r1.step kb); (try replace TT := TT.step kb); replace BB := Lib.hid (below_step BB.out kb); (try clear q20 q21); (try (have q20 := O2.cell 0; have q21 := O2.cell 1)); (try clear q30 q31); (try (have q30 := O3.cell 0; have q31 := O3.cell 1))))
    have hBase : w.heap.size ≤ wn.heap.size := BB.out.size
    have hq2 := O2.lt
    have hq3 := O3.lt
    have BZ0 : szW wn.heap.size wn.drew := Nat.le_refl _
    refine region_l (by kernel_rfl) (fun u => owns w.heap.size #[.slice A0 n0 c0, .bool s0] u ∧ (owns (w.heap.size + 1) #[.slice A1 n1 c1, .bool s1] u ∧ (rds A0 n0 l0 u ∧ (rds A1 n1 l1 u ∧ (szW (wn.heap.size) u ∧ (tbs u ∧ blw w u)))))) [un (isW (⟨ofL ⟨#[49]⟩, false⟩ : V)), un (isV (.agg #[.slice A0 n0 c0, .bool s0])), un (isV (.agg #[.slice A1 n1 c1, .bool s1])), un (isW (condV (⟨ofL ⟨#[49]⟩, false⟩ : V) (⟨l0, s0⟩ : V) (⟨l1, s1⟩ : V))), un (isV (.agg #[.slice A0 n0 c0, .bool s0])), un (isW (nrm (⟨l0, s0⟩ : V))), un (isFr (wn.heap.size)), un (isFr (wn.heap.size)), filled (wn.heap.size) (condV (⟨ofL ⟨#[49]⟩, false⟩ : V) (⟨l0, s0⟩ : V) (⟨l1, s1⟩ : V)), filled (wn.heap.size) (nrm (⟨l0, s0⟩ : V))] [some 21, some 22, some 23, some 24, some 25, some 26, some 5, some 6, none, none] [0, 1, 2, 3, 4, 5, 6, 7, 6, 7] [6, 7] [[], [], [], [0, 1, 2, 0], [], [4, 3], [], [], [6, 3, 5, 0, 1, 2, 3, 6, 7], [7, 5, 8, 0, 1, 2, 3, 4, 5, 6, 7, 8]] (by kernel_rfl) (by kernel_rfl) rfl (by kernel_rfl) (by kernel_rfl) (by kernel_rfl) (by kernel_rfl) ⟨O2.drew, O3.drew, r0.drew, r1.drew, BZ0, TT.drew, below_drew BB.out⟩ ?_ ?_
    · refine ⟨?_, ?_, ?_, ?_, ?_, ?_, ?_, ?_, ?_, ?_, trivial⟩
      · intro a w' hS hO hF hD K hK
        refine if_ok (by rfl) ?_
        refine wp_calls rfl (enters_of Tryz.func54 (by kernel_rfl) rfl) (args := #[(.string ⟨#[49]⟩)]) (by simp [Act.eval]) ?_
        obtain ⟨O2, O3, r0, r1, BZ, TT, BB⟩ := id hS
        apply Calls.mono
        (with_reducible apply of_w); decide
        rintro e w2 ⟨A, n, c, rfl, hc, hn, hv, hb⟩
        exact ⟨_, rfl, hK _ w2 (fun h => by cases h) hb.size (fun h => absurd h (by decide)) ((show Stb (fun u => owns w.heap.size #[.slice A0 n0 c0, .bool s0] u ∧ (owns (w.heap.size + 1) #[.slice A1 n1 c1, .bool s1] u ∧ (rds A0 n0 l0 u ∧ (rds A1 n1 l1 u ∧ (szW (wn.heap.size) u ∧ (tbs u ∧ blw w u)))))) from inferInstance).st _ _ hb hS) (keepL_below hb) (fun V hV => by obtain rfl := Option.some.inj hV; exact ⟨A, n, c, rfl, hc, hn, hv.rd⟩)⟩
      · intro a w' hS hO hF hD K hK
        have ha := hO 2 (by rfl)
        refine if_ok (by rfl) ?_
        refine wp_load_row 24 (.tmp 2) rfl w.heap.size (ev ha) _ _ (0, 0) _ hS.1 Tryz.underlying24 rfl (by kernel_rfl) ?_
        exact hK _ w' (fun h => by cases h) (Nat.le_refl _) (fun h => absurd h (by decide)) hS (fun _ _ _ _ h => h) (fun V hV => by obtain rfl := Option.some.inj hV; exact rfl)
      · intro a w' hS hO hF hD K hK
        have ha := hO 3 (by rfl)
        refine if_ok (by rfl) ?_
        refine wp_load_row 24 (.tmp 3) rfl (w.heap.size + 1) (ev ha) _ _ (0, 0) _ hS.2.1 Tryz.underlying24 rfl (by kernel_rfl) ?_
        exact hK _ w' (fun h => by cases h) (Nat.le_refl _) (fun h => absurd h (by decide)) hS (fun _ _ _ _ h => h) (fun V hV => by obtain rfl := Option.some.inj hV; exact rfl)
      · intro a w' hS hO hF hD K hK
        have j0 := hF 0 rfl
        have f0 := j0.2 21 rfl
        obtain ⟨Ay0, ny0, cy0, e0, hc0, hn0, hr0⟩ := j0.1 _ rfl
        rw [e0] at f0
        have j1 := hF 1 rfl
        have f1 := j1.2 22 rfl
        rw [show valD _ _ 1 = _ from j1.1 _ rfl] at f1
        have j2 := hF 2 rfl
        have f2 := j2.2 23 rfl
        rw [show valD _ _ 2 = _ from j2.1 _ rfl] at f2
        refine if_ok (by rfl) ?_
        refine wp_calls rfl (enters_of Tryz.func51 (by kernel_rfl) rfl) (args := #[(.agg #[.slice Ay0 ny0 cy0, .bool (⟨ofL ⟨#[49]⟩, false⟩ : V).s]), (.agg #[.slice A0 n0 c0, .bool s0]), (.agg #[.slice A1 n1 c1, .bool s1])]) (by simp [Act.eval, f0, f1, f2]) ?_
        obtain ⟨O2, O3, r0, r1, BZ, TT, BB⟩ := id hS
        apply Calls.mono
        (with_reducible apply cond_any_w); (repeat (first | assumption | (with_reducible (apply Nb.rd; assumption)) | (with_reducible (apply Rb.at_later; assumption)) | (with_reducible (apply Tabs.at_later; assumption)) | (with_reducible apply Rb.alloc) | (with_reducible apply Tabs.alloc) | (with_reducible apply Rb.drew) | (with_reducible apply Tabs.drew) | (show I64 _; unfold I64; omega) | omega))
        rintro e w2 ⟨A, n, c, rfl, hc, hn, hv, hb⟩
        exact ⟨_, rfl, hK _ w2 (fun h => by cases h) hb.size (fun h => absurd h (by decide)) ((show Stb (fun u => owns w.heap.size #[.slice A0 n0 c0, .bool s0] u ∧ (owns (w.heap.size + 1) #[.slice A1 n1 c1, .bool s1] u ∧ (rds A0 n0 l0 u ∧ (rds A1 n1 l1 u ∧ (szW (wn.heap.size) u ∧ (tbs u ∧ blw w u)))))) from inferInstance).st _ _ hb hS) (keepL_below hb) (fun V hV => by obtain rfl := Option.some.inj hV; exact ⟨A, n, c, rfl, hc, hn, hv.rd⟩)⟩
      · intro a w' hS hO hF hD K hK
        have ha := hO 2 (by rfl)
        refine if_ok (by rfl) ?_
        refine wp_load_row 24 (.tmp 2) rfl w.heap.size (ev ha) _ _ (0, 0) _ hS.1 Tryz.underlying24 rfl (by kernel_rfl) ?_
        exact hK _ w' (fun h => by cases h) (Nat.le_refl _) (fun h => absurd h (by decide)) hS (fun _ _ _ _ h => h) (fun V hV => by obtain rfl := Option.some.inj hV; exact rfl)
      · intro a w' hS hO hF hD K hK
        have j0 := hF 4 rfl
        have f0 := j0.2 25 rfl
        rw [show valD _ _ 4 = _ from j0.1 _ rfl] at f0
        refine if_ok (by rfl) ?_
        refine wp_calls rfl (enters_of Tryz.func93 (by kernel_rfl) rfl) (args := #[(.agg #[.slice A0 n0 c0, .bool s0])]) (by simp [Act.eval, f0]) ?_
        obtain ⟨O2, O3, r0, r1, BZ, TT, BB⟩ := id hS
        apply Calls.mono
        (with_reducible apply rNorm_any_w); (repeat (first | assumption | (with_reducible (apply Nb.rd; assumption)) | (with_reducible (apply Rb.at_later; assumption)) | (with_reducible (apply Tabs.at_later; assumption)) | (with_reducible apply Rb.alloc) | (with_reducible apply Tabs.alloc) | (with_reducible apply Rb.drew) | (with_reducible apply Tabs.drew) | (show I64 _; unfold I64; omega) | omega))
        rintro e w2 ⟨A, n, c, rfl, hc, hn, hv, hb⟩
        exact ⟨_, rfl, hK _ w2 (fun h => by cases h) hb.size (fun h => absurd h (by decide)) ((show Stb (fun u => owns w.heap.size #[.slice A0 n0 c0, .bool s0] u ∧ (owns (w.heap.size + 1) #[.slice A1 n1 c1, .bool s1] u ∧ (rds A0 n0 l0 u ∧ (rds A1 n1 l1 u ∧ (szW (wn.heap.size) u ∧ (tbs u ∧ blw w u)))))) from inferInstance).st _ _ hb hS) (keepL_below hb) (fun V hV => by obtain rfl := Option.some.inj hV; exact ⟨A, n, c, rfl, hc, hn, hv.rd⟩)⟩
      · intro a w' hS hO hF hD K hK
        refine if_ok (by rfl) ?_
        refine wp_alloc rfl ?_
        have hb := below_new (Below.refl w'.heap.size w') (.cells #[.slice none 0 0, .bool false] 24)
        have hBz := hS.2.2.2.2.1
        exact hK _ _ (fun h => by cases h) hb.size (fun _ => ⟨rfl, by simp⟩) ((show Stb (fun u => owns w.heap.size #[.slice A0 n0 c0, .bool s0] u ∧ (owns (w.heap.size + 1) #[.slice A1 n1 c1, .bool s1] u ∧ (rds A0 n0 l0 u ∧ (rds A1 n1 l1 u ∧ (szW (wn.heap.size) u ∧ (tbs u ∧ blw w u)))))) from inferInstance).st _ _ hb hS) (keepL_below hb) (fun V hV => by obtain rfl := Option.some.inj hV; exact ⟨_, rfl, hBz, _, _, _, _, Own.new w' 24 _⟩)
      · intro a w' hS hO hF hD K hK
        refine if_ok (by rfl) ?_
        refine wp_alloc rfl ?_
        have hb := below_new (Below.refl w'.heap.size w') (.cells #[.slice none 0 0, .bool false] 24)
        have hBz := hS.2.2.2.2.1
        exact hK _ _ (fun h => by cases h) hb.size (fun _ => ⟨rfl, by simp⟩) ((show Stb (fun u => owns w.heap.size #[.slice A0 n0 c0, .bool s0] u ∧ (owns (w.heap.size + 1) #[.slice A1 n1 c1, .bool s1] u ∧ (rds A0 n0 l0 u ∧ (rds A1 n1 l1 u ∧ (szW (wn.heap.size) u ∧ (tbs u ∧ blw w u)))))) from inferInstance).st _ _ hb hS) (keepL_below hb) (fun V hV => by obtain rfl := Option.some.inj hV; exact ⟨_, rfl, hBz, _, _, _, _, Own.new w' 24 _⟩)
      · intro a w' hS hO hF hD K hK
        have j0 := hF 3 rfl
        have f0 := j0.2 24 rfl
        obtain ⟨Ay0, ny0, cy0, e0, hc0, hn0, hr0⟩ := j0.1 _ rfl
        rw [e0] at f0
        have jp := hF 6 rfl
        have fp := jp.2 5 rfl
        obtain ⟨g, eg, hg, X, q1, q2, q3, O⟩ := jp.1 _ rfl
        have hgx := eg
        rw [eg] at fp
        have hB0 := hBase
        haveI : Over w g := ⟨Nat.le_trans (show w.heap.size ≤ _ from hB0) hg⟩
        haveI : Apart g w.heap.size := ⟨fun e => by subst e; have := hB0; omega⟩
        haveI : Apart g (w.heap.size + 1) := ⟨fun e => by subst e; have := hB0; omega⟩
        refine if_ok (by rfl) ?_
        refine wp_store_row _ _ _ rfl g _ (ev fp) (ev f0) _ _ O vec_size rfl (by simp [Value.oneCell']) ?_
        exact hK _ _ (fun _ => rfl) (by simp [World.setRow]) (fun h => absurd h (by decide)) ((show Sst g (fun u => owns w.heap.size #[.slice A0 n0 c0, .bool s0] u ∧ (owns (w.heap.size + 1) #[.slice A1 n1 c1, .bool s1] u ∧ (rds A0 n0 l0 u ∧ (rds A1 n1 l1 u ∧ (szW (wn.heap.size) u ∧ (tbs u ∧ blw w u)))))) from inferInstance).st _ _ _ _ _ _ O hS) (keepL_store O (fun j V hj hV => by
          match j, hj, hV with
          | 0, _, hV => obtain rfl := Option.some.inj hV; exact ssx_un
          | 1, _, hV => obtain rfl := Option.some.inj hV; exact ssx_un
          | 2, _, hV => obtain rfl := Option.some.inj hV; exact ssx_un
          | 3, _, hV => obtain rfl := Option.some.inj hV; exact ssx_un
          | 4, _, hV => obtain rfl := Option.some.inj hV; exact ssx_un
          | 5, _, hV => obtain rfl := Option.some.inj hV; exact ssx_un
          | 6, _, hV => obtain rfl := Option.some.inj hV; exact ssx_fr
          | 7, _, hV => obtain rfl := Option.some.inj hV; exact ssx_fr
          | 8, hj, _ => exact absurd rfl hj
          | 9, _, hV => obtain rfl := Option.some.inj hV; exact ssx_filled (fun e => hD 7 6 (by decide) rfl rfl rfl rfl (e.trans hgx.symm))
          | q + 10, _, hV => simp at hV)) (fun V hV => by obtain rfl := Option.some.inj hV; rw [if_neg (by decide)]; exact ⟨g, Ay0, ny0, cy0, hgx, hg, O.row, hc0, hn0, hr0.row O⟩)
      · intro a w' hS hO hF hD K hK
        have j0 := hF 5 rfl
        have f0 := j0.2 26 rfl
        obtain ⟨Ay0, ny0, cy0, e0, hc0, hn0, hr0⟩ := j0.1 _ rfl
        rw [e0] at f0
        have jp := hF 7 rfl
        have fp := jp.2 6 rfl
        obtain ⟨g, eg, hg, X, q1, q2, q3, O⟩ := jp.1 _ rfl
        have hgx := eg
        rw [eg] at fp
        have hB0 := hBase
        haveI : Over w g := ⟨Nat.le_trans (show w.heap.size ≤ _ from hB0) hg⟩
        haveI : Apart g w.heap.size := ⟨fun e => by subst e; have := hB0; omega⟩
        haveI : Apart g (w.heap.size + 1) := ⟨fun e => by subst e; have := hB0; omega⟩
        refine if_ok (by rfl) ?_
        refine wp_store_row _ _ _ rfl g _ (ev fp) (ev f0) _ _ O vec_size rfl (by simp [Value.oneCell']) ?_
        exact hK _ _ (fun _ => rfl) (by simp [World.setRow]) (fun h => absurd h (by decide)) ((show Sst g (fun u => owns w.heap.size #[.slice A0 n0 c0, .bool s0] u ∧ (owns (w.heap.size + 1) #[.slice A1 n1 c1, .bool s1] u ∧ (rds A0 n0 l0 u ∧ (rds A1 n1 l1 u ∧ (szW (wn.heap.size) u ∧ (tbs u ∧ blw w u)))))) from inferInstance).st _ _ _ _ _ _ O hS) (keepL_store O (fun j V hj hV => by
          match j, hj, hV with
          | 0, _, hV => obtain rfl := Option.some.inj hV; exact ssx_un
          | 1, _, hV => obtain rfl := Option.some.inj hV; exact ssx_un
          | 2, _, hV => obtain rfl := Option.some.inj hV; exact ssx_un
          | 3, _, hV => obtain rfl := Option.some.inj hV; exact ssx_un
          | 4, _, hV => obtain rfl := Option.some.inj hV; exact ssx_un
          | 5, _, hV => obtain rfl := Option.some.inj hV; exact ssx_un
          | 6, _, hV => obtain rfl := Option.some.inj hV; exact ssx_fr
          | 7, _, hV => obtain rfl := Option.some.inj hV; exact ssx_fr
          | 8, _, hV => obtain rfl := Option.some.inj hV; exact ssx_filled (fun e => hD 6 7 (by decide) rfl rfl rfl rfl (e.trans hgx.symm))
          | 9, hj, _ => exact absurd rfl hj
          | q + 10, _, hV => simp at hV)) (fun V hV => by obtain rfl := Option.some.inj hV; rw [if_neg (by decide)]; exact ⟨g, Ay0, ny0, cy0, hgx, hg, O.row, hc0, hn0, hr0.row O⟩)
    · intro vs u hl hS hV
      match vs, hl, hV with
      | [v0, v1, v2, v3, v4, v5, v6, v7, v8, v9], _, hV =>
        obtain ⟨g5, A5, n5, c5, e5, hB5, O5, hcc5, hnn5, r5⟩ := hV 8 _ rfl
        replace e5 : v6 = .pointer (some ⟨g5, 0, none⟩) := e5
        subst e5
        obtain ⟨g6, A6, n6, c6, e6, hB6, O6, hcc6, hnn6, r6⟩ := hV 9 _ rfl
        replace e6 : v7 = .pointer (some ⟨g6, 0, none⟩) := e6
        subst e6
        obtain ⟨_, _, _, rfl, _, _, _⟩ := hV 0 _ rfl
        obtain rfl := hV 1 _ rfl
        obtain rfl := hV 2 _ rfl
        obtain ⟨_, _, _, rfl, _, _, _⟩ := hV 3 _ rfl
        obtain rfl := hV 4 _ rfl
        obtain ⟨_, _, _, rfl, _, _, _⟩ := hV 5 _ rfl
        simp only [puts, Act.put, List.setIfInBounds_toArray, List.set_cons_zero, List.set_cons_succ]
        obtain ⟨O2, O3, r0, r1, BZ, TT, BB⟩ := hS
        clear hV
        replace O2 : Own u w.heap.size 24 #[.slice A0 n0 c0, .bool s0] := O2
        replace O3 : Own u (w.heap.size + 1) 24 #[.slice A1 n1 c1, .bool s1] := O3
        replace r0 : Rb u A0 n0 l0 := r0
        replace r1 : Rb u A1 n1 l1 := r1
        replace TT : Tabs u := TT
        replace BB : Below w.heap.size w u := BB
        go_wp2_with fail
        replace BB := Lib.hid BB
        have hN5 : n5 = balN (⟨l0, s0⟩ : V) (⟨l1, s1⟩ : V) := by have := r5.len; rw [← this]; exact tab_len _ _
        have hN6 : n6 = (nrm (⟨l0, s0⟩ : V)).l.length := r6.len.symm
        replace hN5 := Lib.hid hN5
        replace hN6 := Lib.hid hN6
        go_wp2_with (go_at_call 19; refine (twos_any _).mono ?_; rintro e wx ⟨rfl, rfl⟩)
        have OR := Own.new u 39 twoRow
        replace O2 := O2.alloc (.cells twoRow 39)
        replace O3 := O3.alloc (.cells twoRow 39)
        replace O5 := O5.alloc (.cells twoRow 39)
        replace O6 := O6.alloc (.cells twoRow 39)
        replace r0 := r0.alloc (.cells twoRow 39)
        replace r1 := r1.alloc (.cells twoRow 39)
        replace r5 := r5.alloc (.cells twoRow 39)
        replace r6 := r6.alloc (.cells twoRow 39)
        replace TT := TT.alloc (.cells twoRow 39)
        replace BB := Lib.hid (below_new BB.out (.cells twoRow 39))
        generalize u.alloc (.cells twoRow 39) = W2 at *
        generalize u.heap.size = gT at *
        go_loopw [29] (fun v wr => ∃ i : Nat, i ≤ 24 ∧ v = .int .i64 i ∧ Hid (Own wr w.heap.size 24 #[.slice A0 n0 c0, .bool s0]) ∧ Hid (Own wr (w.heap.size + 1) 24 #[.slice A1 n1 c1, .bool s1]) ∧ Hid (Own wr g5 24 #[.slice A5 n5 c5, .bool (condV (⟨ofL ⟨#[49]⟩, false⟩ : V) (⟨l0, s0⟩ : V) (⟨l1, s1⟩ : V)).s]) ∧ Hid (Own wr g6 24 #[.slice A6 n6 c6, .bool (nrm (⟨l0, s0⟩ : V)).s]) ∧ Hid (Rb wr A0 n0 l0) ∧ Hid (Rb wr A1 n1 l1) ∧ Hid (Rb wr A5 n5 (condV (⟨ofL ⟨#[49]⟩, false⟩ : V) (⟨l0, s0⟩ : V) (⟨l1, s1⟩ : V)).l) ∧ Hid (Rb wr A6 n6 (nrm (⟨l0, s0⟩ : V)).l) ∧ Hid (Own wr gT 39 twoRow) ∧ Hid (Tabs wr) ∧ Hid (Below w.heap.size w wr)) (fun v _ => 24 - (intOf v).toNat)
        case atStart => exact ⟨0, by decide, rfl, Lib.hid O2, Lib.hid O3, Lib.hid O5, Lib.hid O6, Lib.hid r0, Lib.hid r1, Lib.hid r5, Lib.hid r6, Lib.hid OR, Lib.hid TT, BB⟩
        case round =>
          clear O2 O3 O5 O6 r0 r1 r5 r6 OR TT BB
          obtain ⟨i, hi, rfl, O2, O3, O5, O6, r0, r1, r5, r6, OR, TT, BB⟩ := hrel
          replace O2 := O2.out
          replace O3 := O3.out
          replace O5 := O5.out
          replace O6 := O6.out
          replace r0 := r0.out
          replace r1 := r1.out
          replace r5 := r5.out
          replace r6 := r6.out
          replace OR := OR.out
          replace TT := TT.out
          by_cases hlt : i < 24
          · have hrow := two_row i hlt
            have e0 : wr.cell? ⟨gT, i * 2, none⟩ = some (.int .u8 (twoOp i)) := (OR.cell (i * 2)).trans hrow.1
            have e1 : wr.cell? ⟨gT, i * 2 + 1, none⟩ = some (.func (.func (twoFn i)) #[] #[]) := (OR.cell (i * 2 + 1)).trans hrow.2
            have e2 : wr.cell? ⟨gT, 0 + i * 2, none⟩ = some (.int .u8 (twoOp i)) := by rw [Nat.zero_add]; exact e0
            have e3 : wr.cell? ⟨gT, 0 + i * 2 + 1, none⟩ = some (.func (.func (twoFn i)) #[] #[]) := by rw [Nat.zero_add]; exact e1
            have d1 : decide ((i : Int) < 24) = true := by simp; omega
            have q20 := O2.cell 0
            have q21 := O2.cell 1
            have l2 := O2.lt
            have q30 := O3.cell 0
            have q31 := O3.cell 1
            have l3 := O3.lt
            have q50 := O5.cell 0
            have q51 := O5.cell 1
            have l5 := O5.lt
            have q60 := O6.cell 0
            have q61 := O6.cell 1
            have l6 := O6.lt
            obtain ⟨o, ho⟩ : ∃ o, o = twoOp i := ⟨_, rfl⟩
            rw [← ho] at e0 e2
            replace ho := Lib.hid ho
            obtain ⟨eg, hF⟩ := two_fn i hlt
            have HF := Lib.hid hF
            unfold Ent at eg
            clear hrow hF
            go_wp2_with fail
            replace O2 := O2.alloc (.cells #[.int .u8 o, .func (.func (twoFn i)) #[] #[]] 39); replace O3 := O3.alloc (.cells #[.int .u8 o, .func (.func (twoFn i)) #[] #[]] 39); replace O5 := O5.alloc (.cells #[.int .u8 o, .func (.func (twoFn i)) #[] #[]] 39); replace O6 := O6.alloc (.cells #[.int .u8 o, .func (.func (twoFn i)) #[] #[]] 39); replace r0 := r0.alloc (.cells #[.int .u8 o, .func (.func (twoFn i)) #[] #[]] 39); replace r1 := r1.alloc (.cells #[.int .u8 o, .func (.func (twoFn i)) #[] #[]] 39); replace r5 := r5.alloc (.cells #[.int .u8 o, .func (.func (twoFn i)) #[] #[]] 39); replace r6 := r6.alloc (.cells #[.int .u8 o, .func (.func (twoFn i)) #[] #[]] 39); replace OR := OR.alloc (.cells #[.int .u8 o, .func (.func (twoFn i)) #[] #[]] 39); replace TT := TT.alloc (.cells #[.int .u8 o, .func (.func (twoFn i)) #[] #[]] 39); replace BB := Lib.hid (below_new BB.out (.cells #[.int .u8 o, .func (.func (twoFn i)) #[] #[]] 39))
            have O8 := Own.new wr 39 #[.int .u8 o, .func (.func (twoFn i)) #[] #[]]
            clear e0 e1 e2 e3 q20 q21 l2 q30 q31 l3 q50 q51 l5 q60 q61 l6
            have q20 := O2.cell 0
            have q21 := O2.cell 1
            have q30 := O3.cell 0
            have q31 := O3.cell 1
            have q50 := O5.cell 0
            have q51 := O5.cell 1
            have q60 := O6.cell 0
            have q61 := O6.cell 1
            have q80 := O8.cell 0
            have q81 := O8.cell 1
            by_cases hg : i = 4 ∨ i = 5 ∨ i = 6 ∨ i = 7 ∨ i = 8 ∨ i = 9 ∨ i = 12 ∨ i = 13 ∨ i = 14 ∨ i = 15
            · skip
              cases hkA : kn (⟨l0, s0⟩ : V)
              · have KA := Lib.hid (fun (u : World) (h : Rb u A0 n0 l0) => known_b (p := false) A0 n0 c0 s0 l0 u h hkA); replace hkA := Lib.hid hkA
                rcases hg with hi0 | hi0 | hi0 | hi0 | hi0 | hi0 | hi0 | hi0 | hi0 | hi0
                all_goals (replace ho := ho.out; have ho0 := ho; rw [hi0] at ho; simp only [twoOp, List.getD_cons_zero, List.getD_cons_succ] at ho; have e8 := Lib.hid (ho0.symm.trans ho); clear ho0; subst ho; replace hi0 := Lib.hid hi0)
                all_goals
                  as_aux_lemma =>
                    go_wp2_with (first | (go_at_call 31; first | ((with_reducible refine (KA.out _ r0).mono ?_); rintro e wk ⟨rfl, hb⟩; have kb := hb; (try replace O2 := O2.step kb); (try replace O3 := O3.step kb); (try replace O5 := O5.step kb); (try replace O6 := O6.step kb); (try replace r0 := r0.step kb); (try replace r1 := r1.step kb); (try replace r5 := r5.step kb); (try replace r6 := r6.step kb); (try replace OR := OR.step kb); (try replace O8 := O8.step kb); (try replace TT := TT.step kb); replace BB := Lib.hid (below_step BB.out kb); (try clear q20 q21); (try (have q20 := O2.cell 0; have q21 := O2.cell 1)); (try clear q30 q31); (try (have q30 := O3.cell 0; have q31 := O3.cell 1)); (try clear q50 q51); (try (have q50 := O5.cell 0; have q51 := O5.cell 1)); (try clear q60 q61); (try (have q60 := O6.cell 0; have q61 := O6.cell 1)); (try clear q80 q81); (try (have q80 := O8.cell 0; have q81 := O8.cell 1))) | ((with_reducible refine (KB.out _ r1).mono ?_); rintro e wk ⟨rfl, hb⟩; have kb := hb; (try replace O2 := O2.step kb); (try replace O3 := O3.step kb); (try replace O5 := O5.step kb); (try replace O6 := O6.step kb); (try replace r0 := r0.step kb); (try replace r1 := r1.step kb); (try replace r5 := r5.step kb); (try replace r6 := r6.step kb); (try replace OR := OR.step kb); (try replace O8 := O8.step kb); (try replace TT := TT.step kb); replace BB := Lib.hid (below_step BB.out kb); (try clear q20 q21); (try (have q20 := O2.cell 0; have q21 := O2.cell 1)); (try clear q30 q31); (try (have q30 := O3.cell 0; have q31 := O3.cell 1)); (try clear q50 q51); (try (have q50 := O5.cell 0; have q51 := O5.cell 1)); (try clear q60 q61); (try (have q60 := O6.cell 0; have q61 := O6.cell 1)); (try clear q80 q81); (try (have q80 := O8.cell 0; have q81 := O8.cell 1)))) | ((with_reducible refine (HF.out _ _ _ _ _ _ _ _ _ _ _ r0 r1 hc0 hc1 TT).mono ?_); rintro e w9 ⟨A9, n9, c9, rfl, hc9, hn9, hv, hb⟩; have kb := hb; (try replace O2 := O2.step kb); (try replace O3 := O3.step kb); (try replace O5 := O5.step kb); (try replace O6 := O6.step kb); (try replace r0 := r0.step kb); (try replace r1 := r1.step kb); (try replace r5 := r5.step kb); (try replace r6 := r6.step kb); (try replace OR := OR.step kb); (try replace O8 := O8.step kb); (try replace TT := TT.step kb); replace BB := Lib.hid (below_step BB.out kb); replace O2 := O2.alloc (.cells #[.slice A9 n9 c9, .bool (twoV i (⟨l0, s0⟩ : V) (⟨l1, s1⟩ : V)).s] 24); replace O3 := O3.alloc (.cells #[.slice A9 n9 c9, .bool (twoV i (⟨l0, s0⟩ : V) (⟨l1, s1⟩ : V)).s] 24); replace O5 := O5.alloc (.cells #[.slice A9 n9 c9, .bool (twoV i (⟨l0, s0⟩ : V) (⟨l1, s1⟩ : V)).s] 24); replace O6 := O6.alloc (.cells #[.slice A9 n9 c9, .bool (twoV i (⟨l0, s0⟩ : V) (⟨l1, s1⟩ : V)).s] 24); replace r0 := r0.alloc (.cells #[.slice A9 n9 c9, .bool (twoV i (⟨l0, s0⟩ : V) (⟨l1, s1⟩ : V)).s] 24); replace r1 := r1.alloc (.cells #[.slice A9 n9 c9, .bool (twoV i (⟨l0, s0⟩ : V) (⟨l1, s1⟩ : V)).s] 24); replace r5 := r5.alloc (.cells #[.slice A9 n9 c9, .bool (twoV i (⟨l0, s0⟩ : V) (⟨l1, s1⟩ : V)).s] 24); replace r6 := r6.alloc (.cells #[.slice A9 n9 c9, .bool (twoV i (⟨l0, s0⟩ : V) (⟨l1, s1⟩ : V)).s] 24); replace OR := OR.alloc (.cells #[.slice A9 n9 c9, .bool (twoV i (⟨l0, s0⟩ : V) (⟨l1, s1⟩ : V)).s] 24); replace O8 := O8.alloc (.cells #[.slice A9 n9 c9, .bool (twoV i (⟨l0, s0⟩ : V) (⟨l1, s1⟩ : V)).s] 24); replace TT := TT.alloc (.cells #[.slice A9 n9 c9, .bool (twoV i (⟨l0, s0⟩ : V) (⟨l1, s1⟩ : V)).s] 24); replace BB := Lib.hid (below_new BB.out (.cells #[.slice A9 n9 c9, .bool (twoV i (⟨l0, s0⟩ : V) (⟨l1, s1⟩ : V)).s] 24)); have O11 := Own.new w9 24 #[.slice A9 n9 c9, .bool (twoV i (⟨l0, s0⟩ : V) (⟨l1, s1⟩ : V)).s]; have r9 := hv.rd.alloc (.cells #[.slice A9 n9 c9, .bool (twoV i (⟨l0, s0⟩ : V) (⟨l1, s1⟩ : V)).s] 24); have q110 := O11.cell 0; have q111 := O11.cell 1; clear hb kb hv) | (go_at_call 26; apply Calls.mono; (with_reducible apply withSign_any_w); (repeat (first | assumption | (with_reducible (apply Nb.rd; assumption)) | (with_reducible (apply Rb.at_later; assumption)) | (with_reducible (apply Tabs.at_later; assumption)) | (with_reducible apply Rb.alloc) | (with_reducible apply Tabs.alloc) | (with_reducible apply Rb.drew) | (with_reducible apply Tabs.drew) | (show I64 _; unfold I64; omega) | omega)); rintro e wn ⟨A, n, c, rfl, hc, hn, hv, hb⟩; have kb := hb; (try replace O2 := O2.step kb); (try replace O3 := O3.step kb); (try replace O5 := O5.step kb); (try replace O6 := O6.step kb); (try replace r0 := r0.step kb); (try replace r1 := r1.step kb); (try replace r5 := r5.step kb); (try replace r6 := r6.step kb); (try replace r9 := r9.step kb); (try replace OR := OR.step kb); (try replace O8 := O8.step kb); (try replace TT := TT.step kb); replace BB := Lib.hid (below_step BB.out kb); have rW := Nb.rd hv; have nW := hn; clear hv) | (go_at_call 53; apply Calls.mono; (with_reducible apply rFill_w); (repeat (first | assumption | (with_reducible (apply Nb.rd; assumption)) | (with_reducible (apply Rb.at_later; assumption)) | (with_reducible (apply Tabs.at_later; assumption)) | (with_reducible apply Rb.alloc) | (with_reducible apply Tabs.alloc) | (with_reducible apply Rb.drew) | (with_reducible apply Tabs.drew) | (show I64 _; unfold I64; omega) | omega)); rintro e wn ⟨A, n, c, rfl, hc, hn, hv, hb⟩; have kb := hb; (try replace O2 := O2.step kb); (try replace O3 := O3.step kb); (try replace O5 := O5.step kb); (try replace O6 := O6.step kb); (try replace r0 := r0.step kb); (try replace r1 := r1.step kb); (try replace r5 := r5.step kb); (try replace r6 := r6.step kb); (try replace r9 := r9.step kb); (try replace OR := OR.step kb); (try replace O8 := O8.step kb); (try replace TT := TT.step kb); replace BB := Lib.hid (below_step BB.out kb); replace rW := rW.step kb) | (go_at_call 16; refine (same_t _ _ _ _ _ _ _ _ _ _ _ rW (Nb.rd hv) nW hn (by first | exact unk_a (by have := hi0.out; omega) (.inl hkA.out) hN5.out | exact unk_r (by have := hi0.out; omega) (.inl hkA.out) | exact unk_p (by have := hi0.out; omega) (.inl hkA.out) hN6.out)).mono ?_; rintro e wn ⟨rfl, hb⟩; have kb := hb; (try replace O2 := O2.step kb); (try replace O3 := O3.step kb); (try replace O5 := O5.step kb); (try replace O6 := O6.step kb); (try replace r0 := r0.step kb); (try replace r1 := r1.step kb); (try replace r5 := r5.step kb); (try replace r6 := r6.step kb); (try replace r9 := r9.step kb); (try replace OR := OR.step kb); (try replace O8 := O8.step kb); (try replace TT := TT.step kb); replace BB := Lib.hid (below_step BB.out kb)))
                    go_roundw
                    case rel => exact ⟨i + 1, by omega, by go_num, Lib.hid O2, Lib.hid O3, Lib.hid O5, Lib.hid O6, Lib.hid r0, Lib.hid r1, Lib.hid r5, Lib.hid r6, Lib.hid OR, Lib.hid TT, BB⟩
                    case measure => simp [intOf]; omega
              · have KA := Lib.hid (fun (u : World) (h : Rb u A0 n0 l0) => known_b (p := true) A0 n0 c0 s0 l0 u h hkA); replace hkA := Lib.hid hkA
                cases hkB : kn (⟨l1, s1⟩ : V)
                · have KB := Lib.hid (fun (u : World) (h : Rb u A1 n1 l1) => known_b (p := false) A1 n1 c1 s1 l1 u h hkB); replace hkB := Lib.hid hkB
                  rcases hg with hi0 | hi0 | hi0 | hi0 | hi0 | hi0 | hi0 | hi0 | hi0 | hi0
                  all_goals (replace ho := ho.out; have ho0 := ho; rw [hi0] at ho; simp only [twoOp, List.getD_cons_zero, List.getD_cons_succ] at ho; have e8 := Lib.hid (ho0.symm.trans ho); clear ho0; subst ho; replace hi0 := Lib.hid hi0)
                  all_goals
                    as_aux_lemma =>
                      go_wp2_with (first | (go_at_call 31; first | ((with_reducible refine (KA.out _ r0).mono ?_); rintro e wk ⟨rfl, hb⟩; have kb := hb; (try replace O2 := O2.step kb); (try replace O3 := O3.step kb); (try replace O5 := O5.step kb); (try replace O6 := O6.step kb); (try replace r0 := r0.step kb); (try replace r1 := r1.step kb); (try replace r5 := r5.step kb); (try replace r6 := r6.step kb); (try replace OR := OR.step kb); (try replace O8 := O8.step kb); (try replace TT := TT.step kb); replace BB := Lib.hid (below_step BB.out kb); (try clear q20 q21); (try (have q20 := O2.cell 0; have q21 := O2.cell 1)); (try clear q30 q31); (try (have q30 := O3.cell 0; have q31 := O3.cell 1)); (try clear q50 q51); (try (have q50 := O5.cell 0; have q51 := O5.cell 1)); (try clear q60 q61); (try (have q60 := O6.cell 0; have q61 := O6.cell 1)); (try clear q80 q81); (try (have q80 := O8.cell 0; have q81 := O8.cell 1))) | ((with_reducible refine (KB.out _ r1).mono ?_); rintro e wk ⟨rfl, hb⟩; have kb := hb; (try replace O2 := O2.step kb); (try replace O3 := O3.step kb); (try replace O5 := O5.step kb); (try replace O6 := O6.step kb); (try replace r0 := r0.step kb); (try replace r1 := r1.step kb); (try replace r5 := r5.step kb); (try replace r6 := r6.step kb); (try replace OR := OR.step kb); (try replace O8 := O8.step kb); (try replace TT := TT.step kb); replace BB := Lib.hid (below_step BB.out kb); (try clear q20 q21); (try (have q20 := O2.cell 0; have q21 := O2.cell 1)); (try clear q30 q31); (try (have q30 := O3.cell 0; have q31 := O3.cell 1)); (try clear q50 q51); (try (have q50 := O5.cell 0; have q51 := O5.cell 1)); (try clear q60 q61); (try (have q60 := O6.cell 0; have q61 := O6.cell 1)); (try clear q80 q81); (try (have q80 := O8.cell 0; have q81 := O8.cell 1)))) | ((with_reducible refine (HF.out _ _ _ _ _ _ _ _ _ _ _ r0 r1 hc0 hc1 TT).mono ?_); rintro e w9 ⟨A9, n9, c9, rfl, hc9, hn9, hv, hb⟩; have kb := hb; (try replace O2 := O2.step kb); (try replace O3 := O3.step kb); (try replace O5 := O5.step kb); (try replace O6 := O6.step kb); (try replace r0 := r0.step kb); (try replace r1 := r1.step kb); (try replace r5 := r5.step kb); (try replace r6 := r6.step kb); (try replace OR := OR.step kb); (try replace O8 := O8.step kb); (try replace TT := TT.step kb); replace BB := Lib.hid (below_step BB.out kb); replace O2 := O2.alloc (.cells #[.slice A9 n9 c9, .bool (twoV i (⟨l0, s0⟩ : V) (⟨l1, s1⟩ : V)).s] 24); replace O3 := O3.alloc (.cells #[.slice A9 n9 c9, .bool (twoV i (⟨l0, s0⟩ : V) (⟨l1, s1⟩ : V)).s] 24); replace O5 := O5.alloc (.cells #[.slice A9 n9 c9, .bool (twoV i (⟨l0, s0⟩ : V) (⟨l1, s1⟩ : V)).s] 24); replace O6 := O6.alloc (.cells #[.slice A9 n9 c9, .bool (twoV i (⟨l0, s0⟩ : V) (⟨l1, s1⟩ : V)).s] 24); replace r0 := r0.alloc (.cells #[.slice A9 n9 c9, .bool (twoV i (⟨l0, s0⟩ : V) (⟨l1, s1⟩ : V)).s] 24); replace r1 := r1.alloc (.cells #[.slice A9 n9 c9, .bool (twoV i (⟨l0, s0⟩ : V) (⟨l1, s1⟩ : V)).s] 24); replace r5 := r5.alloc (.cells #[.slice A9 n9 c9, .bool (twoV i (⟨l0, s0⟩ : V) (⟨l1, s1⟩ : V)).s] 24); replace r6 := r6.alloc (.cells #[.slice A9 n9 c9, .bool (twoV i (⟨l0, s0⟩ : V) (⟨l1, s1⟩ : V)).s] 24); replace OR := OR.alloc (.cells #[.slice A9 n9 c9, .bool (twoV i (⟨l0, s0⟩ : V) (⟨l1, s1⟩ : V)).s] 24); replace O8 := O8.alloc (.cells #[.slice A9 n9 c9, .bool (twoV i (⟨l0, s0⟩ : V) (⟨l1, s1⟩ : V)).s] 24); replace TT := TT.alloc (.cells #[.slice A9 n9 c9, .bool (twoV i (⟨l0, s0⟩ : V) (⟨l1, s1⟩ : V)).s] 24); replace BB := Lib.hid (below_new BB.out (.cells #[.slice A9 n9 c9, .bool (twoV i (⟨l0, s0⟩ : V) (⟨l1, s1⟩ : V)).s] 24)); have O11 := Own.new w9 24 #[.slice A9 n9 c9, .bool (twoV i (⟨l0, s0⟩ : V) (⟨l1, s1⟩ : V)).s]; have r9 := hv.rd.alloc (.cells #[.slice A9 n9 c9, .bool (twoV i (⟨l0, s0⟩ : V) (⟨l1, s1⟩ : V)).s] 24); have q110 := O11.cell 0; have q111 := O11.cell 1; clear hb kb hv) | (go_at_call 26; apply Calls.mono; (with_reducible apply withSign_any_w); (repeat (first | assumption | (with_reducible (apply Nb.rd; assumption)) | (with_reducible (apply Rb.at_later; assumption)) | (with_reducible (apply Tabs.at_later; assumption)) | (with_reducible apply Rb.alloc) | (with_reducible apply Tabs.alloc) | (with_reducible apply Rb.drew) | (with_reducible apply Tabs.drew) | (show I64 _; unfold I64; omega) | omega)); rintro e wn ⟨A, n, c, rfl, hc, hn, hv, hb⟩; have kb := hb; (try replace O2 := O2.step kb); (try replace O3 := O3.step kb); (try replace O5 := O5.step kb); (try replace O6 := O6.step kb); (try replace r0 := r0.step kb); (try replace r1 := r1.step kb); (try replace r5 := r5.step kb); (try replace r6 := r6.step kb); (try replace r9 := r9.step kb); (try replace OR := OR.step kb); (try replace O8 := O8.step kb); (try replace TT := TT.step kb); replace BB := Lib.hid (below_step BB.out kb); have rW := Nb.rd hv; have nW := hn; clear hv) | (go_at_call 53; apply Calls.mono; (with_reducible apply rFill_w); (repeat (first | assumption | (with_reducible (apply Nb.rd; assumption)) | (with_reducible (apply Rb.at_later; assumption)) | (with_reducible (apply Tabs.at_later; assumption)) | (with_reducible apply Rb.alloc) | (with_reducible apply Tabs.alloc) | (with_reducible apply Rb.drew) | (with_reducible apply Tabs.drew) | (show I64 _; unfold I64; omega) | omega)); rintro e wn ⟨A, n, c, rfl, hc, hn, hv, hb⟩; have kb := hb; (try replace O2 := O2.step kb); (try replace O3 := O3.step kb); (try replace O5 := O5.step kb); (try replace O6 := O6.step kb); (try replace r0 := r0.step kb); (try replace r1 := r1.step kb); (try replace r5 := r5.step kb); (try replace r6 := r6.step kb); (try replace r9 := r9.step kb); (try replace OR := OR.step kb); (try replace O8 := O8.step kb); (try replace TT := TT.step kb); replace BB := Lib.hid (below_step BB.out kb); replace rW := rW.step kb) | (go_at_call 16; refine (same_t _ _ _ _ _ _ _ _ _ _ _ rW (Nb.rd hv) nW hn (by first | exact unk_a (by have := hi0.out; omega) (.inr hkB.out) hN5.out | exact unk_r (by have := hi0.out; omega) (.inr hkB.out) | exact unk_p (by have := hi0.out; omega) (.inr hkB.out) hN6.out)).mono ?_; rintro e wn ⟨rfl, hb⟩; have kb := hb; (try replace O2 := O2.step kb); (try replace O3 := O3.step kb); (try replace O5 := O5.step kb); (try replace O6 := O6.step kb); (try replace r0 := r0.step kb); (try replace r1 := r1.step kb); (try replace r5 := r5.step kb); (try replace r6 := r6.step kb); (try replace r9 := r9.step kb); (try replace OR := OR.step kb); (try replace O8 := O8.step kb); (try replace TT := TT.step kb); replace BB := Lib.hid (below_step BB.out kb)))
                      go_roundw
                      case rel => exact ⟨i + 1, by omega, by go_num, Lib.hid O2, Lib.hid O3, Lib.hid O5, Lib.hid O6, Lib.hid r0, Lib.hid r1, Lib.hid r5, Lib.hid r6, Lib.hid OR, Lib.hid TT, BB⟩
                      case measure => simp [intOf]; omega
                · have KB := Lib.hid (fun (u : World) (h : Rb u A1 n1 l1) => known_b (p := true) A1 n1 c1 s1 l1 u h hkB); replace hkB := Lib.hid hkB
                  rcases hg with hi0 | hi0 | hi0 | hi0 | hi0 | hi0 | hi0 | hi0 | hi0 | hi0
                  all_goals (replace ho := ho.out; have ho0 := ho; rw [hi0] at ho; simp only [twoOp, List.getD_cons_zero, List.getD_cons_succ] at ho; have e8 := Lib.hid (ho0.symm.trans ho); clear ho0; subst ho; replace hi0 := Lib.hid hi0)
                  all_goals
                    as_aux_lemma =>
                      go_wp2_with (first | (go_at_call 31; first | ((with_reducible refine (KA.out _ r0).mono ?_); rintro e wk ⟨rfl, hb⟩; have kb := hb; (try replace O2 := O2.step kb); (try replace O3 := O3.step kb); (try replace O5 := O5.step kb); (try replace O6 := O6.step kb); (try replace r0 := r0.step kb); (try replace r1 := r1.step kb); (try replace r5 := r5.step kb); (try replace r6 := r6.step kb); (try replace OR := OR.step kb); (try replace O8 := O8.step kb); (try replace TT := TT.step kb); replace BB := Lib.hid (below_step BB.out kb); (try clear q20 q21); (try (have q20 := O2.cell 0; have q21 := O2.cell 1)); (try clear q30 q31); (try (have q30 := O3.cell 0; have q31 := O3.cell 1)); (try clear q50 q51); (try (have q50 := O5.cell 0; have q51 := O5.cell 1)); (try clear q60 q61); (try (have q60 := O6.cell 0; have q61 := O6.cell 1)); (try clear q80 q81); (try (have q80 := O8.cell 0; have q81 := O8.cell 1))) | ((with_reducible refine (KB.out _ r1).mono ?_); rintro e wk ⟨rfl, hb⟩; have kb := hb; (try replace O2 := O2.step kb); (try replace O3 := O3.step kb); (try replace O5 := O5.step kb); (try replace O6 := O6.step kb); (try replace r0 := r0.step kb); (try replace r1 := r1.step kb); (try replace r5 := r5.step kb); (try replace r6 := r6.step kb); (try replace OR := OR.step kb); (try replace O8 := O8.step kb); (try replace TT := TT.step kb); replace BB := Lib.hid (below_step BB.out kb); (try clear q20 q21); (try (have q20 := O2.cell 0; have q21 := O2.cell 1)); (try clear q30 q31); (try (have q30 := O3.cell 0; have q31 := O3.cell 1)); (try clear q50 q51); (try (have q50 := O5.cell 0; have q51 := O5.cell 1)); (try clear q60 q61); (try (have q60 := O6.cell 0; have q61 := O6.cell 1)); (try clear q80 q81); (try (have q80 := O8.cell 0; have q81 := O8.cell 1)))) | ((with_reducible refine (HF.out _ _ _ _ _ _ _ _ _ _ _ r0 r1 hc0 hc1 TT).mono ?_); rintro e w9 ⟨A9, n9, c9, rfl, hc9, hn9, hv, hb⟩; have kb := hb; (try replace O2 := O2.step kb); (try replace O3 := O3.step kb); (try replace O5 := O5.step kb); (try replace O6 := O6.step kb); (try replace r0 := r0.step kb); (try replace r1 := r1.step kb); (try replace r5 := r5.step kb); (try replace r6 := r6.step kb); (try replace OR := OR.step kb); (try replace O8 := O8.step kb); (try replace TT := TT.step kb); replace BB := Lib.hid (below_step BB.out kb); replace O2 := O2.alloc (.cells #[.slice A9 n9 c9, .bool (twoV i (⟨l0, s0⟩ : V) (⟨l1, s1⟩ : V)).s] 24); replace O3 := O3.alloc (.cells #[.slice A9 n9 c9, .bool (twoV i (⟨l0, s0⟩ : V) (⟨l1, s1⟩ : V)).s] 24); replace O5 := O5.alloc (.cells #[.slice A9 n9 c9, .bool (twoV i (⟨l0, s0⟩ : V) (⟨l1, s1⟩ : V)).s] 24); replace O6 := O6.alloc (.cells #[.slice A9 n9 c9, .bool (twoV i (⟨l0, s0⟩ : V) (⟨l1, s1⟩ : V)).s] 24); replace r0 := r0.alloc (.cells #[.slice A9 n9 c9, .bool (twoV i (⟨l0, s0⟩ : V) (⟨l1, s1⟩ : V)).s] 24); replace r1 := r1.alloc (.cells #[.slice A9 n9 c9, .bool (twoV i (⟨l0, s0⟩ : V) (⟨l1, s1⟩ : V)).s] 24); replace r5 := r5.alloc (.cells #[.slice A9 n9 c9, .bool (twoV i (⟨l0, s0⟩ : V) (⟨l1, s1⟩ : V)).s] 24); replace r6 := r6.alloc (.cells #[.slice A9 n9 c9, .bool (twoV i (⟨l0, s0⟩ : V) (⟨l1, s1⟩ : V)).s] 24); replace OR := OR.alloc (.cells #[.slice A9 n9 c9, .bool (twoV i (⟨l0, s0⟩ : V) (⟨l1, s1⟩ : V)).s] 24); replace O8 := O8.alloc (.cells #[.slice A9 n9 c9, .bool (twoV i (⟨l0, s0⟩ : V) (⟨l1, s1⟩ : V)).s] 24); replace TT := TT.alloc (.cells #[.slice A9 n9 c9, .bool (twoV i (⟨l0, s0⟩ : V) (⟨l1, s1⟩ : V)).s] 24); replace BB := Lib.hid (below_new BB.out (.cells #[.slice A9 n9 c9, .bool (twoV i (⟨l0, s0⟩ : V) (⟨l1, s1⟩ : V)).s] 24)); have O11 := Own.new w9 24 #[.slice A9 n9 c9, .bool (twoV i (⟨l0, s0⟩ : V) (⟨l1, s1⟩ : V)).s]; have r9 := hv.rd.alloc (.cells #[.slice A9 n9 c9, .bool (twoV i (⟨l0, s0⟩ : V) (⟨l1, s1⟩ : V)).s] 24); have q110 := O11.cell 0; have q111 := O11.cell 1; clear hb kb hv))
                      go_roundw
                      case rel => exact ⟨i + 1, by omega, by go_num, Lib.hid O2, Lib.hid O3, Lib.hid O5, Lib.hid O6, Lib.hid r0, Lib.hid r1, Lib.hid r5, Lib.hid r6, Lib.hid OR, Lib.hid TT, BB⟩
                      case measure => simp [intOf]; omega
            by_cases hg2 : i = 18 ∨ i = 19 ∨ i = 20 ∨ i = 21
            · replace hg := hg2
              clear hg2
              cases hkA : kn (⟨l0, s0⟩ : V)
              · have KA := Lib.hid (fun (u : World) (h : Rb u A0 n0 l0) => known_b (p := false) A0 n0 c0 s0 l0 u h hkA); replace hkA := Lib.hid hkA
                cases hkB : kn (⟨l1, s1⟩ : V)
                · have KB := Lib.hid (fun (u : World) (h : Rb u A1 n1 l1) => known_b (p := false) A1 n1 c1 s1 l1 u h hkB); replace hkB := Lib.hid hkB
                  rcases hg with hi0 | hi0 | hi0 | hi0
                  all_goals (replace ho := ho.out; have ho0 := ho; rw [hi0] at ho; simp only [twoOp, List.getD_cons_zero, List.getD_cons_succ] at ho; have e8 := Lib.hid (ho0.symm.trans ho); clear ho0; subst ho; replace hi0 := Lib.hid hi0)
                  all_goals
                    as_aux_lemma =>
                      go_wp2_with (go_at_call 31; first | ((with_reducible refine (KA.out _ r0).mono ?_); rintro e wk ⟨rfl, hb⟩; have kb := hb; (try replace O2 := O2.step kb); (try replace O3 := O3.step kb); (try replace O5 := O5.step kb); (try replace O6 := O6.step kb); (try replace r0 := r0.step kb); (try replace r1 := r1.step kb); (try replace r5 := r5.step kb); (try replace r6 := r6.step kb); (try replace OR := OR.step kb); (try replace O8 := O8.step kb); (try replace TT := TT.step kb); replace BB := Lib.hid (below_step BB.out kb); (try clear q20 q21); (try (have q20 := O2.cell 0; have q21 := O2.cell 1)); (try clear q30 q31); (try (have q30 := O3.cell 0; have q31 := O3.cell 1)); (try clear q50 q51); (try (have q50 := O5.cell 0; have q51 := O5.cell 1)); (try clear q60 q61); (try (have q60 := O6.cell 0; have q61 := O6.cell 1)); (try clear q80 q81); (try (have q80 := O8.cell 0; have q81 := O8.cell 1))) | ((with_reducible refine (KB.out _ r1).mono ?_); rintro e wk ⟨rfl, hb⟩; have kb := hb; (try replace O2 := O2.step kb); (try replace O3 := O3.step kb); (try replace O5 := O5.step kb); (try replace O6 := O6.step kb); (try replace r0 := r0.step kb); (try replace r1 := r1.step kb); (try replace r5 := r5.step kb); (try replace r6 := r6.step kb); (try replace OR := OR.step kb); (try replace O8 := O8.step kb); (try replace TT := TT.step kb); replace BB := Lib.hid (below_step BB.out kb); (try clear q20 q21); (try (have q20 := O2.cell 0; have q21 := O2.cell 1)); (try clear q30 q31); (try (have q30 := O3.cell 0; have q31 := O3.cell 1)); (try clear q50 q51); (try (have q50 := O5.cell 0; have q51 := O5.cell 1)); (try clear q60 q61); (try (have q60 := O6.cell 0; have q61 := O6.cell 1)); (try clear q80 q81); (try (have q80 := O8.cell 0; have q81 := O8.cell 1))))
                      rw [← e8.out] at O8
                      refine region_y (by kernel_rfl) (fun u => owns w.heap.size #[.slice A0 n0 c0, .bool s0] u ∧ (owns (w.heap.size + 1) #[.slice A1 n1 c1, .bool s1] u ∧ (owns g5 #[.slice A5 n5 c5, .bool (condV (⟨ofL ⟨#[49]⟩, false⟩ : V) (⟨l0, s0⟩ : V) (⟨l1, s1⟩ : V)).s] u ∧ (owns g6 #[.slice A6 n6 c6, .bool (nrm (⟨l0, s0⟩ : V)).s] u ∧ (rds A0 n0 l0 u ∧ (rds A1 n1 l1 u ∧ (rds A5 n5 (condV (⟨ofL ⟨#[49]⟩, false⟩ : V) (⟨l0, s0⟩ : V) (⟨l1, s1⟩ : V)).l u ∧ (rds A6 n6 (nrm (⟨l0, s0⟩ : V)).l u ∧ (ownT gT 39 twoRow u ∧ (ownT wr.heap.size 39 #[.int .u8 (twoOp i), .func (.func (twoFn i)) #[] #[]] u ∧ (tbs u ∧ blw w u))))))))))) [] [isV (.pointer (some ⟨g6, 0, none⟩)), isV ((.slice A6 n6 c6)), isV (.int .i64 n6), isV (.agg #[.slice A1 n1 c1, .bool s1]), isV (.bool false), isV (.bool true), isV (.int .i64 n6), isV (.bool true)] [some 67, some 68, some 69, some 70, some 71, some 72, some 9, some 10] [[], [0], [1], [], [3], [4], [2, 4, 0, 1, 2], [5, 6, 0, 1, 2, 3, 4, 5, 6]] (by kernel_rfl) (by kernel_rfl) rfl (by kernel_rfl) (by kernel_rfl) (by kernel_rfl) ⟨O2.drew, O3.drew, O5.drew, O6.drew, r0.drew, r1.drew, r5.drew, r6.drew, OR.drew, O8.drew, TT.drew, below_drew BB.out⟩ (fun _ h => by cases h) ?_ ?_
                      · refine ⟨?_, ?_, ?_, ?_, ?_, ?_, ?_, ?_, trivial⟩
                        · intro a w' hS hO hF' hP K hK
                          have ha := hO 6 (by rfl)
                          refine if_ok (by rfl) ?_
                          refine wp_val (w' := w') (q := .pointer (some ⟨g6, 0, none⟩)) (by unfold execOp; simp only [ev ha]; simp [go_sem]) ?_
                          exact hK _ w' (fun h => by cases h) (keep_same hS) rfl
                        · intro a w' hS hO hF' hP K hK
                          obtain ⟨_, f0, rfl⟩ := (hF' 0 rfl).1 67 _ rfl rfl
                          have hc := hS.2.2.2.1.cell 0
                          refine if_ok (by rfl) ?_
                          refine wp_val (w' := w') (q := (.slice A6 n6 c6)) (by unfold execOp; simp only [ev f0]; simp [go_sem, hc]) ?_
                          exact hK _ w' (fun h => by cases h) (keep_same hS) rfl
                        · intro a w' hS hO hF' hP K hK
                          obtain ⟨_, f0, rfl⟩ := (hF' 1 rfl).1 68 _ rfl rfl
                          refine if_ok (by rfl) ?_
                          refine wp_len _ rfl (ev f0) ?_
                          exact hK _ w' (fun h => by cases h) (keep_same hS) rfl
                        · intro a w' hS hO hF' hP K hK
                          have ha := hO 3 (by rfl)
                          refine if_ok (by rfl) ?_
                          refine wp_load_row 24 (.tmp 3) rfl (w.heap.size + 1) (ev ha) _ _ (0, 0) _ hS.2.1 Tryz.underlying24 rfl (by kernel_rfl) ?_
                          exact hK _ w' (fun h => by cases h) (keep_same hS) rfl
                        · intro a w' hS hO hF' hP K hK
                          obtain ⟨_, f0, rfl⟩ := (hF' 3 rfl).1 70 _ rfl rfl
                          refine if_ok (by rfl) ?_
                          refine wp_calls rfl (enters_of Tryz.func31 (by kernel_rfl) rfl) (args := #[(.agg #[.slice A1 n1 c1, .bool s1])]) (by simp [Act.eval, f0]) ?_
                          obtain ⟨O2, O3, O5, O6, r0, r1, r5, r6, OR, O8, TT, BB⟩ := id hS
                          apply Calls.mono
                          exact KB.out _ r1
                          rintro e w2 ⟨rfl, hb⟩
                          exact ⟨_, rfl, hK _ w2 (fun h => by cases h) (keep_below hb hS) rfl⟩
                        · intro a w' hS hO hF' hP K hK
                          obtain ⟨_, f0, rfl⟩ := (hF' 4 rfl).1 71 _ rfl rfl
                          refine if_ok (by rfl) ?_
                          refine wp_not _ rfl (ev f0) ?_
                          exact hK _ w' (fun h => by cases h) (keep_same hS) rfl
                        · intro a w' hS hO hF' hP K hK
                          obtain ⟨_, f0, rfl⟩ := (hF' 2 rfl).1 69 _ rfl rfl
                          refine if_ok (by rfl) ?_
                          unfold Oper.wp execOp
                          simp only [Sem.run_pure, ev f0]
                          exact hK _ w' (fun h => by cases h) (keep_same hS) rfl
                        · intro a w' hS hO hF' hP K hK
                          obtain ⟨_, f0, rfl⟩ := (hF' 5 rfl).1 72 _ rfl rfl
                          refine if_ok (by rfl) ?_
                          unfold Oper.wp execOp
                          simp only [Sem.run_pure, ev f0]
                          exact hK _ w' (fun h => by cases h) (keep_same hS) rfl
                      · intro vs u hl hS hV
                        match vs, hl, hV with
                        | [v0, v1, v2, v3, v4, v5, v6, v7], _, hV =>
                          obtain rfl := hV 0 _ rfl
                          obtain rfl := hV 1 _ rfl
                          obtain rfl := hV 2 _ rfl
                          obtain rfl := hV 3 _ rfl
                          obtain rfl := hV 4 _ rfl
                          obtain rfl := hV 5 _ rfl
                          obtain rfl := hV 6 _ rfl
                          obtain rfl := hV 7 _ rfl
                          simp only [puts, Act.put, List.setIfInBounds_toArray, List.set_cons_zero, List.set_cons_succ]
                          obtain ⟨O2, O3, O5, O6, r0, r1, r5, r6, OR, O8, TT, BB⟩ := hS
                          clear hV
                          replace O2 : Own u w.heap.size 24 #[.slice A0 n0 c0, .bool s0] := O2
                          replace O3 : Own u (w.heap.size + 1) 24 #[.slice A1 n1 c1, .bool s1] := O3
                          replace O5 : Own u g5 24 #[.slice A5 n5 c5, .bool (condV (⟨ofL ⟨#[49]⟩, false⟩ : V) (⟨l0, s0⟩ : V) (⟨l1, s1⟩ : V)).s] := O5
                          replace O6 : Own u g6 24 #[.slice A6 n6 c6, .bool (nrm (⟨l0, s0⟩ : V)).s] := O6
                          replace r0 : Rb u A0 n0 l0 := r0
                          replace r1 : Rb u A1 n1 l1 := r1
                          replace r5 : Rb u A5 n5 (condV (⟨ofL ⟨#[49]⟩, false⟩ : V) (⟨l0, s0⟩ : V) (⟨l1, s1⟩ : V)).l := r5
                          replace r6 : Rb u A6 n6 (nrm (⟨l0, s0⟩ : V)).l := r6
                          replace OR : Own u gT 39 twoRow := OR
                          replace O8 : Own u wr.heap.size 39 #[.int .u8 (twoOp i), .func (.func (twoFn i)) #[] #[]] := O8
                          replace TT : Tabs u := TT
                          replace BB : Below w.heap.size w u := BB
                          replace BB := Lib.hid BB
                          replace OR : Own u gT 39 twoRow := OR
                          replace O8 : Own u wr.heap.size 39 #[.int .u8 (twoOp i), .func (.func (twoFn i)) #[] #[]] := O8
                          rw [e8.out] at O8
                          have q20 := O2.cell 0
                          have q21 := O2.cell 1
                          have q30 := O3.cell 0
                          have q31 := O3.cell 1
                          have q50 := O5.cell 0
                          have q51 := O5.cell 1
                          have q60 := O6.cell 0
                          have q61 := O6.cell 1
                          have q80 := O8.cell 0
                          have q81 := O8.cell 1
                          go_wp2_with (first | ((with_reducible refine (HF.out _ _ _ _ _ _ _ _ _ _ _ r0 r1 hc0 hc1 TT).mono ?_); rintro e w9 ⟨A9, n9, c9, rfl, hc9, hn9, hv, hb⟩; have kb := hb; (try replace O2 := O2.step kb); (try replace O3 := O3.step kb); (try replace O5 := O5.step kb); (try replace O6 := O6.step kb); (try replace r0 := r0.step kb); (try replace r1 := r1.step kb); (try replace r5 := r5.step kb); (try replace r6 := r6.step kb); (try replace OR := OR.step kb); (try replace O8 := O8.step kb); (try replace TT := TT.step kb); replace BB := Lib.hid (below_step BB.out kb); replace O2 := O2.alloc (.cells #[.slice A9 n9 c9, .bool (twoV i (⟨l0, s0⟩ : V) (⟨l1, s1⟩ : V)).s] 24); replace O3 := O3.alloc (.cells #[.slice A9 n9 c9, .bool (twoV i (⟨l0, s0⟩ : V) (⟨l1, s1⟩ : V)).s] 24); replace O5 := O5.alloc (.cells #[.slice A9 n9 c9, .bool (twoV i (⟨l0, s0⟩ : V) (⟨l1, s1⟩ : V)).s] 24); replace O6 := O6.alloc (.cells #[.slice A9 n9 c9, .bool (twoV i (⟨l0, s0⟩ : V) (⟨l1, s1⟩ : V)).s] 24); replace r0 := r0.alloc (.cells #[.slice A9 n9 c9, .bool (twoV i (⟨l0, s0⟩ : V) (⟨l1, s1⟩ : V)).s] 24); replace r1 := r1.alloc (.cells #[.slice A9 n9 c9, .bool (twoV i (⟨l0, s0⟩ : V) (⟨l1, s1⟩ : V)).s] 24); replace r5 := r5.alloc (.cells #[.slice A9 n9 c9, .bool (twoV i (⟨l0, s0⟩ : V) (⟨l1, s1⟩ : V)).s] 24); replace r6 := r6.alloc (.cells #[.slice A9 n9 c9, .bool (twoV i (⟨l0, s0⟩ : V) (⟨l1, s1⟩ : V)).s] 24); replace OR := OR.alloc (.cells #[.slice A9 n9 c9, .bool (twoV i (⟨l0, s0⟩ : V) (⟨l1, s1⟩ : V)).s] 24); replace O8 := O8.alloc (.cells #[.slice A9 n9 c9, .bool (twoV i (⟨l0, s0⟩ : V) (⟨l1, s1⟩ : V)).s] 24); replace TT := TT.alloc (.cells #[.slice A9 n9 c9, .bool (twoV i (⟨l0, s0⟩ : V) (⟨l1, s1⟩ : V)).s] 24); replace BB := Lib.hid (below_new BB.out (.cells #[.slice A9 n9 c9, .bool (twoV i (⟨l0, s0⟩ : V) (⟨l1, s1⟩ : V)).s] 24)); have O11 := Own.new w9 24 #[.slice A9 n9 c9, .bool (twoV i (⟨l0, s0⟩ : V) (⟨l1, s1⟩ : V)).s]; have r9 := hv.rd.alloc (.cells #[.slice A9 n9 c9, .bool (twoV i (⟨l0, s0⟩ : V) (⟨l1, s1⟩ : V)).s] 24); have q110 := O11.cell 0; have q111 := O11.cell 1; clear hb kb hv) | (go_at_call 26; apply Calls.mono; (with_reducible apply withSign_any_w); (repeat (first | assumption | (with_reducible (apply Nb.rd; assumption)) | (with_reducible (apply Rb.at_later; assumption)) | (with_reducible (apply Tabs.at_later; assumption)) | (with_reducible apply Rb.alloc) | (with_reducible apply Tabs.alloc) | (with_reducible apply Rb.drew) | (with_reducible apply Tabs.drew) | (show I64 _; unfold I64; omega) | omega)); rintro e wn ⟨A, n, c, rfl, hc, hn, hv, hb⟩; have kb := hb; (try replace O2 := O2.step kb); (try replace O3 := O3.step kb); (try replace O5 := O5.step kb); (try replace O6 := O6.step kb); (try replace r0 := r0.step kb); (try replace r1 := r1.step kb); (try replace r5 := r5.step kb); (try replace r6 := r6.step kb); (try replace r9 := r9.step kb); (try replace OR := OR.step kb); (try replace O8 := O8.step kb); (try replace TT := TT.step kb); replace BB := Lib.hid (below_step BB.out kb); have rW := Nb.rd hv; have nW := hn; clear hv) | (go_at_call 53; apply Calls.mono; (with_reducible apply rFill_w); (repeat (first | assumption | (with_reducible (apply Nb.rd; assumption)) | (with_reducible (apply Rb.at_later; assumption)) | (with_reducible (apply Tabs.at_later; assumption)) | (with_reducible apply Rb.alloc) | (with_reducible apply Tabs.alloc) | (with_reducible apply Rb.drew) | (with_reducible apply Tabs.drew) | (show I64 _; unfold I64; omega) | omega)); rintro e wn ⟨A, n, c, rfl, hc, hn, hv, hb⟩; have kb := hb; (try replace O2 := O2.step kb); (try replace O3 := O3.step kb); (try replace O5 := O5.step kb); (try replace O6 := O6.step kb); (try replace r0 := r0.step kb); (try replace r1 := r1.step kb); (try replace r5 := r5.step kb); (try replace r6 := r6.step kb); (try replace r9 := r9.step kb); (try replace OR := OR.step kb); (try replace O8 := O8.step kb); (try replace TT := TT.step kb); replace BB := Lib.hid (below_step BB.out kb); replace rW := rW.step kb) | (go_at_call 16; refine (same_t _ _ _ _ _ _ _ _ _ _ _ rW (Nb.rd hv) nW hn (unk_s (by have := hi0.out; omega) hkB.out hN6.out)).mono ?_; rintro e wn ⟨rfl, hb⟩; have kb := hb; (try replace O2 := O2.step kb); (try replace O3 := O3.step kb); (try replace O5 := O5.step kb); (try replace O6 := O6.step kb); (try replace r0 := r0.step kb); (try replace r1 := r1.step kb); (try replace r5 := r5.step kb); (try replace r6 := r6.step kb); (try replace r9 := r9.step kb); (try replace OR := OR.step kb); (try replace O8 := O8.step kb); (try replace TT := TT.step kb); replace BB := Lib.hid (below_step BB.out kb)))
                          go_roundw
                          case rel => exact ⟨i + 1, by omega, by go_num, Lib.hid O2, Lib.hid O3, Lib.hid O5, Lib.hid O6, Lib.hid r0, Lib.hid r1, Lib.hid r5, Lib.hid r6, Lib.hid OR, Lib.hid TT, BB⟩
                          case measure => simp [intOf]; omega
                · have KB := Lib.hid (fun (u : World) (h : Rb u A1 n1 l1) => known_b (p := true) A1 n1 c1 s1 l1 u h hkB); replace hkB := Lib.hid hkB
                  rcases hg with hi0 | hi0 | hi0 | hi0
                  all_goals (replace ho := ho.out; have ho0 := ho; rw [hi0] at ho; simp only [twoOp, List.getD_cons_zero, List.getD_cons_succ] at ho; have e8 := Lib.hid (ho0.symm.trans ho); clear ho0; subst ho; replace hi0 := Lib.hid hi0)
                  all_goals
                    as_aux_lemma =>
                      go_wp2_with (go_at_call 31; first | ((with_reducible refine (KA.out _ r0).mono ?_); rintro e wk ⟨rfl, hb⟩; have kb := hb; (try replace O2 := O2.step kb); (try replace O3 := O3.step kb); (try replace O5 := O5.step kb); (try replace O6 := O6.step kb); (try replace r0 := r0.step kb); (try replace r1 := r1.step kb); (try replace r5 := r5.step kb); (try replace r6 := r6.step kb); (try replace OR := OR.step kb); (try replace O8 := O8.step kb); (try replace TT := TT.step kb); replace BB := Lib.hid (below_step BB.out kb); (try clear q20 q21); (try (have q20 := O2.cell 0; have q21 := O2.cell 1)); (try clear q30 q31); (try (have q30 := O3.cell 0; have q31 := O3.cell 1)); (try clear q50 q51); (try (have q50 := O5.cell 0; have q51 := O5.cell 1)); (try clear q60 q61); (try (have q60 := O6.cell 0; have q61 := O6.cell 1)); (try clear q80 q81); (try (have q80 := O8.cell 0; have q81 := O8.cell 1))) | ((with_reducible refine (KB.out _ r1).mono ?_); rintro e wk ⟨rfl, hb⟩; have kb := hb; (try replace O2 := O2.step kb); (try replace O3 := O3.step kb); (try replace O5 := O5.step kb); (try replace O6 := O6.step kb); (try replace r0 := r0.step kb); (try replace r1 := r1.step kb); (try replace r5 := r5.step kb); (try replace r6 := r6.step kb); (try replace OR := OR.step kb); (try replace O8 := O8.step kb); (try replace TT := TT.step kb); replace BB := Lib.hid (below_step BB.out kb); (try clear q20 q21); (try (have q20 := O2.cell 0; have q21 := O2.cell 1)); (try clear q30 q31); (try (have q30 := O3.cell 0; have q31 := O3.cell 1)); (try clear q50 q51); (try (have q50 := O5.cell 0; have q51 := O5.cell 1)); (try clear q60 q61); (try (have q60 := O6.cell 0; have q61 := O6.cell 1)); (try clear q80 q81); (try (have q80 := O8.cell 0; have q81 := O8.cell 1))))
                      rw [← e8.out] at O8
                      refine region_y (by kernel_rfl) (fun u => owns w.heap.size #[.slice A0 n0 c0, .bool s0] u ∧ (owns (w.heap.size + 1) #[.slice A1 n1 c1, .bool s1] u ∧ (owns g5 #[.slice A5 n5 c5, .bool (condV (⟨ofL ⟨#[49]⟩, false⟩ : V) (⟨l0, s0⟩ : V) (⟨l1, s1⟩ : V)).s] u ∧ (owns g6 #[.slice A6 n6 c6, .bool (nrm (⟨l0, s0⟩ : V)).s] u ∧ (rds A0 n0 l0 u ∧ (rds A1 n1 l1 u ∧ (rds A5 n5 (condV (⟨ofL ⟨#[49]⟩, false⟩ : V) (⟨l0, s0⟩ : V) (⟨l1, s1⟩ : V)).l u ∧ (rds A6 n6 (nrm (⟨l0, s0⟩ : V)).l u ∧ (ownT gT 39 twoRow u ∧ (ownT wr.heap.size 39 #[.int .u8 (twoOp i), .func (.func (twoFn i)) #[] #[]] u ∧ (tbs u ∧ blw w u))))))))))) [] [isV (.pointer (some ⟨g6, 0, none⟩)), isV ((.slice A6 n6 c6)), isV (.int .i64 n6), isV (.agg #[.slice A1 n1 c1, .bool s1]), isV (.bool true), isV (.bool false), isV (.int .i64 n6), isV (.bool false)] [some 67, some 68, some 69, some 70, some 71, some 72, some 9, some 10] [[], [0], [1], [], [3], [4], [2, 4, 0, 1, 2], [5, 6, 0, 1, 2, 3, 4, 5, 6]] (by kernel_rfl) (by kernel_rfl) rfl (by kernel_rfl) (by kernel_rfl) (by kernel_rfl) ⟨O2.drew, O3.drew, O5.drew, O6.drew, r0.drew, r1.drew, r5.drew, r6.drew, OR.drew, O8.drew, TT.drew, below_drew BB.out⟩ (fun _ h => by cases h) ?_ ?_
                      · refine ⟨?_, ?_, ?_, ?_, ?_, ?_, ?_, ?_, trivial⟩
                        · intro a w' hS hO hF' hP K hK
                          have ha := hO 6 (by rfl)
                          refine if_ok (by rfl) ?_
                          refine wp_val (w' := w') (q := .pointer (some ⟨g6, 0, none⟩)) (by unfold execOp; simp only [ev ha]; simp [go_sem]) ?_
                          exact hK _ w' (fun h => by cases h) (keep_same hS) rfl
                        · intro a w' hS hO hF' hP K hK
                          obtain ⟨_, f0, rfl⟩ := (hF' 0 rfl).1 67 _ rfl rfl
                          have hc := hS.2.2.2.1.cell 0
                          refine if_ok (by rfl) ?_
                          refine wp_val (w' := w') (q := (.slice A6 n6 c6)) (by unfold execOp; simp only [ev f0]; simp [go_sem, hc]) ?_
                          exact hK _ w' (fun h => by cases h) (keep_same hS) rfl
                        · intro a w' hS hO hF' hP K hK
                          obtain ⟨_, f0, rfl⟩ := (hF' 1 rfl).1 68 _ rfl rfl
                          refine if_ok (by rfl) ?_
                          refine wp_len _ rfl (ev f0) ?_
                          exact hK _ w' (fun h => by cases h) (keep_same hS) rfl
                        · intro a w' hS hO hF' hP K hK
                          have ha := hO 3 (by rfl)
                          refine if_ok (by rfl) ?_
                          refine wp_load_row 24 (.tmp 3) rfl (w.heap.size + 1) (ev ha) _ _ (0, 0) _ hS.2.1 Tryz.underlying24 rfl (by kernel_rfl) ?_
                          exact hK _ w' (fun h => by cases h) (keep_same hS) rfl
                        · intro a w' hS hO hF' hP K hK
                          obtain ⟨_, f0, rfl⟩ := (hF' 3 rfl).1 70 _ rfl rfl
                          refine if_ok (by rfl) ?_
                          refine wp_calls rfl (enters_of Tryz.func31 (by kernel_rfl) rfl) (args := #[(.agg #[.slice A1 n1 c1, .bool s1])]) (by simp [Act.eval, f0]) ?_
                          obtain ⟨O2, O3, O5, O6, r0, r1, r5, r6, OR, O8, TT, BB⟩ := id hS
                          apply Calls.mono
                          exact KB.out _ r1
                          rintro e w2 ⟨rfl, hb⟩
                          exact ⟨_, rfl, hK _ w2 (fun h => by cases h) (keep_below hb hS) rfl⟩
                        · intro a w' hS hO hF' hP K hK
                          obtain ⟨_, f0, rfl⟩ := (hF' 4 rfl).1 71 _ rfl rfl
                          refine if_ok (by rfl) ?_
                          refine wp_not _ rfl (ev f0) ?_
                          exact hK _ w' (fun h => by cases h) (keep_same hS) rfl
                        · intro a w' hS hO hF' hP K hK
                          obtain ⟨_, f0, rfl⟩ := (hF' 2 rfl).1 69 _ rfl rfl
                          refine if_ok (by rfl) ?_
                          unfold Oper.wp execOp
                          simp only [Sem.run_pure, ev f0]
                          exact hK _ w' (fun h => by cases h) (keep_same hS) rfl
                        · intro a w' hS hO hF' hP K hK
                          obtain ⟨_, f0, rfl⟩ := (hF' 5 rfl).1 72 _ rfl rfl
                          refine if_ok (by rfl) ?_
                          unfold Oper.wp execOp
                          simp only [Sem.run_pure, ev f0]
                          exact hK _ w' (fun h => by cases h) (keep_same hS) rfl
                      · intro vs u hl hS hV
                        match vs, hl, hV with
                        | [v0, v1, v2, v3, v4, v5, v6, v7], _, hV =>
                          obtain rfl := hV 0 _ rfl
                          obtain rfl := hV 1 _ rfl
                          obtain rfl := hV 2 _ rfl
                          obtain rfl := hV 3 _ rfl
                          obtain rfl := hV 4 _ rfl
                          obtain rfl := hV 5 _ rfl
                          obtain rfl := hV 6 _ rfl
                          obtain rfl := hV 7 _ rfl
                          simp only [puts, Act.put, List.setIfInBounds_toArray, List.set_cons_zero, List.set_cons_succ]
                          obtain ⟨O2, O3, O5, O6, r0, r1, r5, r6, OR, O8, TT, BB⟩ := hS
                          clear hV
                          replace O2 : Own u w.heap.size 24 #[.slice A0 n0 c0, .bool s0] := O2
                          replace O3 : Own u (w.heap.size + 1) 24 #[.slice A1 n1 c1, .bool s1] := O3
                          replace O5 : Own u g5 24 #[.slice A5 n5 c5, .bool (condV (⟨ofL ⟨#[49]⟩, false⟩ : V) (⟨l0, s0⟩ : V) (⟨l1, s1⟩ : V)).s] := O5
                          replace O6 : Own u g6 24 #[.slice A6 n6 c6, .bool (nrm (⟨l0, s0⟩ : V)).s] := O6
                          replace r0 : Rb u A0 n0 l0 := r0
                          replace r1 : Rb u A1 n1 l1 := r1
                          replace r5 : Rb u A5 n5 (condV (⟨ofL ⟨#[49]⟩, false⟩ : V) (⟨l0, s0⟩ : V) (⟨l1, s1⟩ : V)).l := r5
                          replace r6 : Rb u A6 n6 (nrm (⟨l0, s0⟩ : V)).l := r6
                          replace OR : Own u gT 39 twoRow := OR
                          replace O8 : Own u wr.heap.size 39 #[.int .u8 (twoOp i), .func (.func (twoFn i)) #[] #[]] := O8
                          replace TT : Tabs u := TT
                          replace BB : Below w.heap.size w u := BB
                          replace BB := Lib.hid BB
                          replace OR : Own u gT 39 twoRow := OR
                          replace O8 : Own u wr.heap.size 39 #[.int .u8 (twoOp i), .func (.func (twoFn i)) #[] #[]] := O8
                          rw [e8.out] at O8
                          have q20 := O2.cell 0
                          have q21 := O2.cell 1
                          have q30 := O3.cell 0
                          have q31 := O3.cell 1
                          have q50 := O5.cell 0
                          have q51 := O5.cell 1
                          have q60 := O6.cell 0
                          have q61 := O6.cell 1
                          have q80 := O8.cell 0
                          have q81 := O8.cell 1
                          go_wp2_with (first | ((with_reducible refine (HF.out _ _ _ _ _ _ _ _ _ _ _ r0 r1 hc0 hc1 TT).mono ?_); rintro e w9 ⟨A9, n9, c9, rfl, hc9, hn9, hv, hb⟩; have kb := hb; (try replace O2 := O2.step kb); (try replace O3 := O3.step kb); (try replace O5 := O5.step kb); (try replace O6 := O6.step kb); (try replace r0 := r0.step kb); (try replace r1 := r1.step kb); (try replace r5 := r5.step kb); (try replace r6 := r6.step kb); (try replace OR := OR.step kb); (try replace O8 := O8.step kb); (try replace TT := TT.step kb); replace BB := Lib.hid (below_step BB.out kb); replace O2 := O2.alloc (.cells #[.slice A9 n9 c9, .bool (twoV i (⟨l0, s0⟩ : V) (⟨l1, s1⟩ : V)).s] 24); replace O3 := O3.alloc (.cells #[.slice A9 n9 c9, .bool (twoV i (⟨l0, s0⟩ : V) (⟨l1, s1⟩ : V)).s] 24); replace O5 := O5.alloc (.cells #[.slice A9 n9 c9, .bool (twoV i (⟨l0, s0⟩ : V) (⟨l1, s1⟩ : V)).s] 24); replace O6 := O6.alloc (.cells #[.slice A9 n9 c9, .bool (twoV i (⟨l0, s0⟩ : V) (⟨l1, s1⟩ : V)).s] 24); replace r0 := r0.alloc (.cells #[.slice A9 n9 c9, .bool (twoV i (⟨l0, s0⟩ : V) (⟨l1, s1⟩ : V)).s] 24); replace r1 := r1.alloc (.cells #[.slice A9 n9 c9, .bool (twoV i (⟨l0, s0⟩ : V) (⟨l1, s1⟩ : V)).s] 24); replace r5 := r5.alloc (.cells #[.slice A9 n9 c9, .bool (twoV i (⟨l0, s0⟩ : V) (⟨l1, s1⟩ : V)).s] 24); replace r6 := r6.alloc (.cells #[.slice A9 n9 c9, .bool (twoV i (⟨l0, s0⟩ : V) (⟨l1, s1⟩ : V)).s] 24); replace OR := OR.alloc (.cells #[.slice A9 n9 c9, .bool (twoV i (⟨l0, s0⟩ : V) (⟨l1, s1⟩ : V)).s] 24); replace O8 := O8.alloc (.cells #[.slice A9 n9 c9, .bool (twoV i (⟨l0, s0⟩ : V) (⟨l1, s1⟩ : V)).s] 24); replace TT := TT.alloc (.cells #[.slice A9 n9 c9, .bool (twoV i (⟨l0, s0⟩ : V) (⟨l1, s1⟩ : V)).s] 24); replace BB := Lib.hid (below_new BB.out (.cells #[.slice A9 n9 c9, .bool (twoV i (⟨l0, s0⟩ : V) (⟨l1, s1⟩ : V)).s] 24)); have O11 := Own.new w9 24 #[.slice A9 n9 c9, .bool (twoV i (⟨l0, s0⟩ : V) (⟨l1, s1⟩ : V)).s]; have r9 := hv.rd.alloc (.cells #[.slice A9 n9 c9, .bool (twoV i (⟨l0, s0⟩ : V) (⟨l1, s1⟩ : V)).s] 24); have q110 := O11.cell 0; have q111 := O11.cell 1; clear hb kb hv))
                          go_roundw
                          case rel => exact ⟨i + 1, by omega, by go_num, Lib.hid O2, Lib.hid O3, Lib.hid O5, Lib.hid O6, Lib.hid r0, Lib.hid r1, Lib.hid r5, Lib.hid r6, Lib.hid OR, Lib.hid TT, BB⟩
                          case measure => simp [intOf]; omega
              · have KA := Lib.hid (fun (u : World) (h : Rb u A0 n0 l0) => known_b (p := true) A0 n0 c0 s0 l0 u h hkA); replace hkA := Lib.hid hkA
                cases hkB : kn (⟨l1, s1⟩ : V)
                · have KB := Lib.hid (fun (u : World) (h : Rb u A1 n1 l1) => known_b (p := false) A1 n1 c1 s1 l1 u h hkB); replace hkB := Lib.hid hkB
                  rcases hg with hi0 | hi0 | hi0 | hi0
                  all_goals (replace ho := ho.out; have ho0 := ho; rw [hi0] at ho; simp only [twoOp, List.getD_cons_zero, List.getD_cons_succ] at ho; have e8 := Lib.hid (ho0.symm.trans ho); clear ho0; subst ho; replace hi0 := Lib.hid hi0)
                  all_goals
                    as_aux_lemma =>
                      go_wp2_with (go_at_call 31; first | ((with_reducible refine (KA.out _ r0).mono ?_); rintro e wk ⟨rfl, hb⟩; have kb := hb; (try replace O2 := O2.step kb); (try replace O3 := O3.step kb); (try replace O5 := O5.step kb); (try replace O6 := O6.step kb); (try replace r0 := r0.step kb); (try replace r1 := r1.step kb); (try replace r5 := r5.step kb); (try replace r6 := r6.step kb); (try replace OR := OR.step kb); (try replace O8 := O8.step kb); (try replace TT := TT.step kb); replace BB := Lib.hid (below_step BB.out kb); (try clear q20 q21); (try (have q20 := O2.cell 0; have q21 := O2.cell 1)); (try clear q30 q31); (try (have q30 := O3.cell 0; have q31 := O3.cell 1)); (try clear q50 q51); (try (have q50 := O5.cell 0; have q51 := O5.cell 1)); (try clear q60 q61); (try (have q60 := O6.cell 0; have q61 := O6.cell 1)); (try clear q80 q81); (try (have q80 := O8.cell 0; have q81 := O8.cell 1))) | ((with_reducible refine (KB.out _ r1).mono ?_); rintro e wk ⟨rfl, hb⟩; have kb := hb; (try replace O2 := O2.step kb); (try replace O3 := O3.step kb); (try replace O5 := O5.step kb); (try replace O6 := O6.step kb); (try replace r0 := r0.step kb); (try replace r1 := r1.step kb); (try replace r5 := r5.step kb); (try replace r6 := r6.step kb); (try replace OR := OR.step kb); (try replace O8 := O8.step kb); (try replace TT := TT.step kb); replace BB := Lib.hid (below_step BB.out kb); (try clear q20 q21); (try (have q20 := O2.cell 0; have q21 := O2.cell 1)); (try clear q30 q31); (try (have q30 := O3.cell 0; have q31 := O3.cell 1)); (try clear q50 q51); (try (have q50 := O5.cell 0; have q51 := O5.cell 1)); (try clear q60 q61); (try (have q60 := O6.cell 0; have q61 := O6.cell 1)); (try clear q80 q81); (try (have q80 := O8.cell 0; have q81 := O8.cell 1))))
                      rw [← e8.out] at O8
                      refine region_y (by kernel_rfl) (fun u => owns w.heap.size #[.slice A0 n0 c0, .bool s0] u ∧ (owns (w.heap.size + 1) #[.slice A1 n1 c1, .bool s1] u ∧ (owns g5 #[.slice A5 n5 c5, .bool (condV (⟨ofL ⟨#[49]⟩, false⟩ : V) (⟨l0, s0⟩ : V) (⟨l1, s1⟩ : V)).s] u ∧ (owns g6 #[.slice A6 n6 c6, .bool (nrm (⟨l0, s0⟩ : V)).s] u ∧ (rds A0 n0 l0 u ∧ (rds A1 n1 l1 u ∧ (rds A5 n5 (condV (⟨ofL ⟨#[49]⟩, false⟩ : V) (⟨l0, s0⟩ : V) (⟨l1, s1⟩ : V)).l u ∧ (rds A6 n6 (nrm (⟨l0, s0⟩ : V)).l u ∧ (ownT gT 39 twoRow u ∧ (ownT wr.heap.size 39 #[.int .u8 (twoOp i), .func (.func (twoFn i)) #[] #[]] u ∧ (tbs u ∧ blw w u))))))))))) [] [isV (.pointer (some ⟨g6, 0, none⟩)), isV ((.slice A6 n6 c6)), isV (.int .i64 n6), isV (.agg #[.slice A1 n1 c1, .bool s1]), isV (.bool false), isV (.bool true), isV (.int .i64 n6), isV (.bool true)] [some 67, some 68, some 69, some 70, some 71, some 72, some 9, some 10] [[], [0], [1], [], [3], [4], [2, 4, 0, 1, 2], [5, 6, 0, 1, 2, 3, 4, 5, 6]] (by kernel_rfl) (by kernel_rfl) rfl (by kernel_rfl) (by kernel_rfl) (by kernel_rfl) ⟨O2.drew, O3.drew, O5.drew, O6.drew, r0.drew, r1.drew, r5.drew, r6.drew, OR.drew, O8.drew, TT.drew, below_drew BB.out⟩ (fun _ h => by cases h) ?_ ?_
                      · refine ⟨?_, ?_, ?_, ?_, ?_, ?_, ?_, ?_, trivial⟩
                        · intro a w' hS hO hF' hP K hK
                          have ha := hO 6 (by rfl)
                          refine if_ok (by rfl) ?_
                          refine wp_val (w' := w') (q := .pointer (some ⟨g6, 0, none⟩)) (by unfold execOp; simp only [ev ha]; simp [go_sem]) ?_
                          exact hK _ w' (fun h => by cases h) (keep_same hS) rfl
                        · intro a w' hS hO hF' hP K hK
                          obtain ⟨_, f0, rfl⟩ := (hF' 0 rfl).1 67 _ rfl rfl
                          have hc := hS.2.2.2.1.cell 0
                          refine if_ok (by rfl) ?_
                          refine wp_val (w' := w') (q := (.slice A6 n6 c6)) (by unfold execOp; simp only [ev f0]; simp [go_sem, hc]) ?_
                          exact hK _ w' (fun h => by cases h) (keep_same hS) rfl
                        · intro a w' hS hO hF' hP K hK
                          obtain ⟨_, f0, rfl⟩ := (hF' 1 rfl).1 68 _ rfl rfl
                          refine if_ok (by rfl) ?_
                          refine wp_len _ rfl (ev f0) ?_
                          exact hK _ w' (fun h => by cases h) (keep_same hS) rfl
                        · intro a w' hS hO hF' hP K hK
                          have ha := hO 3 (by rfl)
                          refine if_ok (by rfl) ?_
                          refine wp_load_row 24 (.tmp 3) rfl (w.heap.size + 1) (ev ha) _ _ (0, 0) _ hS.2.1 Tryz.underlying24 rfl (by kernel_rfl) ?_
                          exact hK _ w' (fun h => by cases h) (keep_same hS) rfl
                        · intro a w' hS hO hF' hP K hK
                          obtain ⟨_, f0, rfl⟩ := (hF' 3 rfl).1 70 _ rfl rfl
                          refine if_ok (by rfl) ?_
                          refine wp_calls rfl (enters_of Tryz.func31 (by kernel_rfl) rfl) (args := #[(.agg #[.slice A1 n1 c1, .bool s1])]) (by simp [Act.eval, f0]) ?_
                          obtain ⟨O2, O3, O5, O6, r0, r1, r5, r6, OR, O8, TT, BB⟩ := id hS
                          apply Calls.mono
                          exact KB.out _ r1
                          rintro e w2 ⟨rfl, hb⟩
                          exact ⟨_, rfl, hK _ w2 (fun h => by cases h) (keep_below hb hS) rfl⟩
                        · intro a w' hS hO hF' hP K hK
                          obtain ⟨_, f0, rfl⟩ := (hF' 4 rfl).1 71 _ rfl rfl
                          refine if_ok (by rfl) ?_
                          refine wp_not _ rfl (ev f0) ?_
                          exact hK _ w' (fun h => by cases h) (keep_same hS) rfl
                        · intro a w' hS hO hF' hP K hK
                          obtain ⟨_, f0, rfl⟩ := (hF' 2 rfl).1 69 _ rfl rfl
                          refine if_ok (by rfl) ?_
                          unfold Oper.wp execOp
                          simp only [Sem.run_pure, ev f0]
                          exact hK _ w' (fun h => by cases h) (keep_same hS) rfl
                        · intro a w' hS hO hF' hP K hK
                          obtain ⟨_, f0, rfl⟩ := (hF' 5 rfl).1 72 _ rfl rfl
                          refine if_ok (by rfl) ?_
                          unfold Oper.wp execOp
                          simp only [Sem.run_pure, ev f0]
                          exact hK _ w' (fun h => by cases h) (keep_same hS) rfl
                      · intro vs u hl hS hV
                        match vs, hl, hV with
                        | [v0, v1, v2, v3, v4, v5, v6, v7], _, hV =>
                          obtain rfl := hV 0 _ rfl
                          obtain rfl := hV 1 _ rfl
                          obtain rfl := hV 2 _ rfl
                          obtain rfl := hV 3 _ rfl
                          obtain rfl := hV 4 _ rfl
                          obtain rfl := hV 5 _ rfl
                          obtain rfl := hV 6 _ rfl
                          obtain rfl := hV 7 _ rfl
                          simp only [puts, Act.put, List.setIfInBounds_toArray, List.set_cons_zero, List.set_cons_succ]
                          obtain ⟨O2, O3, O5, O6, r0, r1, r5, r6, OR, O8, TT, BB⟩ := hS
                          clear hV
                          replace O2 : Own u w.heap.size 24 #[.slice A0 n0 c0, .bool s0] := O2
                          replace O3 : Own u (w.heap.size + 1) 24 #[.slice A1 n1 c1, .bool s1] := O3
                          replace O5 : Own u g5 24 #[.slice A5 n5 c5, .bool (condV (⟨ofL ⟨#[49]⟩, false⟩ : V) (⟨l0, s0⟩ : V) (⟨l1, s1⟩ : V)).s] := O5
                          replace O6 : Own u g6 24 #[.slice A6 n6 c6, .bool (nrm (⟨l0, s0⟩ : V)).s] := O6
                          replace r0 : Rb u A0 n0 l0 := r0
                          replace r1 : Rb u A1 n1 l1 := r1
                          replace r5 : Rb u A5 n5 (condV (⟨ofL ⟨#[49]⟩, false⟩ : V) (⟨l0, s0⟩ : V) (⟨l1, s1⟩ : V)).l := r5
                          replace r6 : Rb u A6 n6 (nrm (⟨l0, s0⟩ : V)).l := r6
                          replace OR : Own u gT 39 twoRow := OR
                          replace O8 : Own u wr.heap.size 39 #[.int .u8 (twoOp i), .func (.func (twoFn i)) #[] #[]] := O8
                          replace TT : Tabs u := TT
                          replace BB : Below w.heap.size w u := BB
                          replace BB := Lib.hid BB
                          replace OR : Own u gT 39 twoRow := OR
                          replace O8 : Own u wr.heap.size 39 #[.int .u8 (twoOp i), .func (.func (twoFn i)) #[] #[]] := O8
                          rw [e8.out] at O8
                          have q20 := O2.cell 0
                          have q21 := O2.cell 1
                          have q30 := O3.cell 0
                          have q31 := O3.cell 1
                          have q50 := O5.cell 0
                          have q51 := O5.cell 1
                          have q60 := O6.cell 0
                          have q61 := O6.cell 1
                          have q80 := O8.cell 0
                          have q81 := O8.cell 1
                          go_wp2_with (first | ((with_reducible refine (HF.out _ _ _ _ _ _ _ _ _ _ _ r0 r1 hc0 hc1 TT).mono ?_); rintro e w9 ⟨A9, n9, c9, rfl, hc9, hn9, hv, hb⟩; have kb := hb; (try replace O2 := O2.step kb); (try replace O3 := O3.step kb); (try replace O5 := O5.step kb); (try replace O6 := O6.step kb); (try replace r0 := r0.step kb); (try replace r1 := r1.step kb); (try replace r5 := r5.step kb); (try replace r6 := r6.step kb); (try replace OR := OR.step kb); (try replace O8 := O8.step kb); (try replace TT := TT.step kb); replace BB := Lib.hid (below_step BB.out kb); replace O2 := O2.alloc (.cells #[.slice A9 n9 c9, .bool (twoV i (⟨l0, s0⟩ : V) (⟨l1, s1⟩ : V)).s] 24); replace O3 := O3.alloc (.cells #[.slice A9 n9 c9, .bool (twoV i (⟨l0, s0⟩ : V) (⟨l1, s1⟩ : V)).s] 24); replace O5 := O5.alloc (.cells #[.slice A9 n9 c9, .bool (twoV i (⟨l0, s0⟩ : V) (⟨l1, s1⟩ : V)).s] 24); replace O6 := O6.alloc (.cells #[.slice A9 n9 c9, .bool (twoV i (⟨l0, s0⟩ : V) (⟨l1, s1⟩ : V)).s] 24); replace r0 := r0.alloc (.cells #[.slice A9 n9 c9, .bool (twoV i (⟨l0, s0⟩ : V) (⟨l1, s1⟩ : V)).s] 24); replace r1 := r1.alloc (.cells #[.slice A9 n9 c9, .bool (twoV i (⟨l0, s0⟩ : V) (⟨l1, s1⟩ : V)).s] 24); replace r5 := r5.alloc (.cells #[.slice A9 n9 c9, .bool (twoV i (⟨l0, s0⟩ : V) (⟨l1, s1⟩ : V)).s] 24); replace r6 := r6.alloc (.cells #[.slice A9 n9 c9, .bool (twoV i (⟨l0, s0⟩ : V) (⟨l1, s1⟩ : V)).s] 24); replace OR := OR.alloc (.cells #[.slice A9 n9 c9, .bool (twoV i (⟨l0, s0⟩ : V) (⟨l1, s1⟩ : V)).s] 24); replace O8 := O8.alloc (.cells #[.slice A9 n9 c9, .bool (twoV i (⟨l0, s0⟩ : V) (⟨l1, s1⟩ : V)).s] 24); replace TT := TT.alloc (.cells #[.slice A9 n9 c9, .bool (twoV i (⟨l0, s0⟩ : V) (⟨l1, s1⟩ : V)).s] 24); replace BB := Lib.hid (below_new BB.out (.cells #[.slice A9 n9 c9, .bool (twoV i (⟨l0, s0⟩ : V) (⟨l1, s1⟩ : V)).s] 24)); have O11 := Own.new w9 24 #[.slice A9 n9 c9, .bool (twoV i (⟨l0, s0⟩ : V) (⟨l1, s1⟩ : V)).s]; have r9 := hv.rd.alloc (.cells #[.slice A9 n9 c9, .bool (twoV i (⟨l0, s0⟩ : V) (⟨l1, s1⟩ : V)).s] 24); have q110 := O11.cell 0; have q111 := O11.cell 1; clear hb kb hv) | (go_at_call 26; apply Calls.mono; (with_reducible apply withSign_any_w); (repeat (first | assumption | (with_reducible (apply Nb.rd; assumption)) | (with_reducible (apply Rb.at_later; assumption)) | (with_reducible (apply Tabs.at_later; assumption)) | (with_reducible apply Rb.alloc) | (with_reducible apply Tabs.alloc) | (with_reducible apply Rb.drew) | (with_reducible apply Tabs.drew) | (show I64 _; unfold I64; omega) | omega)); rintro e wn ⟨A, n, c, rfl, hc, hn, hv, hb⟩; have kb := hb; (try replace O2 := O2.step kb); (try replace O3 := O3.step kb); (try replace O5 := O5.step kb); (try replace O6 := O6.step kb); (try replace r0 := r0.step kb); (try replace r1 := r1.step kb); (try replace r5 := r5.step kb); (try replace r6 := r6.step kb); (try replace r9 := r9.step kb); (try replace OR := OR.step kb); (try replace O8 := O8.step kb); (try replace TT := TT.step kb); replace BB := Lib.hid (below_step BB.out kb); have rW := Nb.rd hv; have nW := hn; clear hv) | (go_at_call 53; apply Calls.mono; (with_reducible apply rFill_w); (repeat (first | assumption | (with_reducible (apply Nb.rd; assumption)) | (with_reducible (apply Rb.at_later; assumption)) | (with_reducible (apply Tabs.at_later; assumption)) | (with_reducible apply Rb.alloc) | (with_reducible apply Tabs.alloc) | (with_reducible apply Rb.drew) | (with_reducible apply Tabs.drew) | (show I64 _; unfold I64; omega) | omega)); rintro e wn ⟨A, n, c, rfl, hc, hn, hv, hb⟩; have kb := hb; (try replace O2 := O2.step kb); (try replace O3 := O3.step kb); (try replace O5 := O5.step kb); (try replace O6 := O6.step kb); (try replace r0 := r0.step kb); (try replace r1 := r1.step kb); (try replace r5 := r5.step kb); (try replace r6 := r6.step kb); (try replace r9 := r9.step kb); (try replace OR := OR.step kb); (try replace O8 := O8.step kb); (try replace TT := TT.step kb); replace BB := Lib.hid (below_step BB.out kb); replace rW := rW.step kb) | (go_at_call 16; refine (same_t _ _ _ _ _ _ _ _ _ _ _ rW (Nb.rd hv) nW hn (unk_s (by have := hi0.out; omega) hkB.out hN6.out)).mono ?_; rintro e wn ⟨rfl, hb⟩; have kb := hb; (try replace O2 := O2.step kb); (try replace O3 := O3.step kb); (try replace O5 := O5.step kb); (try replace O6 := O6.step kb); (try replace r0 := r0.step kb); (try replace r1 := r1.step kb); (try replace r5 := r5.step kb); (try replace r6 := r6.step kb); (try replace r9 := r9.step kb); (try replace OR := OR.step kb); (try replace O8 := O8.step kb); (try replace TT := TT.step kb); replace BB := Lib.hid (below_step BB.out kb)))
                          go_roundw
                          case rel => exact ⟨i + 1, by omega, by go_num, Lib.hid O2, Lib.hid O3, Lib.hid O5, Lib.hid O6, Lib.hid r0, Lib.hid r1, Lib.hid r5, Lib.hid r6, Lib.hid OR, Lib.hid TT, BB⟩
                          case measure => simp [intOf]; omega
                · have KB := Lib.hid (fun (u : World) (h : Rb u A1 n1 l1) => known_b (p := true) A1 n1 c1 s1 l1 u h hkB); replace hkB := Lib.hid hkB
                  rcases hg with hi0 | hi0 | hi0 | hi0
                  all_goals (replace ho := ho.out; have ho0 := ho; rw [hi0] at ho; simp only [twoOp, List.getD_cons_zero, List.getD_cons_succ] at ho; have e8 := Lib.hid (ho0.symm.trans ho); clear ho0; subst ho; replace hi0 := Lib.hid hi0)
                  all_goals
                    as_aux_lemma =>
                      go_wp2_with (go_at_call 31; first | ((with_reducible refine (KA.out _ r0).mono ?_); rintro e wk ⟨rfl, hb⟩; have kb := hb; (try replace O2 := O2.step kb); (try replace O3 := O3.step kb); (try replace O5 := O5.step kb); (try replace O6 := O6.step kb); (try replace r0 := r0.step kb); (try replace r1 := r1.step kb); (try replace r5 := r5.step kb); (try replace r6 := r6.step kb); (try replace OR := OR.step kb); (try replace O8 := O8.step kb); (try replace TT := TT.step kb); replace BB := Lib.hid (below_step BB.out kb); (try clear q20 q21); (try (have q20 := O2.cell 0; have q21 := O2.cell 1)); (try clear q30 q31); (try (have q30 := O3.cell 0; have q31 := O3.cell 1)); (try clear q50 q51); (try (have q50 := O5.cell 0; have q51 := O5.cell 1)); (try clear q60 q61); (try (have q60 := O6.cell 0; have q61 := O6.cell 1)); (try clear q80 q81); (try (have q80 := O8.cell 0; have q81 := O8.cell 1))) | ((with_reducible refine (KB.out _ r1).mono ?_); rintro e wk ⟨rfl, hb⟩; have kb := hb; (try replace O2 := O2.step kb); (try replace O3 := O3.step kb); (try replace O5 := O5.step kb); (try replace O6 := O6.step kb); (try replace r0 := r0.step kb); (try replace r1 := r1.step kb); (try replace r5 := r5.step kb); (try replace r6 := r6.step kb); (try replace OR := OR.step kb); (try replace O8 := O8.step kb); (try replace TT := TT.step kb); replace BB := Lib.hid (below_step BB.out kb); (try clear q20 q21); (try (have q20 := O2.cell 0; have q21 := O2.cell 1)); (try clear q30 q31); (try (have q30 := O3.cell 0; have q31 := O3.cell 1)); (try clear q50 q51); (try (have q50 := O5.cell 0; have q51 := O5.cell 1)); (try clear q60 q61); (try (have q60 := O6.cell 0; have q61 := O6.cell 1)); (try clear q80 q81); (try (have q80 := O8.cell 0; have q81 := O8.cell 1))))
                      rw [← e8.out] at O8
                      refine region_y (by kernel_rfl) (fun u => owns w.heap.size #[.slice A0 n0 c0, .bool s0] u ∧ (owns (w.heap.size + 1) #[.slice A1 n1 c1, .bool s1] u ∧ (owns g5 #[.slice A5 n5 c5, .bool (condV (⟨ofL ⟨#[49]⟩, false⟩ : V) (⟨l0, s0⟩ : V) (⟨l1, s1⟩ : V)).s] u ∧ (owns g6 #[.slice A6 n6 c6, .bool (nrm (⟨l0, s0⟩ : V)).s] u ∧ (rds A0 n0 l0 u ∧ (rds A1 n1 l1 u ∧ (rds A5 n5 (condV (⟨ofL ⟨#[49]⟩, false⟩ : V) (⟨l0, s0⟩ : V) (⟨l1, s1⟩ : V)).l u ∧ (rds A6 n6 (nrm (⟨l0, s0⟩ : V)).l u ∧ (ownT gT 39 twoRow u ∧ (ownT wr.heap.size 39 #[.int .u8 (twoOp i), .func (.func (twoFn i)) #[] #[]] u ∧ (tbs u ∧ blw w u))))))))))) [] [isV (.pointer (some ⟨g6, 0, none⟩)), isV ((.slice A6 n6 c6)), isV (.int .i64 n6), isV (.agg #[.slice A1 n1 c1, .bool s1]), isV (.bool true), isV (.bool false), isV (.int .i64 n6), isV (.bool false)] [some 67, some 68, some 69, some 70, some 71, some 72, some 9, some 10] [[], [0], [1], [], [3], [4], [2, 4, 0, 1, 2], [5, 6, 0, 1, 2, 3, 4, 5, 6]] (by kernel_rfl) (by kernel_rfl) rfl (by kernel_rfl) (by kernel_rfl) (by kernel_rfl) ⟨O2.drew, O3.drew, O5.drew, O6.drew, r0.drew, r1.drew, r5.drew, r6.drew, OR.drew, O8.drew, TT.drew, below_drew BB.out⟩ (fun _ h => by cases h) ?_ ?_
                      · refine ⟨?_, ?_, ?_, ?_, ?_, ?_, ?_, ?_, trivial⟩
                        · intro a w' hS hO hF' hP K hK
                          have ha := hO 6 (by rfl)
                          refine if_ok (by rfl) ?_
                          refine wp_val (w' := w') (q := .pointer (some ⟨g6, 0, none⟩)) (by unfold execOp; simp only [ev ha]; simp [go_sem]) ?_
                          exact hK _ w' (fun h => by cases h) (keep_same hS) rfl
                        · intro a w' hS hO hF' hP K hK
                          obtain ⟨_, f0, rfl⟩ := (hF' 0 rfl).1 67 _ rfl rfl
                          have hc := hS.2.2.2.1.cell 0
                          refine if_ok (by rfl) ?_
                          refine wp_val (w' := w') (q := (.slice A6 n6 c6)) (by unfold execOp; simp only [ev f0]; simp [go_sem, hc]) ?_
                          exact hK _ w' (fun h => by cases h) (keep_same hS) rfl
                        · intro a w' hS hO hF' hP K hK
                          obtain ⟨_, f0, rfl⟩ := (hF' 1 rfl).1 68 _ rfl rfl
                          refine if_ok (by rfl) ?_
                          refine wp_len _ rfl (ev f0) ?_
                          exact hK _ w' (fun h => by cases h) (keep_same hS) rfl
                        · intro a w' hS hO hF' hP K hK
                          have ha := hO 3 (by rfl)
                          refine if_ok (by rfl) ?_
                          refine wp_load_row 24 (.tmp 3) rfl (w.heap.size + 1) (ev ha) _ _ (0, 0) _ hS.2.1 Tryz.underlying24 rfl (by kernel_rfl) ?_
                          exact hK _ w' (fun h => by cases h) (keep_same hS) rfl
                        · intro a w' hS hO hF' hP K hK
                          obtain ⟨_, f0, rfl⟩ := (hF' 3 rfl).1 70 _ rfl rfl
                          refine if_ok (by rfl) ?_
                          refine wp_calls rfl (enters_of Tryz.func31 (by kernel_rfl) rfl) (args := #[(.agg #[.slice A1 n1 c1, .bool s1])]) (by simp [Act.eval, f0]) ?_
                          obtain ⟨O2, O3, O5, O6, r0, r1, r5, r6, OR, O8, TT, BB⟩ := id hS
                          apply Calls.mono
                          exact KB.out _ r1
                          rintro e w2 ⟨rfl, hb⟩
                          exact ⟨_, rfl, hK _ w2 (fun h => by cases h) (keep_below hb hS) rfl⟩
                        · intro a w' hS hO hF' hP K hK
                          obtain ⟨_, f0, rfl⟩ := (hF' 4 rfl).1 71 _ rfl rfl
                          refine if_ok (by rfl) ?_
                          refine wp_not _ rfl (ev f0) ?_
                          exact hK _ w' (fun h => by cases h) (keep_same hS) rfl
                        · intro a w' hS hO hF' hP K hK
                          obtain ⟨_, f0, rfl⟩ := (hF' 2 rfl).1 69 _ rfl rfl
                          refine if_ok (by rfl) ?_
                          unfold Oper.wp execOp
                          simp only [Sem.run_pure, ev f0]
                          exact hK _ w' (fun h => by cases h) (keep_same hS) rfl
                        · intro a w' hS hO hF' hP K hK
                          obtain ⟨_, f0, rfl⟩ := (hF' 5 rfl).1 72 _ rfl rfl
                          refine if_ok (by rfl) ?_
                          unfold Oper.wp execOp
                          simp only [Sem.run_pure, ev f0]
                          exact hK _ w' (fun h => by cases h) (keep_same hS) rfl
                      · intro vs u hl hS hV
                        match vs, hl, hV with
                        | [v0, v1, v2, v3, v4, v5, v6, v7], _, hV =>
                          obtain rfl := hV 0 _ rfl
                          obtain rfl := hV 1 _ rfl
                          obtain rfl := hV 2 _ rfl
                          obtain rfl := hV 3 _ rfl
                          obtain rfl := hV 4 _ rfl
                          obtain rfl := hV 5 _ rfl
                          obtain rfl := hV 6 _ rfl
                          obtain rfl := hV 7 _ rfl
                          simp only [puts, Act.put, List.setIfInBounds_toArray, List.set_cons_zero, List.set_cons_succ]
                          obtain ⟨O2, O3, O5, O6, r0, r1, r5, r6, OR, O8, TT, BB⟩ := hS
                          clear hV
                          replace O2 : Own u w.heap.size 24 #[.slice A0 n0 c0, .bool s0] := O2
                          replace O3 : Own u (w.heap.size + 1) 24 #[.slice A1 n1 c1, .bool s1] := O3
                          replace O5 : Own u g5 24 #[.slice A5 n5 c5, .bool (condV (⟨ofL ⟨#[49]⟩, false⟩ : V) (⟨l0, s0⟩ : V) (⟨l1, s1⟩ : V)).s] := O5
                          replace O6 : Own u g6 24 #[.slice A6 n6 c6, .bool (nrm (⟨l0, s0⟩ : V)).s] := O6
                          replace r0 : Rb u A0 n0 l0 := r0
                          replace r1 : Rb u A1 n1 l1 := r1
                          replace r5 : Rb u A5 n5 (condV (⟨ofL ⟨#[49]⟩, false⟩ : V) (⟨l0, s0⟩ : V) (⟨l1, s1⟩ : V)).l := r5
                          replace r6 : Rb u A6 n6 (nrm (⟨l0, s0⟩ : V)).l := r6
                          replace OR : Own u gT 39 twoRow := OR
                          replace O8 : Own u wr.heap.size 39 #[.int .u8 (twoOp i), .func (.func (twoFn i)) #[] #[]] := O8
                          replace TT : Tabs u := TT
                          replace BB : Below w.heap.size w u := BB
                          replace BB := Lib.hid BB
                          replace OR : Own u gT 39 twoRow := OR
                          replace O8 : Own u wr.heap.size 39 #[.int .u8 (twoOp i), .func (.func (twoFn i)) #[] #[]] := O8
                          rw [e8.out] at O8
                          have q20 := O2.cell 0
                          have q21 := O2.cell 1
                          have q30 := O3.cell 0
                          have q31 := O3.cell 1
                          have q50 := O5.cell 0
                          have q51 := O5.cell 1
                          have q60 := O6.cell 0
                          have q61 := O6.cell 1
                          have q80 := O8.cell 0
                          have q81 := O8.cell 1
                          go_wp2_with (first | ((with_reducible refine (HF.out _ _ _ _ _ _ _ _ _ _ _ r0 r1 hc0 hc1 TT).mono ?_); rintro e w9 ⟨A9, n9, c9, rfl, hc9, hn9, hv, hb⟩; have kb := hb; (try replace O2 := O2.step kb); (try replace O3 := O3.step kb); (try replace O5 := O5.step kb); (try replace O6 := O6.step kb); (try replace r0 := r0.step kb); (try replace r1 := r1.step kb); (try replace r5 := r5.step kb); (try replace r6 := r6.step kb); (try replace OR := OR.step kb); (try replace O8 := O8.step kb); (try replace TT := TT.step kb); replace BB := Lib.hid (below_step BB.out kb); replace O2 := O2.alloc (.cells #[.slice A9 n9 c9, .bool (twoV i (⟨l0, s0⟩ : V) (⟨l1, s1⟩ : V)).s] 24); replace O3 := O3.alloc (.cells #[.slice A9 n9 c9, .bool (twoV i (⟨l0, s0⟩ : V) (⟨l1, s1⟩ : V)).s] 24); replace O5 := O5.alloc (.cells #[.slice A9 n9 c9, .bool (twoV i (⟨l0, s0⟩ : V) (⟨l1, s1⟩ : V)).s] 24); replace O6 := O6.alloc (.cells #[.slice A9 n9 c9, .bool (twoV i (⟨l0, s0⟩ : V) (⟨l1, s1⟩ : V)).s] 24); replace r0 := r0.alloc (.cells #[.slice A9 n9 c9, .bool (twoV i (⟨l0, s0⟩ : V) (⟨l1, s1⟩ : V)).s] 24); replace r1 := r1.alloc (.cells #[.slice A9 n9 c9, .bool (twoV i (⟨l0, s0⟩ : V) (⟨l1, s1⟩ : V)).s] 24); replace r5 := r5.alloc (.cells #[.slice A9 n9 c9, .bool (twoV i (⟨l0, s0⟩ : V) (⟨l1, s1⟩ : V)).s] 24); replace r6 := r6.alloc (.cells #[.slice A9 n9 c9, .bool (twoV i (⟨l0, s0⟩ : V) (⟨l1, s1⟩ : V)).s] 24); replace OR := OR.alloc (.cells #[.slice A9 n9 c9, .bool (twoV i (⟨l0, s0⟩ : V) (⟨l1, s1⟩ : V)).s] 24); replace O8 := O8.alloc (.cells #[.slice A9 n9 c9, .bool (twoV i (⟨l0, s0⟩ : V) (⟨l1, s1⟩ : V)).s] 24); replace TT := TT.alloc (.cells #[.slice A9 n9 c9, .bool (twoV i (⟨l0, s0⟩ : V) (⟨l1, s1⟩ : V)).s] 24); replace BB := Lib.hid (below_new BB.out (.cells #[.slice A9 n9 c9, .bool (twoV i (⟨l0, s0⟩ : V) (⟨l1, s1⟩ : V)).s] 24)); have O11 := Own.new w9 24 #[.slice A9 n9 c9, .bool (twoV i (⟨l0, s0⟩ : V) (⟨l1, s1⟩ : V)).s]; have r9 := hv.rd.alloc (.cells #[.slice A9 n9 c9, .bool (twoV i (⟨l0, s0⟩ : V) (⟨l1, s1⟩ : V)).s] 24); have q110 := O11.cell 0; have q111 := O11.cell 1; clear hb kb hv))
                          go_roundw
                          case rel => exact ⟨i + 1, by omega, by go_num, Lib.hid O2, Lib.hid O3, Lib.hid O5, Lib.hid O6, Lib.hid r0, Lib.hid r1, Lib.hid r5, Lib.hid r6, Lib.hid OR, Lib.hid TT, BB⟩
                          case measure => simp [intOf]; omega
            have hg3 : i = 0 ∨ i = 1 ∨ i = 2 ∨ i = 3 ∨ i = 10 ∨ i = 11 ∨ i = 16 ∨ i = 17 ∨ i = 22 ∨ i = 23 := by omega
            clear hg hg2
            have hg := hg3
            clear hg3
            cases hkA : kn (⟨l0, s0⟩ : V)
            · have KA := Lib.hid (fun (u : World) (h : Rb u A0 n0 l0) => known_b (p := false) A0 n0 c0 s0 l0 u h hkA); replace hkA := Lib.hid hkA
              rcases hg with hi0 | hi0 | hi0 | hi0 | hi0 | hi0 | hi0 | hi0 | hi0 | hi0
              all_goals (replace ho := ho.out; have ho0 := ho; rw [hi0] at ho; simp only [twoOp, List.getD_cons_zero, List.getD_cons_succ] at ho; have e8 := Lib.hid (ho0.symm.trans ho); clear ho0; subst ho; replace hi0 := Lib.hid hi0)
              all_goals
                as_aux_lemma =>
                  go_wp2_with (go_at_call 31; first | ((with_reducible refine (KA.out _ r0).mono ?_); rintro e wk ⟨rfl, hb⟩; have kb := hb; (try replace O2 := O2.step kb); (try replace O3 := O3.step kb); (try replace O5 := O5.step kb); (try replace O6 := O6.step kb); (try replace r0 := r0.step kb); (try replace r1 := r1.step kb); (try replace r5 := r5.step kb); (try replace r6 := r6.step kb); (try replace OR := OR.step kb); (try replace O8 := O8.step kb); (try replace TT := TT.step kb); replace BB := Lib.hid (below_step BB.out kb); (try clear q20 q21); (try (have q20 := O2.cell 0; have q21 := O2.cell 1)); (try clear q30 q31); (try (have q30 := O3.cell 0; have q31 := O3.cell 1)); (try clear q50 q51); (try (have q50 := O5.cell 0; have q51 := O5.cell 1)); (try clear q60 q61); (try (have q60 := O6.cell 0; have q61 := O6.cell 1)); (try clear q80 q81); (try (have q80 := O8.cell 0; have q81 := O8.cell 1))) | ((with_reducible refine (KB.out _ r1).mono ?_); rintro e wk ⟨rfl, hb⟩; have kb := hb; (try replace O2 := O2.step kb); (try replace O3 := O3.step kb); (try replace O5 := O5.step kb); (try replace O6 := O6.step kb); (try replace r0 := r0.step kb); (try replace r1 := r1.step kb); (try replace r5 := r5.step kb); (try replace r6 := r6.step kb); (try replace OR := OR.step kb); (try replace O8 := O8.step kb); (try replace TT := TT.step kb); replace BB := Lib.hid (below_step BB.out kb); (try clear q20 q21); (try (have q20 := O2.cell 0; have q21 := O2.cell 1)); (try clear q30 q31); (try (have q30 := O3.cell 0; have q31 := O3.cell 1)); (try clear q50 q51); (try (have q50 := O5.cell 0; have q51 := O5.cell 1)); (try clear q60 q61); (try (have q60 := O6.cell 0; have q61 := O6.cell 1)); (try clear q80 q81); (try (have q80 := O8.cell 0; have q81 := O8.cell 1))))
                  go_roundw
                  case rel => exact ⟨i + 1, by omega, by go_num, Lib.hid O2, Lib.hid O3, Lib.hid O5, Lib.hid O6, Lib.hid r0, Lib.hid r1, Lib.hid r5, Lib.hid r6, Lib.hid OR, Lib.hid TT, BB⟩
                  case measure => simp [intOf]; omega
            · have KA := Lib.hid (fun (u : World) (h : Rb u A0 n0 l0) => known_b (p := true) A0 n0 c0 s0 l0 u h hkA); replace hkA := Lib.hid hkA
              cases hkB : kn (⟨l1, s1⟩ : V)
              · have KB := Lib.hid (fun (u : World) (h : Rb u A1 n1 l1) => known_b (p := false) A1 n1 c1 s1 l1 u h hkB); replace hkB := Lib.hid hkB
                rcases hg with hi0 | hi0 | hi0 | hi0 | hi0 | hi0 | hi0 | hi0 | hi0 | hi0
                all_goals (replace ho := ho.out; have ho0 := ho; rw [hi0] at ho; simp only [twoOp, List.getD_cons_zero, List.getD_cons_succ] at ho; have e8 := Lib.hid (ho0.symm.trans ho); clear ho0; subst ho; replace hi0 := Lib.hid hi0)
                all_goals
                  as_aux_lemma =>
                    go_wp2_with (go_at_call 31; first | ((with_reducible refine (KA.out _ r0).mono ?_); rintro e wk ⟨rfl, hb⟩; have kb := hb; (try replace O2 := O2.step kb); (try replace O3 := O3.step kb); (try replace O5 := O5.step kb); (try replace O6 := O6.step kb); (try replace r0 := r0.step kb); (try replace r1 := r1.step kb); (try replace r5 := r5.step kb); (try replace r6 := r6.step kb); (try replace OR := OR.step kb); (try replace O8 := O8.step kb); (try replace TT := TT.step kb); replace BB := Lib.hid (below_step BB.out kb); (try clear q20 q21); (try (have q20 := O2.cell 0; have q21 := O2.cell 1)); (try clear q30 q31); (try (have q30 := O3.cell 0; have q31 := O3.cell 1)); (try clear q50 q51); (try (have q50 := O5.cell 0; have q51 := O5.cell 1)); (try clear q60 q61); (try (have q60 := O6.cell 0; have q61 := O6.cell 1)); (try clear q80 q81); (try (have q80 := O8.cell 0; have q81 := O8.cell 1))) | ((with_reducible refine (KB.out _ r1).mono ?_); rintro e wk ⟨rfl, hb⟩; have kb := hb; (try replace O2 := O2.step kb); (try replace O3 := O3.step kb); (try replace O5 := O5.step kb); (try replace O6 := O6.step kb); (try replace r0 := r0.step kb); (try replace r1 := r1.step kb); (try replace r5 := r5.step kb); (try replace r6 := r6.step kb); (try replace OR := OR.step kb); (try replace O8 := O8.step kb); (try replace TT := TT.step kb); replace BB := Lib.hid (below_step BB.out kb); (try clear q20 q21); (try (have q20 := O2.cell 0; have q21 := O2.cell 1)); (try clear q30 q31); (try (have q30 := O3.cell 0; have q31 := O3.cell 1)); (try clear q50 q51); (try (have q50 := O5.cell 0; have q51 := O5.cell 1)); (try clear q60 q61); (try (have q60 := O6.cell 0; have q61 := O6.cell 1)); (try clear q80 q81); (try (have q80 := O8.cell 0; have q81 := O8.cell 1))))
                    go_roundw
                    case rel => exact ⟨i + 1, by omega, by go_num, Lib.hid O2, Lib.hid O3, Lib.hid O5, Lib.hid O6, Lib.hid r0, Lib.hid r1, Lib.hid r5, Lib.hid r6, Lib.hid OR, Lib.hid TT, BB⟩
                    case measure => simp [intOf]; omega
              · have KB := Lib.hid (fun (u : World) (h : Rb u A1 n1 l1) => known_b (p := true) A1 n1 c1 s1 l1 u h hkB); replace hkB := Lib.hid hkB
                rcases hg with hi0 | hi0 | hi0 | hi0 | hi0 | hi0 | hi0 | hi0 | hi0 | hi0
                all_goals (replace ho := ho.out; have ho0 := ho; rw [hi0] at ho; simp only [twoOp, List.getD_cons_zero, List.getD_cons_succ] at ho; have e8 := Lib.hid (ho0.symm.trans ho); clear ho0; subst ho; replace hi0 := Lib.hid hi0)
                all_goals
                  as_aux_lemma =>
                    go_wp2_with (go_at_call 31; first | ((with_reducible refine (KA.out _ r0).mono ?_); rintro e wk ⟨rfl, hb⟩; have kb := hb; (try replace O2 := O2.step kb); (try replace O3 := O3.step kb); (try replace O5 := O5.step kb); (try replace O6 := O6.step kb); (try replace r0 := r0.step kb); (try replace r1 := r1.step kb); (try replace r5 := r5.step kb); (try replace r6 := r6.step kb); (try replace OR := OR.step kb); (try replace O8 := O8.step kb); (try replace TT := TT.step kb); replace BB := Lib.hid (below_step BB.out kb); (try clear q20 q21); (try (have q20 := O2.cell 0; have q21 := O2.cell 1)); (try clear q30 q31); (try (have q30 := O3.cell 0; have q31 := O3.cell 1)); (try clear q50 q51); (try (have q50 := O5.cell 0; have q51 := O5.cell 1)); (try clear q60 q61); (try (have q60 := O6.cell 0; have q61 := O6.cell 1)); (try clear q80 q81); (try (have q80 := O8.cell 0; have q81 := O8.cell 1))) | ((with_reducible refine (KB.out _ r1).mono ?_); rintro e wk ⟨rfl, hb⟩; have kb := hb; (try replace O2 := O2.step kb); (try replace O3 := O3.step kb); (try replace O5 := O5.step kb); (try replace O6 := O6.step kb); (try replace r0 := r0.step kb); (try replace r1 := r1.step kb); (try replace r5 := r5.step kb); (try replace r6 := r6.step kb); (try replace OR := OR.step kb); (try replace O8 := O8.step kb); (try replace TT := TT.step kb); replace BB := Lib.hid (below_step BB.out kb); (try clear q20 q21); (try (have q20 := O2.cell 0; have q21 := O2.cell 1)); (try clear q30 q31); (try (have q30 := O3.cell 0; have q31 := O3.cell 1)); (try clear q50 q51); (try (have q50 := O5.cell 0; have q51 := O5.cell 1)); (try clear q60 q61); (try (have q60 := O6.cell 0; have q61 := O6.cell 1)); (try clear q80 q81); (try (have q80 := O8.cell 0; have q81 := O8.cell 1))))
                    go_roundw
                    case rel => exact ⟨i + 1, by omega, by go_num, Lib.hid O2, Lib.hid O3, Lib.hid O5, Lib.hid O6, Lib.hid r0, Lib.hid r1, Lib.hid r5, Lib.hid r6, Lib.hid OR, Lib.hid TT, BB⟩
                    case measure => simp [intOf]; omega
          · obtain rfl : i = 24 := by omega
            go_wp2
            go_ret
            exact ⟨rfl, BB.out⟩
  · skip
    have HL := Lib.hid (long2_b _ A0 A1 n0 c0 n1 c1 s0 s1 hl)
    clear hl
    have q20 := O2.cell 0
    have q21 := O2.cell 1
    have q30 := O3.cell 0
    have q31 := O3.cell 1
    go_enter Tryz.func11, Tryz.ntmps11
    go_wp2_with (first | (go_at_call 12; refine (HL.out _ _ (by simp)).mono ?_; rintro e wn ⟨rfl, rfl⟩; replace O2 := O2.alloc (.cells #[.slice A0 n0 c0, .bool s0, .slice A1 n1 c1, .bool s1] 24); replace O3 := O3.alloc (.cells #[.slice A0 n0 c0, .bool s0, .slice A1 n1 c1, .bool s1] 24); replace r0 := r0.alloc (.cells #[.slice A0 n0 c0, .bool s0, .slice A1 n1 c1, .bool s1] 24); replace r1 := r1.alloc (.cells #[.slice A0 n0 c0, .bool s0, .slice A1 n1 c1, .bool s1] 24); replace TT := TT.alloc (.cells #[.slice A0 n0 c0, .bool s0, .slice A1 n1 c1, .bool s1] 24); replace BB := Lib.hid (below_new BB.out (.cells #[.slice A0 n0 c0, .bool s0, .slice A1 n1 c1, .bool s1] 24))) | (go_at_call 13; refine (awake_any _ TT).mono ?_; rintro e wn ⟨rfl, hb⟩; replace BB := Lib.hid (below_step BB.out hb)))
    go_ret
    exact ⟨rfl, BB.out⟩
end Go.Proofs.YtognpmggfplekaaGreatDoor
