/-
  Statements of layer 2 over the seat's translation, the walks: the functions on any intervals. Conditions: the two tables read as the program lays them ('Tb').
-/
import Derived.Test.YtjfhhlbgiepkpaaDoorStrN
import Derived.Test.YtjfhhlbgiepkpaaDoorStrL
namespace Go.Proofs.YtjfhhlbgiepkpaaDoor
open Go Go.RowKit
attribute [local go_sem ↓] eql_p eql_r neq_p neq_r

/-- What the walk keeps: the tables, the argument, its copy, new memory alone. -/
def Km (w u : World) (A C : Option Addr) (n : Nat) (f : Nat → Int × Int) : Prop := Tb u ∧ RdA u A n f ∧ RdS u C n f ∧ Below w.heap.size w u
theorem RdA.step {w u : World} {A : Option Addr} {n : Nat} {f : Nat → Int × Int} (h : RdA w A n f) (hb : Below w.heap.size w u) : RdA u A n f := fun hn => by
  obtain ⟨b, off, e, hg, hc⟩ := h hn
  exact ⟨b, off, e, Nat.lt_of_lt_of_le hg hb.size, fun i hi => ⟨(hb.cell (p := ⟨b, off + i * 2, none⟩) hg).trans (hc i hi).1, (hb.cell (p := ⟨b, off + i * 2 + 1, none⟩) hg).trans (hc i hi).2⟩⟩
theorem Km.step {w u v : World} {A C : Option Addr} {n : Nat} {f : Nat → Int × Int} (h : Km w u A C n f) (hb : Below u.heap.size u v) : Km w v A C n f := ⟨h.1.step hb, h.2.1.step hb, h.2.2.1.step hb, below_step h.2.2.2 hb⟩
theorem valid_sym (lo hi : Int) (w : World) : Calls Tryd.prog 20 #[.agg #[.int .i8 lo, .int .i8 hi]] w fun e w' => e = .returned (.bool (nLo lo hi == lo && nHi lo hi == hi)) ∧ Below w.heap.size w w' := by
  have e : (nLo lo hi == lo && nHi lo hi == hi) = (lo == nLo lo hi && hi == nHi lo hi) := by rw [Bool.eq_iff_iff]; simp; constructor <;> (intro h; exact ⟨h.1.symm, h.2.symm⟩)
  rw [e]
  exact valid_any lo hi w
theorem keepM {w u v : World} {A : Option Addr} {g n i k7 k8 : Nat} {f : Nat → Int × Int} {t t' : TypeId} {p0 p1 : Int} (K : Km w u A (some ⟨g, 0, none⟩) n f) (O7 : Own u k7 t #[.int .i8 p0, .int .i8 p1]) (O8 : Own u k8 t' #[.int .i8 p0, .int .i8 p1])
    (hn : 0 < n) (hi : i < n) (hf : Hid (f i = (p0, p1))) (hb : Below u.heap.size u v) :
    (Km w v A (some ⟨g, 0, none⟩) n f ∧ Own v k7 t #[.int .i8 p0, .int .i8 p1] ∧ Own v k8 t' #[.int .i8 p0, .int .i8 p1]) ∧ v.cell? ⟨g, i * 2, none⟩ = some (.int .i8 p0) ∧ v.cell? ⟨g, i * 2 + 1, none⟩ = some (.int .i8 p1) ∧
      v.cell? ⟨k7, 0, none⟩ = some (.int .i8 p0) ∧ v.cell? ⟨k7, 1, none⟩ = some (.int .i8 p1) ∧ v.cell? ⟨k8, 0, none⟩ = some (.int .i8 p0) ∧ v.cell? ⟨k8, 1, none⟩ = some (.int .i8 p1) := by
  have K' := K.step hb
  obtain ⟨g', e, _, hc⟩ := K'.2.2.1 hn
  simp only [Option.some.injEq, Addr.mk.injEq, and_true] at e
  subst e
  have hci := hc i hi
  rw [hf.out] at hci
  exact ⟨⟨K', O7.step hb, O8.step hb⟩, hci.1, hci.2, (O7.step hb).cell 0, (O7.step hb).cell 1, (O8.step hb).cell 0, (O8.step hb).cell 1⟩

set_option maxRecDepth 100000 in
set_option maxHeartbeats 8000000 in
theorem walk_StrengthMatches (A : Option Addr) (n cap : Nat) (f : Nat → Int × Int) (level : Int) (w : World) (hn : n ≤ 9223372036854775807) (hr : RdA w A n f) [T : Tb w] : Calls Tryd.prog 3 #[.slice A n cap, .int .i64 level] w fun e w' => e = .returned (.bool true) ∧ Below w.heap.size w w' := by
  by_cases h60 : n ≤ 60
  · by_cases hn0 : 0 < n
    · obtain ⟨b, off, rfl, hbl, hbc⟩ := hr hn0
      clear hbl hbc
      replace hr := Lib.hid hr
      go_enter Tryd.func3, Tryd.ntmps3
      go_wp2_with fail
      refine (given_any _ n cap f _ h60 hr.out).mono ?_
      rintro e w1 ⟨C, c, rfl, hC, hb⟩
      obtain ⟨g, rfl, hg, hgc⟩ := hC hn0
      clear hg hgc
      have T1 := T.step hb
      have r1 := hr.out.step hb
      replace hC := Lib.hid hC
      replace r1 := Lib.hid r1
      replace hb := Lib.hid hb
      go_wp2_with fail
      refine (Combine_any _ n c f _ (by omega) hC.out).mono ?_
      rintro e w2 ⟨rfl, hb2⟩
      have K := Lib.hid (Km.step (w := w) ⟨T1, r1.out, hC.out, hb.out⟩ hb2)
      clear hC r1 hb T1 hb2
      go_wp2_with fail
      refine (told_any _ n cap f _ h60 K.out.2.1).mono ?_
      rintro e w3 ⟨D, d, rfl, hD, hb3⟩
      replace K := Lib.hid (K.out.step hb3)
      replace hD := Lib.hid hD
      clear hb3
      go_wp2_with fail
      refine (RCombine_any D n d f _ (by omega) hD.out).mono ?_
      rintro e w4 ⟨rfl, hb4⟩
      replace K := Lib.hid (K.out.step hb4)
      clear hb4 hD
      go_wp2
      go_loopw [6] (fun v wr => ∃ i : Nat, v = .int .i64 i ∧ i ≤ n ∧ Km w wr (some ⟨b, off, none⟩) (some ⟨g, 0, none⟩) n f) (fun v _ => n - (intOf v).toNat)
      case atStart => exact ⟨0, rfl, by omega, K.out⟩
      case round =>
        clear K
        obtain ⟨i, rfl, hi, K⟩ := hrel
        by_cases hlt : i < n
        · obtain ⟨b', off', e1, _, hA⟩ := K.2.1 hn0
          obtain ⟨g', e2, _, hC⟩ := K.2.2.1 hn0
          simp only [Option.some.injEq, Addr.mk.injEq, and_true] at e1 e2
          obtain ⟨rfl, rfl⟩ := e1
          subst e2
          have ca := hA i hlt
          have cc := hC i hlt
          obtain ⟨p0, p1, hfi⟩ : ∃ p0 p1, f i = (p0, p1) := ⟨_, _, rfl⟩
          rw [hfi] at ca cc
          simp only at ca cc
          replace hfi := Lib.hid hfi
          obtain ⟨ca0, ca1⟩ := ca
          obtain ⟨cc0, cc1⟩ := cc
          replace cc0 := Lib.hid cc0
          replace cc1 := Lib.hid cc1
          clear hA hC
          replace K := Lib.hid K
          go_wp2_with fail
          go_region
          · go_wp2_with fail
            have S0 := keepM (k7 := wr.heap.size) (k8 := wr.heap.size + 1) (u := (wr.alloc (.cells #[.int .i8 p0, .int .i8 p1] 29)).alloc (.cells #[.int .i8 p0, .int .i8 p1] 28)) (K.out.step (below_new (below_new (Below.refl _ _) _) _)) ((Own.new wr _ _).alloc _) (Own.at _ _ _ (by simp)) hn0 hlt hfi (below_drewN (Below.refl _ _) 2)
            have hW : Below wr.heap.size wr ((wr.alloc (.cells #[.int .i8 p0, .int .i8 p1] 29)).alloc (.cells #[.int .i8 p0, .int .i8 p1] 28)) := below_new (below_new (Below.refl _ _) _) _
            clear hW
            go_region_held3 (fun u => (Km w u (some ⟨b, off, none⟩) (some ⟨g, 0, none⟩) n f ∧ Own u (wr.heap.size) 29 #[.int .i8 p0, .int .i8 p1] ∧ Own u (wr.heap.size + 1) 28 #[.int .i8 p0, .int .i8 p1]) ∧ u.cell? ⟨g, i * 2, none⟩ = some (.int .i8 p0) ∧ u.cell? ⟨g, i * 2 + 1, none⟩ = some (.int .i8 p1) ∧ u.cell? ⟨wr.heap.size, 0, none⟩ = some (.int .i8 p0) ∧ u.cell? ⟨wr.heap.size, 1, none⟩ = some (.int .i8 p1) ∧ u.cell? ⟨wr.heap.size + 1, 0, none⟩ = some (.int .i8 p0) ∧ u.cell? ⟨wr.heap.size + 1, 1, none⟩ = some (.int .i8 p1))
              (first | assumption | (exact keepM (And.left (And.left (by assumption))) (And.left (And.right (And.left (by assumption)))) (And.right (And.right (And.left (by assumption)))) hn0 hlt hfi (by assumption)))
              ((first
                | (go_at_call 18; refine (norm_any _ _ _).mono ?_; rintro e w5 ⟨rfl, hb⟩)
                | (go_at_call 19; refine (rnorm_any _ _ _).mono ?_; rintro e w5 ⟨rfl, hb⟩)
                | (go_at_call 20; refine (valid_sym _ _ _).mono ?_; rintro e w5 ⟨rfl, hb⟩)
                | (go_at_call 21; refine (read_any _ _ _).mono ?_; rintro e w5 ⟨rfl, hb⟩)
                | (go_at_call 22; refine (rread_any _ _ _).mono ?_; rintro e w5 ⟨rfl, hb⟩)
                | (go_at_call 23; refine (contains_any _ _ _ _).mono ?_; rintro e w5 ⟨rfl, hb⟩)
                | (go_at_call 24; refine (rcontains_any _ _ _ _).mono ?_; rintro e w5 ⟨rfl, hb⟩)))
            all_goals
              go_wp2
              go_roundw
              case rel => exact ⟨i + 1, by go_num, by omega, And.left (And.left (by assumption))⟩
              case measure => simp [intOf]; omega
          · go_wp2_with fail
            have S0 := keepM (k7 := wr.heap.size + 1) (k8 := wr.heap.size) (u := (wr.alloc (.cells #[.int .i8 p0, .int .i8 p1] 28)).alloc (.cells #[.int .i8 p0, .int .i8 p1] 29)) (K.out.step (below_new (below_new (Below.refl _ _) _) _)) (Own.at _ _ _ (by simp)) ((Own.new wr _ _).alloc _) hn0 hlt hfi (below_drewN (Below.refl _ _) 2)
            have hW : Below wr.heap.size wr ((wr.alloc (.cells #[.int .i8 p0, .int .i8 p1] 28)).alloc (.cells #[.int .i8 p0, .int .i8 p1] 29)) := below_new (below_new (Below.refl _ _) _) _
            clear hW
            go_region_held3 (fun u => (Km w u (some ⟨b, off, none⟩) (some ⟨g, 0, none⟩) n f ∧ Own u (wr.heap.size + 1) 29 #[.int .i8 p0, .int .i8 p1] ∧ Own u (wr.heap.size) 28 #[.int .i8 p0, .int .i8 p1]) ∧ u.cell? ⟨g, i * 2, none⟩ = some (.int .i8 p0) ∧ u.cell? ⟨g, i * 2 + 1, none⟩ = some (.int .i8 p1) ∧ u.cell? ⟨wr.heap.size + 1, 0, none⟩ = some (.int .i8 p0) ∧ u.cell? ⟨wr.heap.size + 1, 1, none⟩ = some (.int .i8 p1) ∧ u.cell? ⟨wr.heap.size, 0, none⟩ = some (.int .i8 p0) ∧ u.cell? ⟨wr.heap.size, 1, none⟩ = some (.int .i8 p1))
              (first | assumption | (exact keepM (And.left (And.left (by assumption))) (And.left (And.right (And.left (by assumption)))) (And.right (And.right (And.left (by assumption)))) hn0 hlt hfi (by assumption)))
              ((first
                | (go_at_call 18; refine (norm_any _ _ _).mono ?_; rintro e w5 ⟨rfl, hb⟩)
                | (go_at_call 19; refine (rnorm_any _ _ _).mono ?_; rintro e w5 ⟨rfl, hb⟩)
                | (go_at_call 20; refine (valid_sym _ _ _).mono ?_; rintro e w5 ⟨rfl, hb⟩)
                | (go_at_call 21; refine (read_any _ _ _).mono ?_; rintro e w5 ⟨rfl, hb⟩)
                | (go_at_call 22; refine (rread_any _ _ _).mono ?_; rintro e w5 ⟨rfl, hb⟩)
                | (go_at_call 23; refine (contains_any _ _ _ _).mono ?_; rintro e w5 ⟨rfl, hb⟩)
                | (go_at_call 24; refine (rcontains_any _ _ _ _).mono ?_; rintro e w5 ⟨rfl, hb⟩)))
            all_goals
              go_wp2
              go_roundw
              case rel => exact ⟨i + 1, by go_num, by omega, And.left (And.left (by assumption))⟩
              case measure => simp [intOf]; omega
        · obtain rfl : i = n := by omega
          replace K := Lib.hid K
          go_wp2_with (go_at_call 13; refine (awake_any (T := K.out.1) _).mono ?_; rintro e w5 ⟨rfl, hb⟩)
          go_ret
          exact ⟨rfl, below_step K.out.2.2.2 hb⟩
    · have hnz : (n : Int) ≤ 0 := by omega
      have hn00 := Lib.hid (show n = 0 by omega)
      replace hr := Lib.hid hr
      go_enter Tryd.func3, Tryd.ntmps3
      go_wp2_with fail
      refine (given_any _ n cap f _ h60 hr.out).mono ?_
      rintro e w1 ⟨C, c, rfl, hC, hb⟩
      have T1 := T.step hb
      have r1 := hr.out.step hb
      replace hC := Lib.hid hC
      replace r1 := Lib.hid r1
      replace hb := Lib.hid hb
      go_wp2_with fail
      refine (Combine_any _ n c f _ (by omega) hC.out).mono ?_
      rintro e w2 ⟨rfl, hb2⟩
      have K := Lib.hid (Km.step (w := w) ⟨T1, r1.out, hC.out, hb.out⟩ hb2)
      clear hC r1 hb T1 hb2
      go_wp2_with fail
      refine (told_any _ n cap f _ h60 K.out.2.1).mono ?_
      rintro e w3 ⟨D, d, rfl, hD, hb3⟩
      replace K := Lib.hid (K.out.step hb3)
      replace hD := Lib.hid hD
      clear hb3
      go_wp2_with fail
      refine (RCombine_any D n d f _ (by omega) hD.out).mono ?_
      rintro e w4 ⟨rfl, hb4⟩
      replace K := Lib.hid (K.out.step hb4)
      clear hb4 hD
      go_wp2
      go_loopw [6] (fun v wr => v = .int .i64 0 ∧ Km w wr A C n f) (fun _ _ => 0)
      case atStart => exact ⟨rfl, K.out⟩
      case round =>
        clear K
        obtain ⟨rfl, K⟩ := hrel
        replace K := Lib.hid K
        go_wp2_with (go_at_call 13; refine (awake_any (T := K.out.1) _).mono ?_; rintro e w5 ⟨rfl, hb⟩)
        go_ret
        exact ⟨rfl, below_step K.out.2.2.2 hb⟩
  · go_enter Tryd.func3, Tryd.ntmps3
    go_wp2_with (go_at_call 13; refine (awake_any _).mono ?_; rintro e w1 ⟨rfl, hb⟩)
    go_ret
    exact ⟨rfl, hb⟩
end Go.Proofs.YtjfhhlbgiepkpaaDoor
