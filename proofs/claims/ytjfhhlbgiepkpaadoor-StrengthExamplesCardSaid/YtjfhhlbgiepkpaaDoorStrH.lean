/-
  Combine and its reference over a slice of intervals, over the seat's translation. Conditions: the slice's cells are integers, at most 1000 of them.
-/
import Derived.Test.YtjfhhlbgiepkpaaDoorStrG
namespace Go.Proofs.YtjfhhlbgiepkpaaDoor
open Go Go.RowKit
attribute [local go_sem ↓] eql_p eql_r neq_p neq_r

/-- The combination of the first n intervals of a list. -/
def fC (f : Nat → Int × Int) : Nat → Int × Int
  | 0 => (0, 0)
  | n + 1 => (cLo (fC f n).1 (fC f n).2 (nLo (f n).1 (f n).2) (nHi (f n).1 (f n).2), cHi (fC f n).1 (fC f n).2 (nLo (f n).1 (f n).2) (nHi (f n).1 (f n).2))
instance fC_nm (f : Nat → Int × Int) (n : Nat) : Nm (fC f n).1 (fC f n).2 := by
  induction n with
  | zero => exact ⟨by simp [fC], by simp [fC], by simp [fC]⟩
  | succ n ih => exact (inferInstance : Nm (cLo (fC f n).1 (fC f n).2 (nLo (f n).1 (f n).2) (nHi (f n).1 (f n).2)) (cHi (fC f n).1 (fC f n).2 (nLo (f n).1 (f n).2) (nHi (f n).1 (f n).2)))
/-- A slice of n intervals. -/
def RdS (w : World) (A : Option Addr) (n : Nat) (f : Nat → Int × Int) : Prop :=
  0 < n → ∃ g, A = some ⟨g, 0, none⟩ ∧ g < w.heap.size ∧ ∀ i, i < n → w.cell? ⟨g, i * 2, none⟩ = some (.int .i8 (f i).1) ∧ w.cell? ⟨g, i * 2 + 1, none⟩ = some (.int .i8 (f i).2)
/-- What a walk of 'Combine' keeps: the result's block, the sum's block. -/
def Sc (T : TypeId) (w u : World) (x y : Int) : Prop := Own u w.heap.size T #[.int .i8 0, .int .i8 0] ∧ Own u (w.heap.size + 1) T #[.int .i8 x, .int .i8 y] ∧ Below w.heap.size w u
theorem Sc.step {T : TypeId} {w u v : World} {x y : Int} (h : Sc T w u x y) (k : Below u.heap.size u v) : Sc T w v x y := ⟨h.1.step k, h.2.1.step k, below_step h.2.2 k⟩
theorem Sc.new (T : TypeId) (w : World) : Sc T w ((w.alloc (.cells #[.int .i8 0, .int .i8 0] T)).alloc (.cells #[.int .i8 0, .int .i8 0] T)) 0 0 := by
  refine ⟨(Own.new _ _ _).alloc _, ?_, below_new (below_new (Below.refl _ _) _) _⟩
  have := Own.new (w.alloc (.cells #[.int .i8 0, .int .i8 0] T)) T #[.int .i8 0, .int .i8 0]
  simpa using this
theorem Sc.set {T : TypeId} {w u : World} {x y : Int} (h : Sc T w u x y) (p q : Int) : Sc T w ((u.setCell ⟨w.heap.size + 1, 0, none⟩ (.int .i8 p)).setCell ⟨w.heap.size + 1, 1, none⟩ (.int .i8 q)) p q := by
  obtain ⟨h1, h2, h3⟩ := h
  refine ⟨(h1.far (by simp) _).far (by simp) _, ?_, below_set (below_set h3 (by simp) _) (by simp) _⟩
  have := (h2.put 0 (.int .i8 p)).put 1 (.int .i8 q)
  simpa using this
theorem below_of_drew {w b : World} (h : Below w.drew.heap.size w.drew b) : Below w.heap.size w b := ⟨h.os, h.tape, h.output, h.size, h.block⟩
/-- What the round of 'Combine' keeps while its calls are made. -/
theorem keepS {T : TypeId} {w u v : World} {b : Nat} {x y p q : Int} (h : Sc T w u x y) (hO : Own u b T #[.int .i8 p, .int .i8 q]) (hb : Below u.heap.size u v) :
    (Sc T w v x y ∧ Own v b T #[.int .i8 p, .int .i8 q]) ∧ v.cell? ⟨w.heap.size + 1, 0, none⟩ = some (.int .i8 x) ∧ v.cell? ⟨w.heap.size + 1, 1, none⟩ = some (.int .i8 y) ∧ v.frozen? ⟨w.heap.size + 1, 0, none⟩ = false ∧ v.frozen? ⟨w.heap.size + 1, 1, none⟩ = false ∧
      v.cell? ⟨b, 0, none⟩ = some (.int .i8 p) ∧ v.cell? ⟨b, 1, none⟩ = some (.int .i8 q) := by
  have h := h.step hb
  have hO := hO.step hb
  exact ⟨⟨h, hO⟩, h.2.1.cell 0, h.2.1.cell 1, h.2.1.free 0, h.2.1.free 1, hO.cell 0, hO.cell 1⟩

set_option maxRecDepth 100000 in
set_option maxHeartbeats 4000000 in
theorem Combine_any (A : Option Addr) (n cap : Nat) (f : Nat → Int × Int) (w : World) (hn : n ≤ 1000) (hr : RdS w A n f) : Calls Tryd.prog 15 #[.slice A n cap] w fun e w' => e = .returned (.agg #[.int .i8 (fC f n).1, .int .i8 (fC f n).2]) ∧ Below w.heap.size w w' := by
  have X := Lib.hid (Sc.new 29 w)
  replace hr := Lib.hid hr
  by_cases h0 : n = 0
  · subst h0
    go_enter Tryd.func15, Tryd.ntmps15
    go_wp2
    go_loopw [9] (fun v wr => v = .int .i64 0 ∧ Sc 29 w wr 0 0) (fun _ _ => 0)
    case atStart => exact ⟨rfl, X.out⟩
    case round =>
      obtain ⟨rfl, hS⟩ := hrel
      have qR := hS.1.cell
      have qO := hS.2.1.cell
      have fR := hS.1.free
      replace hS := Lib.hid hS
      go_wp2
      refine bodyPost_ret (v := .agg #[.int .i8 0, .int .i8 0]) ?_ rfl ⟨rfl, ?_⟩
      · simp [results, Tryd.results15, go_sem, qR]
      · have hB := hS.out.2.2
        repeat first | exact Below.refl _ _ | assumption | refine below_set ?_ (by simp; try omega) _ | refine below_new ?_ _ | refine below_drewN ?_ _ | refine below_step ?_ (by assumption)
  · obtain ⟨g, rfl, hg, hc⟩ := hr.out (by omega)
    clear hr
    replace hg := Lib.hid hg
    replace hc := Lib.hid hc
    go_enter Tryd.func15, Tryd.ntmps15
    go_wp2
    go_loopw [9] (fun v wr => ∃ k : Nat, v = .int .i64 k ∧ k ≤ n ∧ Sc 29 w wr (fC f k).1 (fC f k).2) (fun v _ => n - (intOf v).toNat)
    case atStart => exact ⟨0, rfl, by omega, X.out⟩
    case round =>
      obtain ⟨k, rfl, hk, hS⟩ := hrel
      by_cases hlt : k < n
      · have ck := hc.out k hlt
        have c0 := (hS.2.2.cell (p := ⟨g, k * 2, none⟩) hg.out).trans ck.1
        have c1 := (hS.2.2.cell (p := ⟨g, k * 2 + 1, none⟩) hg.out).trans ck.2
        clear ck
        have fk := fC_nm f k
        have fe : fC f (k + 1) = (cLo (fC f k).1 (fC f k).2 (nLo (f k).1 (f k).2) (nHi (f k).1 (f k).2), cHi (fC f k).1 (fC f k).2 (nLo (f k).1 (f k).2) (nHi (f k).1 (f k).2)) := rfl
        replace fe := Lib.hid fe
        generalize fC f k = s at *
        generalize f k = t at *
        obtain ⟨x, y⟩ := s
        obtain ⟨p, q⟩ := t
        simp only at *
        replace hS := Lib.hid hS
        go_wp2
        have h5 := hS.out.step (v := wr.alloc (.cells #[.int .i8 p, .int .i8 q] 29)) (below_new (Below.refl _ _) _)
        have o5 := Own.new wr 29 #[.int .i8 p, .int .i8 q]
        have S0 := keepS h5 o5 (Below.refl _ _)
        generalize wr.alloc (.cells #[.int .i8 p, .int .i8 q] 29) = W5 at *
        clear h5 o5 c0 c1
        obtain ⟨H0, q0, q1, f0, f1, p0, p1⟩ := S0
        replace H0 := Lib.hid H0
        go_region_with ((first
          | (go_at_call 18; refine (norm_any _ _ _).mono ?_; rintro e w1 ⟨rfl, hb⟩; obtain ⟨H1, r0, r1, g0, g1, o0, o1⟩ := keepS H0.out.1 H0.out.2 (below_of_drew hb); clear q0 q1 f0 f1 p0 p1 hb; replace H1 := Lib.hid H1)
          | (go_at_call 36; refine (combine_any _ _ _ _ _).mono ?_; rintro e w2 ⟨rfl, hb⟩; obtain ⟨H2, s0, s1, j0, j1, l0, l1⟩ := keepS H1.out.1 H1.out.2 hb; clear r0 r1 g0 g1 o0 o1 hb; replace H2 := Lib.hid H2)))
        all_goals
          go_wp2
          go_roundw
          case rel => exact ⟨k + 1, by go_num, by omega, by rw [fe.out]; exact H2.out.1.set _ _⟩
          case measure => simp [intOf]; omega
      · obtain rfl : k = n := by omega
        have qR := hS.1.cell
        have qO := hS.2.1.cell
        have fR := hS.1.free
        replace hS := Lib.hid hS
        go_wp2
        refine bodyPost_ret (v := .agg #[.int .i8 (fC f k).1, .int .i8 (fC f k).2]) ?_ rfl ⟨rfl, ?_⟩
        · simp [results, Tryd.results15, go_sem, qR]
        · have hB := hS.out.2.2
          repeat first | exact Below.refl _ _ | assumption | refine below_set ?_ (by simp; try omega) _ | refine below_new ?_ _ | refine below_drewN ?_ _ | refine below_step ?_ (by assumption)

theorem keepR {T : TypeId} {w u v : World} {x y : Int} (h : Sc T w u x y) (hb : Below u.heap.size u v) :
    Sc T w v x y ∧ v.cell? ⟨w.heap.size + 1, 0, none⟩ = some (.int .i8 x) ∧ v.cell? ⟨w.heap.size + 1, 1, none⟩ = some (.int .i8 y) ∧ v.frozen? ⟨w.heap.size + 1, 0, none⟩ = false ∧ v.frozen? ⟨w.heap.size + 1, 1, none⟩ = false := by
  have h := h.step hb
  exact ⟨h, h.2.1.cell 0, h.2.1.cell 1, h.2.1.free 0, h.2.1.free 1⟩
set_option maxRecDepth 100000 in
set_option maxHeartbeats 4000000 in
theorem RCombine_any (A : Option Addr) (n cap : Nat) (f : Nat → Int × Int) (w : World) (hn : n ≤ 1000) (hr : RdS w A n f) : Calls Tryd.prog 16 #[.slice A n cap] w fun e w' => e = .returned (.agg #[.int .i8 (fC f n).1, .int .i8 (fC f n).2]) ∧ Below w.heap.size w w' := by
  have X := Lib.hid (Sc.new 28 w)
  replace hr := Lib.hid hr
  by_cases h0 : n = 0
  · subst h0
    go_enter Tryd.func16, Tryd.ntmps16
    go_wp2
    go_loopw [4] (fun v wr => v = .int .i64 0 ∧ Sc 28 w wr 0 0) (fun _ _ => 0)
    case atStart => exact ⟨rfl, X.out⟩
    case round =>
      obtain ⟨rfl, hS⟩ := hrel
      have qR := hS.1.cell
      have qO := hS.2.1.cell
      have fR := hS.1.free
      replace hS := Lib.hid hS
      go_wp2
      refine bodyPost_ret (v := .agg #[.int .i8 0, .int .i8 0]) ?_ rfl ⟨rfl, ?_⟩
      · simp [results, Tryd.results16, go_sem, qR]
      · have hB := hS.out.2.2
        repeat first | exact Below.refl _ _ | assumption | refine below_set ?_ (by simp; try omega) _ | refine below_new ?_ _ | refine below_drewN ?_ _ | refine below_step ?_ (by assumption)
  · obtain ⟨g, rfl, hg, hc⟩ := hr.out (by omega)
    clear hr
    replace hg := Lib.hid hg
    replace hc := Lib.hid hc
    go_enter Tryd.func16, Tryd.ntmps16
    go_wp2
    go_loopw [4] (fun v wr => ∃ k : Nat, v = .int .i64 k ∧ k ≤ n ∧ Sc 28 w wr (fC f k).1 (fC f k).2) (fun v _ => n - (intOf v).toNat)
    case atStart => exact ⟨0, rfl, by omega, X.out⟩
    case round =>
      obtain ⟨k, rfl, hk, hS⟩ := hrel
      by_cases hlt : k < n
      · have ck := hc.out k hlt
        have c0 := (hS.2.2.cell (p := ⟨g, k * 2, none⟩) hg.out).trans ck.1
        have c1 := (hS.2.2.cell (p := ⟨g, k * 2 + 1, none⟩) hg.out).trans ck.2
        clear ck
        have fk := fC_nm f k
        have fe : fC f (k + 1) = (cLo (fC f k).1 (fC f k).2 (nLo (f k).1 (f k).2) (nHi (f k).1 (f k).2), cHi (fC f k).1 (fC f k).2 (nLo (f k).1 (f k).2) (nHi (f k).1 (f k).2)) := rfl
        replace fe := Lib.hid fe
        generalize fC f k = s at *
        generalize f k = t at *
        obtain ⟨x, y⟩ := s
        obtain ⟨p, q⟩ := t
        simp only at *
        replace hS := Lib.hid hS
        go_wp2
        have q0 := hS.out.2.1.cell 0
        have q1 := hS.out.2.1.cell 1
        have f0 := hS.out.2.1.free 0
        have f1 := hS.out.2.1.free 1
        simp only [List.getElem?_toArray, List.getElem?_cons_zero, List.getElem?_cons_succ] at q0 q1
        go_region_with ((first
          | (go_at_call 19; refine (rnorm_any _ _ _).mono ?_; rintro e w1 ⟨rfl, hb⟩; obtain ⟨H1, r0, r1, g0, g1⟩ := keepR hS.out (below_of_drew hb); clear q0 q1 f0 f1 hb; replace H1 := Lib.hid H1)
          | (go_at_call 37; refine (two_any _ _ _ _ _).mono ?_; rintro e w2 ⟨rfl, hb⟩; obtain ⟨H2, s0, s1, j0, j1⟩ := keepR H1.out hb; clear r0 r1 g0 g1 hb; replace H2 := Lib.hid H2)))
        all_goals
          go_wp2
          go_roundw
          case rel => exact ⟨k + 1, by go_num, by omega, by rw [fe.out]; exact H2.out.set _ _⟩
          case measure => simp [intOf]; omega
      · obtain rfl : k = n := by omega
        have qR := hS.1.cell
        have qO := hS.2.1.cell
        have fR := hS.1.free
        replace hS := Lib.hid hS
        go_wp2
        refine bodyPost_ret (v := .agg #[.int .i8 (fC f k).1, .int .i8 (fC f k).2]) ?_ rfl ⟨rfl, ?_⟩
        · simp [results, Tryd.results16, go_sem, qR]
        · have hB := hS.out.2.2
          repeat first | exact Below.refl _ _ | assumption | refine below_set ?_ (by simp; try omega) _ | refine below_new ?_ _ | refine below_drewN ?_ _ | refine below_step ?_ (by assumption)
end Go.Proofs.YtjfhhlbgiepkpaaDoor
