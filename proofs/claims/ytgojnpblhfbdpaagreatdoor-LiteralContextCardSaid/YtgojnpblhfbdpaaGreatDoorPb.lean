/-
  The statement LiteralContext, walked. Condition: the variables that the program reads hold values of their types.
-/
import Derived.Test.YtgojnpblhfbdpaaGreatDoorPa
import Derived.Test.YtgojnpblhfbdpaaGreatDoorW1
namespace Go.Proofs.YtgojnpblhfbdpaaGreatDoor
open Go Go.RowKit

theorem long1 (A0 : Option Addr) (n0 c0 : Nat) (s0 : Bool) (w : World) :
    Calls Tryz.prog 18 #[.slice (some ⟨w.heap.size, 0, none⟩) 1 1] (w.alloc (.cells #[.slice A0 n0 c0, .bool s0] 26)) fun e w' => e = .returned (.bool (decide (140 < n0))) ∧ (w.alloc (.cells #[.slice A0 n0 c0, .bool s0] 26)) = w' := by
  have o := Own.new w 26 #[.slice A0 n0 c0, .bool s0]
  refine long_any _ _ _ _ (fun i => [n0].getD i 0) _ (fun i hi => ?_) (by decide) _ ?_
  · obtain rfl : i = 0 := by omega
    exact ⟨_, _, o.cell 0⟩
  · rw [decide_eq_true_iff]
    constructor
    · intro h
      exact ⟨0, by decide, h⟩
    · rintro ⟨j, hj, h⟩
      obtain rfl : j = 0 := by omega
      exact h
theorem long1H (A0 : Option Addr) (n0 c0 : Nat) (s0 : Bool) (w : World) (H : Nat) (hH : w.heap.size = H) :
    Calls Tryz.prog 18 #[.slice (some ⟨H, 0, none⟩) 1 1] (w.alloc (.cells #[.slice A0 n0 c0, .bool s0] 26)) fun e w' => e = .returned (.bool (decide (140 < n0))) ∧ (w.alloc (.cells #[.slice A0 n0 c0, .bool s0] 26)) = w' := by
  subst hH
  exact long1 A0 n0 c0 s0 w
theorem run_c1 (c : UInt8) (W : World) : (convert 47 9 (.slice (some ⟨W.heap.size, 0, none⟩) 1 1)).run Tryz.prog (W.alloc (.cells #[.int .u8 (c.toNat : Int)] 5)) = .ok (.string (str [c])) (W.alloc (.cells #[.int .u8 (c.toNat : Int)] 5)) := by
  have O := Own.new W 5 #[.int .u8 (c.toNat : Int)]
  exact run_convert_bytes_back (W.alloc (.cells #[.int .u8 (c.toNat : Int)] 5)) 47 9 5 ⟨W.heap.size, 0, none⟩ 1 [c] (by kernel_rfl) (by kernel_rfl) (by kernel_rfl) fun j hj => by
    obtain rfl : j = 0 := by simp at hj; omega
    exact O.cell 0
/-- The literal in base 2, whatever stands around it. -/
theorem fmt_ctx {v : V} (hok : okB v.l = true) (h4 : bits4 v.l) {pre : List UInt8} {c : UInt8} {post : List UInt8} (hc : wordC true c = false) : ∃ z, fmtV v 98 = (z, 0) ∧ z.length ≤ 400 ∧ (pre.length + post.length ≤ 2000 → prsV (((pre ++ z) ++ [c]) ++ post) pre.length = (v, (pre.length : Int) + z.length, 0)) := by
  have hk := (chk_ok _).2 hok
  have hb : bszC 98 = some 1 := rfl
  obtain ⟨_, h1, h2⟩ := round_pure hok hk h4 hb
  cases hu : (digB 1 v).any upC
  · obtain ⟨a, b⟩ := h2 hu
    have hs := litT_short hok hb
    refine ⟨_, a, hs, fun hl => ?_⟩
    have hlow : lowL (digB 1 v) := (badL_iff _).1 (by
      have := badL_up h4 (bits_of hb)
      rw [this]; exact hu)
    have hp := prs_fmt hok h4 hb hlow (rest := c :: post) (fun x hx => by simp at hx; rw [← hx]; exact hc)
    have := prsV_at (pre := pre) hp (by rw [List.length_append, List.length_cons]; omega)
    rw [← this]
    congr 1
    simp
  · exact absurd rfl (h1 hu).2
theorem fmt_bad {v : V} (hok : okB v.l = false) : (fmtV v 98).2 ≠ 0 := by
  have hk : chk v.l ≠ 0 := fun h => by rw [(chk_ok _).1 h] at hok; cases hok
  have e1 : (digV v 98).2 = chk v.l := by unfold digV; rw [if_neg hk]
  unfold fmtV
  rw [if_neg (by rw [e1]; exact hk), e1]
  exact hk
set_option maxRecDepth 100000 in
set_option maxHeartbeats 8000000 in
theorem ctx_long (A : Option Addr) (n c : Nat) (s : Bool) (_l : List Int) (bef : List UInt8) (ch : UInt8) (aft : List UInt8) (w : World) (E : Env w) (h : 140 < n) : Calls Tryz.prog 9 #[.agg #[.slice A n c, .bool s], .string (str bef), .int .u8 (ch.toNat : Int), .string (str aft)] w fun e w' => e = .returned (.bool true) ∧ Below w.heap.size w w' := by
  have O4 := (Own.at1 w 26 #[.slice A n c, .bool s] (g := w.heap.size) (by simp))
  have BB := (below_new (Below.refl w.heap.size w) (.cells #[.slice A n c, .bool s] 26))
  have q0 := O4.cell 0; have q1 := O4.cell 1
  have hsb : (str bef).size = bef.length := rfl
  have hsa : (str aft).size = aft.length := rfl
  have HA := Lib.hid fun (u : World) (hu : Below w.heap.size w u) => awake_t w u E hu
  have HL := Lib.hid fun (u : World) (H : Nat) (hH : u.heap.size = H) => long1H A n c s u H hH
  have d0 : decide (140 < n) = true := decide_eq_true h
  rw [d0] at HL
  clear E h d0
  go_enter Tryz.func9, Tryz.ntmps9
  go_wp2_with (first
    | (go_at_call 18; (refine (HL.out _ _ (by simp)).mono ?_); rintro e wl ⟨rfl, rfl⟩; replace BB := below_new BB (.cells #[.slice A n c, .bool s] 26); replace O4 := O4.alloc (.cells #[.slice A n c, .bool s] 26); have q0 := O4.cell 0; have q1 := O4.cell 1)
    | (go_at_call 13; (with_reducible refine (HA.out _ BB).mono ?_); rintro e wa ⟨rfl, hb⟩; replace BB := below_step BB hb; replace O4 := O4.step hb; have q0 := O4.cell 0; have q1 := O4.cell 1))
  go_ret
  exact ⟨rfl, BB⟩
set_option maxRecDepth 100000 in
set_option maxHeartbeats 8000000 in
theorem ctx_text (A : Option Addr) (n c : Nat) (s : Bool) (_l : List Int) (bef : List UInt8) (ch : UInt8) (aft : List UInt8) (w : World) (E : Env w) (h : ¬ 140 < n) (h1 : bef.length ≤ reachBytes) (h2 : aft.length ≤ reachBytes) (h3 : 2000 < bef.length + aft.length) : Calls Tryz.prog 9 #[.agg #[.slice A n c, .bool s], .string (str bef), .int .u8 (ch.toNat : Int), .string (str aft)] w fun e w' => e = .returned (.bool true) ∧ Below w.heap.size w w' := by
  have O4 := (Own.at1 w 26 #[.slice A n c, .bool s] (g := w.heap.size) (by simp))
  have BB := (below_new (Below.refl w.heap.size w) (.cells #[.slice A n c, .bool s] 26))
  have q0 := O4.cell 0; have q1 := O4.cell 1
  have hsb : (str bef).size = bef.length := rfl
  have hsa : (str aft).size = aft.length := rfl
  have HA := Lib.hid fun (u : World) (hu : Below w.heap.size w u) => awake_t w u E hu
  have HL := Lib.hid fun (u : World) (H : Nat) (hH : u.heap.size = H) => long1H A n c s u H hH
  have d0 : decide (140 < n) = false := decide_eq_false h
  rw [d0] at HL
  have x1 : wrap64 ((bef.length : Int) + (aft.length : Int)) = ((bef.length + aft.length : Nat) : Int) := by unfold reachBytes at h1 h2; unfold wrap64; omega
  have d1 : decide ((2000 : Int) < ((bef.length + aft.length : Nat) : Int)) = true := by simp; omega
  generalize bef.length + aft.length = T at *
  clear E h d0 h1 h2 h3
  go_enter Tryz.func9, Tryz.ntmps9
  go_wp2_with (first
    | (go_at_call 18; (refine (HL.out _ _ (by simp)).mono ?_); rintro e wl ⟨rfl, rfl⟩; replace BB := below_new BB (.cells #[.slice A n c, .bool s] 26); replace O4 := O4.alloc (.cells #[.slice A n c, .bool s] 26); have q0 := O4.cell 0; have q1 := O4.cell 1)
    | (go_at_call 13; (with_reducible refine (HA.out _ BB).mono ?_); rintro e wa ⟨rfl, hb⟩; replace BB := below_step BB hb; replace O4 := O4.step hb; have q0 := O4.cell 0; have q1 := O4.cell 1))
  go_ret
  exact ⟨rfl, BB⟩
set_option maxRecDepth 100000 in
set_option maxHeartbeats 8000000 in
theorem ctx_bad (A : Option Addr) (n c : Nat) (s : Bool) (_l : List Int) (bef : List UInt8) (ch : UInt8) (aft : List UInt8) (w : World) (E : Env w) (h : ¬ 140 < n) (h3 : bef.length + aft.length ≤ 2000) (z : List UInt8) (er : Int) (he : (er == 0) = false) (HF9 : ∀ u, Below w.heap.size w u → Calls Tryz.prog 20 #[.agg #[.slice A n c, .bool s], .int .u8 98] u (RetS u (z, er))) : Calls Tryz.prog 9 #[.agg #[.slice A n c, .bool s], .string (str bef), .int .u8 (ch.toNat : Int), .string (str aft)] w fun e w' => e = .returned (.bool true) ∧ Below w.heap.size w w' := by
  have O4 := (Own.at1 w 26 #[.slice A n c, .bool s] (g := w.heap.size) (by simp))
  have BB := (below_new (Below.refl w.heap.size w) (.cells #[.slice A n c, .bool s] 26))
  have q0 := O4.cell 0; have q1 := O4.cell 1
  have hsb : (str bef).size = bef.length := rfl
  have hsa : (str aft).size = aft.length := rfl
  have HA := Lib.hid fun (u : World) (hu : Below w.heap.size w u) => awake_t w u E hu
  have HL := Lib.hid fun (u : World) (H : Nat) (hH : u.heap.size = H) => long1H A n c s u H hH
  have HF := Lib.hid HF9
  have d0 : decide (140 < n) = false := decide_eq_false h
  rw [d0] at HL
  have x1 : wrap64 ((bef.length : Int) + (aft.length : Int)) = ((bef.length + aft.length : Nat) : Int) := by unfold wrap64; omega
  have d1 : decide ((2000 : Int) < ((bef.length + aft.length : Nat) : Int)) = false := by simp; omega
  have he2 : (er != 0) = true := by unfold bne; rw [he]; rfl
  generalize bef.length + aft.length = T at *
  clear E h d0 h3 HF9
  go_enter Tryz.func9, Tryz.ntmps9
  go_wp2_with (first
    | (go_at_call 18; (refine (HL.out _ _ (by simp)).mono ?_); rintro e wl ⟨rfl, rfl⟩; replace BB := below_new BB (.cells #[.slice A n c, .bool s] 26); replace O4 := O4.alloc (.cells #[.slice A n c, .bool s] 26); have q0 := O4.cell 0; have q1 := O4.cell 1)
    | (go_at_call 13; (with_reducible refine (HA.out _ BB).mono ?_); rintro e wa ⟨rfl, hb⟩; replace BB := below_step BB hb; replace O4 := O4.step hb; have q0 := O4.cell 0; have q1 := O4.cell 1)
    | (go_at_call 20; (with_reducible refine (HF.out _ BB).mono ?_); rintro e wf ⟨rfl, hb⟩; replace BB := below_step BB hb; replace O4 := O4.step hb; have q0 := O4.cell 0; have q1 := O4.cell 1))
  go_ret
  exact ⟨rfl, BB⟩
set_option maxRecDepth 100000 in
set_option maxHeartbeats 8000000 in
theorem ctx_s95 (A : Option Addr) (n c : Nat) (s : Bool) (_l : List Int) (bef : List UInt8) (ch : UInt8) (aft : List UInt8) (w : World) (E : Env w) (h : ¬ 140 < n) (h3 : bef.length + aft.length ≤ 2000) (z : List UInt8) (HF9 : ∀ u, Below w.heap.size w u → Calls Tryz.prog 20 #[.agg #[.slice A n c, .bool s], .int .u8 98] u (RetS u (z, 0))) (hch : ch.toNat = 95) : Calls Tryz.prog 9 #[.agg #[.slice A n c, .bool s], .string (str bef), .int .u8 (ch.toNat : Int), .string (str aft)] w fun e w' => e = .returned (.bool true) ∧ Below w.heap.size w w' := by
  have O4 := (Own.at1 w 26 #[.slice A n c, .bool s] (g := w.heap.size) (by simp))
  have BB := (below_new (Below.refl w.heap.size w) (.cells #[.slice A n c, .bool s] 26))
  have q0 := O4.cell 0; have q1 := O4.cell 1
  have hsb : (str bef).size = bef.length := rfl
  have hsa : (str aft).size = aft.length := rfl
  have HA := Lib.hid fun (u : World) (hu : Below w.heap.size w u) => awake_t w u E hu
  have HL := Lib.hid fun (u : World) (H : Nat) (hH : u.heap.size = H) => long1H A n c s u H hH
  have HF := Lib.hid HF9
  have d0 : decide (140 < n) = false := decide_eq_false h
  rw [d0] at HL
  have x1 : wrap64 ((bef.length : Int) + (aft.length : Int)) = ((bef.length + aft.length : Nat) : Int) := by unfold wrap64; omega
  have d1 : decide ((2000 : Int) < ((bef.length + aft.length : Nat) : Int)) = false := by simp; omega
  have c95 : ((ch.toNat : Int) == 95) = true := by simp; omega
  generalize bef.length + aft.length = T at *
  generalize (ch.toNat : Int) = x at *
  clear E h d0 h3 HF9 hch
  go_enter Tryz.func9, Tryz.ntmps9
  go_wp2_with (first
    | (go_at_call 18; (refine (HL.out _ _ (by simp)).mono ?_); rintro e wl ⟨rfl, rfl⟩; replace BB := below_new BB (.cells #[.slice A n c, .bool s] 26); replace O4 := O4.alloc (.cells #[.slice A n c, .bool s] 26); have q0 := O4.cell 0; have q1 := O4.cell 1)
    | (go_at_call 13; (with_reducible refine (HA.out _ BB).mono ?_); rintro e wa ⟨rfl, hb⟩; replace BB := below_step BB hb; replace O4 := O4.step hb; have q0 := O4.cell 0; have q1 := O4.cell 1)
    | (go_at_call 20; (with_reducible refine (HF.out _ BB).mono ?_); rintro e wf ⟨rfl, hb⟩; replace BB := below_step BB hb; replace O4 := O4.step hb; have q0 := O4.cell 0; have q1 := O4.cell 1))
  go_ret
  exact ⟨rfl, BB⟩
set_option maxRecDepth 100000 in
set_option maxHeartbeats 8000000 in
theorem ctx_s63 (A : Option Addr) (n c : Nat) (s : Bool) (_l : List Int) (bef : List UInt8) (ch : UInt8) (aft : List UInt8) (w : World) (E : Env w) (h : ¬ 140 < n) (h3 : bef.length + aft.length ≤ 2000) (z : List UInt8) (HF9 : ∀ u, Below w.heap.size w u → Calls Tryz.prog 20 #[.agg #[.slice A n c, .bool s], .int .u8 98] u (RetS u (z, 0))) (hch : ch.toNat = 63) : Calls Tryz.prog 9 #[.agg #[.slice A n c, .bool s], .string (str bef), .int .u8 (ch.toNat : Int), .string (str aft)] w fun e w' => e = .returned (.bool true) ∧ Below w.heap.size w w' := by
  have O4 := (Own.at1 w 26 #[.slice A n c, .bool s] (g := w.heap.size) (by simp))
  have BB := (below_new (Below.refl w.heap.size w) (.cells #[.slice A n c, .bool s] 26))
  have q0 := O4.cell 0; have q1 := O4.cell 1
  have hsb : (str bef).size = bef.length := rfl
  have hsa : (str aft).size = aft.length := rfl
  have HA := Lib.hid fun (u : World) (hu : Below w.heap.size w u) => awake_t w u E hu
  have HL := Lib.hid fun (u : World) (H : Nat) (hH : u.heap.size = H) => long1H A n c s u H hH
  have HF := Lib.hid HF9
  have d0 : decide (140 < n) = false := decide_eq_false h
  rw [d0] at HL
  have x1 : wrap64 ((bef.length : Int) + (aft.length : Int)) = ((bef.length + aft.length : Nat) : Int) := by unfold wrap64; omega
  have d1 : decide ((2000 : Int) < ((bef.length + aft.length : Nat) : Int)) = false := by simp; omega
  have c95 : ((ch.toNat : Int) == 95) = false := by simp; omega
  have c63 : ((ch.toNat : Int) == 63) = true := by simp; omega
  generalize bef.length + aft.length = T at *
  generalize (ch.toNat : Int) = x at *
  clear E h d0 h3 HF9 hch
  go_enter Tryz.func9, Tryz.ntmps9
  go_wp2_with (first
    | (go_at_call 18; (refine (HL.out _ _ (by simp)).mono ?_); rintro e wl ⟨rfl, rfl⟩; replace BB := below_new BB (.cells #[.slice A n c, .bool s] 26); replace O4 := O4.alloc (.cells #[.slice A n c, .bool s] 26); have q0 := O4.cell 0; have q1 := O4.cell 1)
    | (go_at_call 13; (with_reducible refine (HA.out _ BB).mono ?_); rintro e wa ⟨rfl, hb⟩; replace BB := below_step BB hb; replace O4 := O4.step hb; have q0 := O4.cell 0; have q1 := O4.cell 1)
    | (go_at_call 20; (with_reducible refine (HF.out _ BB).mono ?_); rintro e wf ⟨rfl, hb⟩; replace BB := below_step BB hb; replace O4 := O4.step hb; have q0 := O4.cell 0; have q1 := O4.cell 1))
  go_ret
  exact ⟨rfl, BB⟩
set_option maxRecDepth 100000 in
set_option maxHeartbeats 8000000 in
theorem ctx_s39 (A : Option Addr) (n c : Nat) (s : Bool) (_l : List Int) (bef : List UInt8) (ch : UInt8) (aft : List UInt8) (w : World) (E : Env w) (h : ¬ 140 < n) (h3 : bef.length + aft.length ≤ 2000) (z : List UInt8) (HF9 : ∀ u, Below w.heap.size w u → Calls Tryz.prog 20 #[.agg #[.slice A n c, .bool s], .int .u8 98] u (RetS u (z, 0))) (hch : ch.toNat = 39) : Calls Tryz.prog 9 #[.agg #[.slice A n c, .bool s], .string (str bef), .int .u8 (ch.toNat : Int), .string (str aft)] w fun e w' => e = .returned (.bool true) ∧ Below w.heap.size w w' := by
  have O4 := (Own.at1 w 26 #[.slice A n c, .bool s] (g := w.heap.size) (by simp))
  have BB := (below_new (Below.refl w.heap.size w) (.cells #[.slice A n c, .bool s] 26))
  have q0 := O4.cell 0; have q1 := O4.cell 1
  have hsb : (str bef).size = bef.length := rfl
  have hsa : (str aft).size = aft.length := rfl
  have HA := Lib.hid fun (u : World) (hu : Below w.heap.size w u) => awake_t w u E hu
  have HL := Lib.hid fun (u : World) (H : Nat) (hH : u.heap.size = H) => long1H A n c s u H hH
  have HF := Lib.hid HF9
  have d0 : decide (140 < n) = false := decide_eq_false h
  rw [d0] at HL
  have x1 : wrap64 ((bef.length : Int) + (aft.length : Int)) = ((bef.length + aft.length : Nat) : Int) := by unfold wrap64; omega
  have d1 : decide ((2000 : Int) < ((bef.length + aft.length : Nat) : Int)) = false := by simp; omega
  have c95 : ((ch.toNat : Int) == 95) = false := by simp; omega
  have c63 : ((ch.toNat : Int) == 63) = false := by simp; omega
  have c39 : ((ch.toNat : Int) == 39) = true := by simp; omega
  generalize bef.length + aft.length = T at *
  generalize (ch.toNat : Int) = x at *
  clear E h d0 h3 HF9 hch
  go_enter Tryz.func9, Tryz.ntmps9
  go_wp2_with (first
    | (go_at_call 18; (refine (HL.out _ _ (by simp)).mono ?_); rintro e wl ⟨rfl, rfl⟩; replace BB := below_new BB (.cells #[.slice A n c, .bool s] 26); replace O4 := O4.alloc (.cells #[.slice A n c, .bool s] 26); have q0 := O4.cell 0; have q1 := O4.cell 1)
    | (go_at_call 13; (with_reducible refine (HA.out _ BB).mono ?_); rintro e wa ⟨rfl, hb⟩; replace BB := below_step BB hb; replace O4 := O4.step hb; have q0 := O4.cell 0; have q1 := O4.cell 1)
    | (go_at_call 20; (with_reducible refine (HF.out _ BB).mono ?_); rintro e wf ⟨rfl, hb⟩; replace BB := below_step BB hb; replace O4 := O4.step hb; have q0 := O4.cell 0; have q1 := O4.cell 1))
  go_ret
  exact ⟨rfl, BB⟩
set_option maxRecDepth 100000 in
set_option maxHeartbeats 8000000 in
theorem ctx_sdig (A : Option Addr) (n c : Nat) (s : Bool) (_l : List Int) (bef : List UInt8) (ch : UInt8) (aft : List UInt8) (w : World) (E : Env w) (h : ¬ 140 < n) (h3 : bef.length + aft.length ≤ 2000) (z : List UInt8) (HF9 : ∀ u, Below w.heap.size w u → Calls Tryz.prog 20 #[.agg #[.slice A n c, .bool s], .int .u8 98] u (RetS u (z, 0))) (hch : 48 ≤ ch.toNat ∧ ch.toNat ≤ 57) : Calls Tryz.prog 9 #[.agg #[.slice A n c, .bool s], .string (str bef), .int .u8 (ch.toNat : Int), .string (str aft)] w fun e w' => e = .returned (.bool true) ∧ Below w.heap.size w w' := by
  have O4 := (Own.at1 w 26 #[.slice A n c, .bool s] (g := w.heap.size) (by simp))
  have BB := (below_new (Below.refl w.heap.size w) (.cells #[.slice A n c, .bool s] 26))
  have q0 := O4.cell 0; have q1 := O4.cell 1
  have hsb : (str bef).size = bef.length := rfl
  have hsa : (str aft).size = aft.length := rfl
  have HA := Lib.hid fun (u : World) (hu : Below w.heap.size w u) => awake_t w u E hu
  have HL := Lib.hid fun (u : World) (H : Nat) (hH : u.heap.size = H) => long1H A n c s u H hH
  have HF := Lib.hid HF9
  have d0 : decide (140 < n) = false := decide_eq_false h
  rw [d0] at HL
  have x1 : wrap64 ((bef.length : Int) + (aft.length : Int)) = ((bef.length + aft.length : Nat) : Int) := by unfold wrap64; omega
  have d1 : decide ((2000 : Int) < ((bef.length + aft.length : Nat) : Int)) = false := by simp; omega
  have c95 : ((ch.toNat : Int) == 95) = false := by simp; omega
  have c63 : ((ch.toNat : Int) == 63) = false := by simp; omega
  have c39 : ((ch.toNat : Int) == 39) = false := by simp; omega
  have r48 : decide ((48 : Int) ≤ (ch.toNat : Int)) = true := by simp; omega
  have r57 : decide ((ch.toNat : Int) ≤ (57 : Int)) = true := by simp; omega
  generalize bef.length + aft.length = T at *
  generalize (ch.toNat : Int) = x at *
  clear E h d0 h3 HF9 hch
  go_enter Tryz.func9, Tryz.ntmps9
  go_wp2_with (first
    | (go_at_call 18; (refine (HL.out _ _ (by simp)).mono ?_); rintro e wl ⟨rfl, rfl⟩; replace BB := below_new BB (.cells #[.slice A n c, .bool s] 26); replace O4 := O4.alloc (.cells #[.slice A n c, .bool s] 26); have q0 := O4.cell 0; have q1 := O4.cell 1)
    | (go_at_call 13; (with_reducible refine (HA.out _ BB).mono ?_); rintro e wa ⟨rfl, hb⟩; replace BB := below_step BB hb; replace O4 := O4.step hb; have q0 := O4.cell 0; have q1 := O4.cell 1)
    | (go_at_call 20; (with_reducible refine (HF.out _ BB).mono ?_); rintro e wf ⟨rfl, hb⟩; replace BB := below_step BB hb; replace O4 := O4.step hb; have q0 := O4.cell 0; have q1 := O4.cell 1))
  go_ret
  exact ⟨rfl, BB⟩
set_option maxRecDepth 100000 in
set_option maxHeartbeats 8000000 in
theorem ctx_slow (A : Option Addr) (n c : Nat) (s : Bool) (_l : List Int) (bef : List UInt8) (ch : UInt8) (aft : List UInt8) (w : World) (E : Env w) (h : ¬ 140 < n) (h3 : bef.length + aft.length ≤ 2000) (z : List UInt8) (HF9 : ∀ u, Below w.heap.size w u → Calls Tryz.prog 20 #[.agg #[.slice A n c, .bool s], .int .u8 98] u (RetS u (z, 0))) (hch : 97 ≤ ch.toNat ∧ ch.toNat ≤ 122) : Calls Tryz.prog 9 #[.agg #[.slice A n c, .bool s], .string (str bef), .int .u8 (ch.toNat : Int), .string (str aft)] w fun e w' => e = .returned (.bool true) ∧ Below w.heap.size w w' := by
  have O4 := (Own.at1 w 26 #[.slice A n c, .bool s] (g := w.heap.size) (by simp))
  have BB := (below_new (Below.refl w.heap.size w) (.cells #[.slice A n c, .bool s] 26))
  have q0 := O4.cell 0; have q1 := O4.cell 1
  have hsb : (str bef).size = bef.length := rfl
  have hsa : (str aft).size = aft.length := rfl
  have HA := Lib.hid fun (u : World) (hu : Below w.heap.size w u) => awake_t w u E hu
  have HL := Lib.hid fun (u : World) (H : Nat) (hH : u.heap.size = H) => long1H A n c s u H hH
  have HF := Lib.hid HF9
  have d0 : decide (140 < n) = false := decide_eq_false h
  rw [d0] at HL
  have x1 : wrap64 ((bef.length : Int) + (aft.length : Int)) = ((bef.length + aft.length : Nat) : Int) := by unfold wrap64; omega
  have d1 : decide ((2000 : Int) < ((bef.length + aft.length : Nat) : Int)) = false := by simp; omega
  have c95 : ((ch.toNat : Int) == 95) = false := by simp; omega
  have c63 : ((ch.toNat : Int) == 63) = false := by simp; omega
  have c39 : ((ch.toNat : Int) == 39) = false := by simp; omega
  have r48 : decide ((48 : Int) ≤ (ch.toNat : Int)) = true := by simp; omega
  have r57 : decide ((ch.toNat : Int) ≤ (57 : Int)) = false := by simp; omega
  have r97 : decide ((97 : Int) ≤ (ch.toNat : Int)) = true := by simp; omega
  have r122 : decide ((ch.toNat : Int) ≤ (122 : Int)) = true := by simp; omega
  generalize bef.length + aft.length = T at *
  generalize (ch.toNat : Int) = x at *
  clear E h d0 h3 HF9 hch
  go_enter Tryz.func9, Tryz.ntmps9
  go_wp2_with (first
    | (go_at_call 18; (refine (HL.out _ _ (by simp)).mono ?_); rintro e wl ⟨rfl, rfl⟩; replace BB := below_new BB (.cells #[.slice A n c, .bool s] 26); replace O4 := O4.alloc (.cells #[.slice A n c, .bool s] 26); have q0 := O4.cell 0; have q1 := O4.cell 1)
    | (go_at_call 13; (with_reducible refine (HA.out _ BB).mono ?_); rintro e wa ⟨rfl, hb⟩; replace BB := below_step BB hb; replace O4 := O4.step hb; have q0 := O4.cell 0; have q1 := O4.cell 1)
    | (go_at_call 20; (with_reducible refine (HF.out _ BB).mono ?_); rintro e wf ⟨rfl, hb⟩; replace BB := below_step BB hb; replace O4 := O4.step hb; have q0 := O4.cell 0; have q1 := O4.cell 1))
  go_ret
  exact ⟨rfl, BB⟩
set_option maxRecDepth 100000 in
set_option maxHeartbeats 8000000 in
theorem ctx_supp (A : Option Addr) (n c : Nat) (s : Bool) (_l : List Int) (bef : List UInt8) (ch : UInt8) (aft : List UInt8) (w : World) (E : Env w) (h : ¬ 140 < n) (h3 : bef.length + aft.length ≤ 2000) (z : List UInt8) (HF9 : ∀ u, Below w.heap.size w u → Calls Tryz.prog 20 #[.agg #[.slice A n c, .bool s], .int .u8 98] u (RetS u (z, 0))) (hch : 65 ≤ ch.toNat ∧ ch.toNat ≤ 90) : Calls Tryz.prog 9 #[.agg #[.slice A n c, .bool s], .string (str bef), .int .u8 (ch.toNat : Int), .string (str aft)] w fun e w' => e = .returned (.bool true) ∧ Below w.heap.size w w' := by
  have O4 := (Own.at1 w 26 #[.slice A n c, .bool s] (g := w.heap.size) (by simp))
  have BB := (below_new (Below.refl w.heap.size w) (.cells #[.slice A n c, .bool s] 26))
  have q0 := O4.cell 0; have q1 := O4.cell 1
  have hsb : (str bef).size = bef.length := rfl
  have hsa : (str aft).size = aft.length := rfl
  have HA := Lib.hid fun (u : World) (hu : Below w.heap.size w u) => awake_t w u E hu
  have HL := Lib.hid fun (u : World) (H : Nat) (hH : u.heap.size = H) => long1H A n c s u H hH
  have HF := Lib.hid HF9
  have d0 : decide (140 < n) = false := decide_eq_false h
  rw [d0] at HL
  have x1 : wrap64 ((bef.length : Int) + (aft.length : Int)) = ((bef.length + aft.length : Nat) : Int) := by unfold wrap64; omega
  have d1 : decide ((2000 : Int) < ((bef.length + aft.length : Nat) : Int)) = false := by simp; omega
  have c95 : ((ch.toNat : Int) == 95) = false := by simp; omega
  have c63 : ((ch.toNat : Int) == 63) = false := by simp; omega
  have c39 : ((ch.toNat : Int) == 39) = false := by simp; omega
  have r48 : decide ((48 : Int) ≤ (ch.toNat : Int)) = true := by simp; omega
  have r57 : decide ((ch.toNat : Int) ≤ (57 : Int)) = false := by simp; omega
  have r97 : decide ((97 : Int) ≤ (ch.toNat : Int)) = false := by simp; omega
  have r65 : decide ((65 : Int) ≤ (ch.toNat : Int)) = true := by simp; omega
  have r90 : decide ((ch.toNat : Int) ≤ (90 : Int)) = true := by simp; omega
  generalize bef.length + aft.length = T at *
  generalize (ch.toNat : Int) = x at *
  clear E h d0 h3 HF9 hch
  go_enter Tryz.func9, Tryz.ntmps9
  go_wp2_with (first
    | (go_at_call 18; (refine (HL.out _ _ (by simp)).mono ?_); rintro e wl ⟨rfl, rfl⟩; replace BB := below_new BB (.cells #[.slice A n c, .bool s] 26); replace O4 := O4.alloc (.cells #[.slice A n c, .bool s] 26); have q0 := O4.cell 0; have q1 := O4.cell 1)
    | (go_at_call 13; (with_reducible refine (HA.out _ BB).mono ?_); rintro e wa ⟨rfl, hb⟩; replace BB := below_step BB hb; replace O4 := O4.step hb; have q0 := O4.cell 0; have q1 := O4.cell 1)
    | (go_at_call 20; (with_reducible refine (HF.out _ BB).mono ?_); rintro e wf ⟨rfl, hb⟩; replace BB := below_step BB hb; replace O4 := O4.step hb; have q0 := O4.cell 0; have q1 := O4.cell 1))
  go_ret
  exact ⟨rfl, BB⟩
set_option maxRecDepth 100000 in
set_option maxHeartbeats 8000000 in
theorem ctx_ga (A : Option Addr) (n c : Nat) (s : Bool) (l : List Int) (bef : List UInt8) (ch : UInt8) (aft : List UInt8) (w : World) (E : Env w) (h : ¬ 140 < n) (h3 : bef.length + aft.length ≤ 2000) (z : List UInt8) (HF9 : ∀ u, Below w.heap.size w u → Calls Tryz.prog 20 #[.agg #[.slice A n c, .bool s], .int .u8 98] u (RetS u (z, 0))) (hch : ch.toNat < 48 ∧ ch.toNat ≠ 39) (hz : z.length ≤ 400) (hr : Rb w A n l) (hp : prsV (((bef ++ z) ++ [ch]) ++ aft) bef.length = (⟨l, s⟩, (bef.length : Int) + z.length, 0)) : Calls Tryz.prog 9 #[.agg #[.slice A n c, .bool s], .string (str bef), .int .u8 (ch.toNat : Int), .string (str aft)] w fun e w' => e = .returned (.bool true) ∧ Below w.heap.size w w' := by
  have O4 := (Own.at1 w 26 #[.slice A n c, .bool s] (g := w.heap.size) (by simp))
  have BB := (below_new (Below.refl w.heap.size w) (.cells #[.slice A n c, .bool s] 26))
  have q0 := O4.cell 0; have q1 := O4.cell 1
  have hsb : (str bef).size = bef.length := rfl
  have hsa : (str aft).size = aft.length := rfl
  have HA := Lib.hid fun (u : World) (hu : Below w.heap.size w u) => awake_t w u E hu
  have HL := Lib.hid fun (u : World) (H : Nat) (hH : u.heap.size = H) => long1H A n c s u H hH
  have HF := Lib.hid HF9
  have d0 : decide (140 < n) = false := decide_eq_false h
  rw [d0] at HL
  have x1 : wrap64 ((bef.length : Int) + (aft.length : Int)) = ((bef.length + aft.length : Nat) : Int) := by unfold wrap64; omega
  have d1 : decide ((2000 : Int) < ((bef.length + aft.length : Nat) : Int)) = false := by simp; omega
  have c95 : ((ch.toNat : Int) == 95) = false := by simp; omega
  have c63 : ((ch.toNat : Int) == 63) = false := by simp; omega
  have c39 : ((ch.toNat : Int) == 39) = false := by simp; omega
  have r48 : decide ((48 : Int) ≤ (ch.toNat : Int)) = false := by simp; omega
  have r97 : decide ((97 : Int) ≤ (ch.toNat : Int)) = false := by simp; omega
  have r65 : decide ((65 : Int) ≤ (ch.toNat : Int)) = false := by simp; omega
  have HP := Lib.hid fun (u : World) (hu : Below w.heap.size w u) => parse_any (((bef ++ z) ++ [ch]) ++ aft) bef.length u (E.step hu)
  rw [hp] at HP
  simp only at HP
  have HS := Lib.hid fun (Y : Option Addr) (kk cy : Nat) (u : World) (hu : Below w.heap.size w u) (h' : Rb u Y kk l) (hk : kk ≤ 1000) => same_t A Y n kk c cy s s l l u (hr.step hu) h' (by omega) hk (sameV_rfl _)
  have hsz : (str z).size = z.length := rfl
  have hcv := fun W => run_c1 ch W
  have s1 : str bef ++ str z = str (bef ++ z) := str_app _ _
  have s2 : str (bef ++ z) ++ str [ch] = str ((bef ++ z) ++ [ch]) := str_app _ _
  have s3 : str ((bef ++ z) ++ [ch]) ++ str aft = str (((bef ++ z) ++ [ch]) ++ aft) := str_app _ _
  have hl1 : (bef ++ z).length = bef.length + z.length := List.length_append
  have hl2 : ((bef ++ z) ++ [ch]).length = bef.length + z.length + 1 := by simp; omega
  generalize ((bef ++ z) ++ [ch]) ++ aft = p3 at *
  generalize (bef ++ z) ++ [ch] = p2 at *
  generalize bef ++ z = p1 at *
  have k1 : ¬ 9223372036854775807 < bef.length + z.length := by omega
  have k2 : ¬ 9223372036854775807 < p1.length + 1 := by omega
  have k3 : ¬ 9223372036854775807 < p2.length + aft.length := by omega
  have x2 : wrap64 ((bef.length : Int) + (z.length : Int)) = (bef.length : Int) + (z.length : Int) := by unfold wrap64; omega
  generalize bef.length + aft.length = T at *
  generalize hxx : (ch.toNat : Int) = x at *
  clear E h d0 h3 HF9 hch hz hr hp hl1 hl2 hxx
  go_enter Tryz.func9, Tryz.ntmps9
  go_wp2_with (first
    | (go_at_call 18; (refine (HL.out _ _ (by simp)).mono ?_); rintro e wl ⟨rfl, rfl⟩; replace BB := below_new BB (.cells #[.slice A n c, .bool s] 26); replace O4 := O4.alloc (.cells #[.slice A n c, .bool s] 26); have q0 := O4.cell 0; have q1 := O4.cell 1)
    | (go_at_call 13; (with_reducible refine (HA.out _ BB).mono ?_); rintro e wa ⟨rfl, hb⟩; replace BB := below_step BB hb; replace O4 := O4.step hb; have q0 := O4.cell 0; have q1 := O4.cell 1)
    | (go_at_call 20; (with_reducible refine (HF.out _ BB).mono ?_); rintro e wf ⟨rfl, hb⟩; replace BB := below_step BB hb; replace O4 := O4.step hb; have q0 := O4.cell 0; have q1 := O4.cell 1)
    | (go_at_call 15; have BB1 := below_new BB (.cells #[.int .u8 x] 5); have O41 := O4.alloc (.cells #[.int .u8 x] 5); (with_reducible refine (HP.out _ BB1).mono ?_); rintro e wp ⟨Y, kk, cy, rfl, hcy, hk9, hN, hb⟩; replace BB := below_new (below_step BB1 hb) (.cells #[.slice Y kk cy, .bool s] 26); have OM := Own.new wp 26 #[.slice Y kk cy, .bool s]; have m0 := OM.cell 0; have m1 := OM.cell 1; have hr2 := hN.rd.alloc (.cells #[.slice Y kk cy, .bool s] 26); replace O4 := (O41.step hb).alloc (.cells #[.slice Y kk cy, .bool s] 26); have q0 := O4.cell 0; have q1 := O4.cell 1)
    | (go_at_call 16; (refine (HS.out _ _ _ _ BB hr2 hk9).mono ?_); rintro e w5 ⟨rfl, hb⟩; replace BB := below_step BB hb))
  go_ret
  exact ⟨rfl, BB⟩
set_option maxRecDepth 100000 in
set_option maxHeartbeats 8000000 in
theorem ctx_gb (A : Option Addr) (n c : Nat) (s : Bool) (l : List Int) (bef : List UInt8) (ch : UInt8) (aft : List UInt8) (w : World) (E : Env w) (h : ¬ 140 < n) (h3 : bef.length + aft.length ≤ 2000) (z : List UInt8) (HF9 : ∀ u, Below w.heap.size w u → Calls Tryz.prog 20 #[.agg #[.slice A n c, .bool s], .int .u8 98] u (RetS u (z, 0))) (hch : 58 ≤ ch.toNat ∧ ch.toNat ≤ 64 ∧ ch.toNat ≠ 63) (hz : z.length ≤ 400) (hr : Rb w A n l) (hp : prsV (((bef ++ z) ++ [ch]) ++ aft) bef.length = (⟨l, s⟩, (bef.length : Int) + z.length, 0)) : Calls Tryz.prog 9 #[.agg #[.slice A n c, .bool s], .string (str bef), .int .u8 (ch.toNat : Int), .string (str aft)] w fun e w' => e = .returned (.bool true) ∧ Below w.heap.size w w' := by
  have O4 := (Own.at1 w 26 #[.slice A n c, .bool s] (g := w.heap.size) (by simp))
  have BB := (below_new (Below.refl w.heap.size w) (.cells #[.slice A n c, .bool s] 26))
  have q0 := O4.cell 0; have q1 := O4.cell 1
  have hsb : (str bef).size = bef.length := rfl
  have hsa : (str aft).size = aft.length := rfl
  have HA := Lib.hid fun (u : World) (hu : Below w.heap.size w u) => awake_t w u E hu
  have HL := Lib.hid fun (u : World) (H : Nat) (hH : u.heap.size = H) => long1H A n c s u H hH
  have HF := Lib.hid HF9
  have d0 : decide (140 < n) = false := decide_eq_false h
  rw [d0] at HL
  have x1 : wrap64 ((bef.length : Int) + (aft.length : Int)) = ((bef.length + aft.length : Nat) : Int) := by unfold wrap64; omega
  have d1 : decide ((2000 : Int) < ((bef.length + aft.length : Nat) : Int)) = false := by simp; omega
  have c95 : ((ch.toNat : Int) == 95) = false := by simp; omega
  have c63 : ((ch.toNat : Int) == 63) = false := by simp; omega
  have c39 : ((ch.toNat : Int) == 39) = false := by simp; omega
  have r48 : decide ((48 : Int) ≤ (ch.toNat : Int)) = true := by simp; omega
  have r57 : decide ((ch.toNat : Int) ≤ (57 : Int)) = false := by simp; omega
  have r97 : decide ((97 : Int) ≤ (ch.toNat : Int)) = false := by simp; omega
  have r65 : decide ((65 : Int) ≤ (ch.toNat : Int)) = false := by simp; omega
  have HP := Lib.hid fun (u : World) (hu : Below w.heap.size w u) => parse_any (((bef ++ z) ++ [ch]) ++ aft) bef.length u (E.step hu)
  rw [hp] at HP
  simp only at HP
  have HS := Lib.hid fun (Y : Option Addr) (kk cy : Nat) (u : World) (hu : Below w.heap.size w u) (h' : Rb u Y kk l) (hk : kk ≤ 1000) => same_t A Y n kk c cy s s l l u (hr.step hu) h' (by omega) hk (sameV_rfl _)
  have hsz : (str z).size = z.length := rfl
  have hcv := fun W => run_c1 ch W
  have s1 : str bef ++ str z = str (bef ++ z) := str_app _ _
  have s2 : str (bef ++ z) ++ str [ch] = str ((bef ++ z) ++ [ch]) := str_app _ _
  have s3 : str ((bef ++ z) ++ [ch]) ++ str aft = str (((bef ++ z) ++ [ch]) ++ aft) := str_app _ _
  have hl1 : (bef ++ z).length = bef.length + z.length := List.length_append
  have hl2 : ((bef ++ z) ++ [ch]).length = bef.length + z.length + 1 := by simp; omega
  generalize ((bef ++ z) ++ [ch]) ++ aft = p3 at *
  generalize (bef ++ z) ++ [ch] = p2 at *
  generalize bef ++ z = p1 at *
  have k1 : ¬ 9223372036854775807 < bef.length + z.length := by omega
  have k2 : ¬ 9223372036854775807 < p1.length + 1 := by omega
  have k3 : ¬ 9223372036854775807 < p2.length + aft.length := by omega
  have x2 : wrap64 ((bef.length : Int) + (z.length : Int)) = (bef.length : Int) + (z.length : Int) := by unfold wrap64; omega
  generalize bef.length + aft.length = T at *
  generalize hxx : (ch.toNat : Int) = x at *
  clear E h d0 h3 HF9 hch hz hr hp hl1 hl2 hxx
  go_enter Tryz.func9, Tryz.ntmps9
  go_wp2_with (first
    | (go_at_call 18; (refine (HL.out _ _ (by simp)).mono ?_); rintro e wl ⟨rfl, rfl⟩; replace BB := below_new BB (.cells #[.slice A n c, .bool s] 26); replace O4 := O4.alloc (.cells #[.slice A n c, .bool s] 26); have q0 := O4.cell 0; have q1 := O4.cell 1)
    | (go_at_call 13; (with_reducible refine (HA.out _ BB).mono ?_); rintro e wa ⟨rfl, hb⟩; replace BB := below_step BB hb; replace O4 := O4.step hb; have q0 := O4.cell 0; have q1 := O4.cell 1)
    | (go_at_call 20; (with_reducible refine (HF.out _ BB).mono ?_); rintro e wf ⟨rfl, hb⟩; replace BB := below_step BB hb; replace O4 := O4.step hb; have q0 := O4.cell 0; have q1 := O4.cell 1)
    | (go_at_call 15; have BB1 := below_new BB (.cells #[.int .u8 x] 5); have O41 := O4.alloc (.cells #[.int .u8 x] 5); (with_reducible refine (HP.out _ BB1).mono ?_); rintro e wp ⟨Y, kk, cy, rfl, hcy, hk9, hN, hb⟩; replace BB := below_new (below_step BB1 hb) (.cells #[.slice Y kk cy, .bool s] 26); have OM := Own.new wp 26 #[.slice Y kk cy, .bool s]; have m0 := OM.cell 0; have m1 := OM.cell 1; have hr2 := hN.rd.alloc (.cells #[.slice Y kk cy, .bool s] 26); replace O4 := (O41.step hb).alloc (.cells #[.slice Y kk cy, .bool s] 26); have q0 := O4.cell 0; have q1 := O4.cell 1)
    | (go_at_call 16; (refine (HS.out _ _ _ _ BB hr2 hk9).mono ?_); rintro e w5 ⟨rfl, hb⟩; replace BB := below_step BB hb))
  go_ret
  exact ⟨rfl, BB⟩
set_option maxRecDepth 100000 in
set_option maxHeartbeats 8000000 in
theorem ctx_gc (A : Option Addr) (n c : Nat) (s : Bool) (l : List Int) (bef : List UInt8) (ch : UInt8) (aft : List UInt8) (w : World) (E : Env w) (h : ¬ 140 < n) (h3 : bef.length + aft.length ≤ 2000) (z : List UInt8) (HF9 : ∀ u, Below w.heap.size w u → Calls Tryz.prog 20 #[.agg #[.slice A n c, .bool s], .int .u8 98] u (RetS u (z, 0))) (hch : 91 ≤ ch.toNat ∧ ch.toNat ≤ 96 ∧ ch.toNat ≠ 95) (hz : z.length ≤ 400) (hr : Rb w A n l) (hp : prsV (((bef ++ z) ++ [ch]) ++ aft) bef.length = (⟨l, s⟩, (bef.length : Int) + z.length, 0)) : Calls Tryz.prog 9 #[.agg #[.slice A n c, .bool s], .string (str bef), .int .u8 (ch.toNat : Int), .string (str aft)] w fun e w' => e = .returned (.bool true) ∧ Below w.heap.size w w' := by
  have O4 := (Own.at1 w 26 #[.slice A n c, .bool s] (g := w.heap.size) (by simp))
  have BB := (below_new (Below.refl w.heap.size w) (.cells #[.slice A n c, .bool s] 26))
  have q0 := O4.cell 0; have q1 := O4.cell 1
  have hsb : (str bef).size = bef.length := rfl
  have hsa : (str aft).size = aft.length := rfl
  have HA := Lib.hid fun (u : World) (hu : Below w.heap.size w u) => awake_t w u E hu
  have HL := Lib.hid fun (u : World) (H : Nat) (hH : u.heap.size = H) => long1H A n c s u H hH
  have HF := Lib.hid HF9
  have d0 : decide (140 < n) = false := decide_eq_false h
  rw [d0] at HL
  have x1 : wrap64 ((bef.length : Int) + (aft.length : Int)) = ((bef.length + aft.length : Nat) : Int) := by unfold wrap64; omega
  have d1 : decide ((2000 : Int) < ((bef.length + aft.length : Nat) : Int)) = false := by simp; omega
  have c95 : ((ch.toNat : Int) == 95) = false := by simp; omega
  have c63 : ((ch.toNat : Int) == 63) = false := by simp; omega
  have c39 : ((ch.toNat : Int) == 39) = false := by simp; omega
  have r48 : decide ((48 : Int) ≤ (ch.toNat : Int)) = true := by simp; omega
  have r57 : decide ((ch.toNat : Int) ≤ (57 : Int)) = false := by simp; omega
  have r97 : decide ((97 : Int) ≤ (ch.toNat : Int)) = false := by simp; omega
  have r65 : decide ((65 : Int) ≤ (ch.toNat : Int)) = true := by simp; omega
  have r90 : decide ((ch.toNat : Int) ≤ (90 : Int)) = false := by simp; omega
  have HP := Lib.hid fun (u : World) (hu : Below w.heap.size w u) => parse_any (((bef ++ z) ++ [ch]) ++ aft) bef.length u (E.step hu)
  rw [hp] at HP
  simp only at HP
  have HS := Lib.hid fun (Y : Option Addr) (kk cy : Nat) (u : World) (hu : Below w.heap.size w u) (h' : Rb u Y kk l) (hk : kk ≤ 1000) => same_t A Y n kk c cy s s l l u (hr.step hu) h' (by omega) hk (sameV_rfl _)
  have hsz : (str z).size = z.length := rfl
  have hcv := fun W => run_c1 ch W
  have s1 : str bef ++ str z = str (bef ++ z) := str_app _ _
  have s2 : str (bef ++ z) ++ str [ch] = str ((bef ++ z) ++ [ch]) := str_app _ _
  have s3 : str ((bef ++ z) ++ [ch]) ++ str aft = str (((bef ++ z) ++ [ch]) ++ aft) := str_app _ _
  have hl1 : (bef ++ z).length = bef.length + z.length := List.length_append
  have hl2 : ((bef ++ z) ++ [ch]).length = bef.length + z.length + 1 := by simp; omega
  generalize ((bef ++ z) ++ [ch]) ++ aft = p3 at *
  generalize (bef ++ z) ++ [ch] = p2 at *
  generalize bef ++ z = p1 at *
  have k1 : ¬ 9223372036854775807 < bef.length + z.length := by omega
  have k2 : ¬ 9223372036854775807 < p1.length + 1 := by omega
  have k3 : ¬ 9223372036854775807 < p2.length + aft.length := by omega
  have x2 : wrap64 ((bef.length : Int) + (z.length : Int)) = (bef.length : Int) + (z.length : Int) := by unfold wrap64; omega
  generalize bef.length + aft.length = T at *
  generalize hxx : (ch.toNat : Int) = x at *
  clear E h d0 h3 HF9 hch hz hr hp hl1 hl2 hxx
  go_enter Tryz.func9, Tryz.ntmps9
  go_wp2_with (first
    | (go_at_call 18; (refine (HL.out _ _ (by simp)).mono ?_); rintro e wl ⟨rfl, rfl⟩; replace BB := below_new BB (.cells #[.slice A n c, .bool s] 26); replace O4 := O4.alloc (.cells #[.slice A n c, .bool s] 26); have q0 := O4.cell 0; have q1 := O4.cell 1)
    | (go_at_call 13; (with_reducible refine (HA.out _ BB).mono ?_); rintro e wa ⟨rfl, hb⟩; replace BB := below_step BB hb; replace O4 := O4.step hb; have q0 := O4.cell 0; have q1 := O4.cell 1)
    | (go_at_call 20; (with_reducible refine (HF.out _ BB).mono ?_); rintro e wf ⟨rfl, hb⟩; replace BB := below_step BB hb; replace O4 := O4.step hb; have q0 := O4.cell 0; have q1 := O4.cell 1)
    | (go_at_call 15; have BB1 := below_new BB (.cells #[.int .u8 x] 5); have O41 := O4.alloc (.cells #[.int .u8 x] 5); (with_reducible refine (HP.out _ BB1).mono ?_); rintro e wp ⟨Y, kk, cy, rfl, hcy, hk9, hN, hb⟩; replace BB := below_new (below_step BB1 hb) (.cells #[.slice Y kk cy, .bool s] 26); have OM := Own.new wp 26 #[.slice Y kk cy, .bool s]; have m0 := OM.cell 0; have m1 := OM.cell 1; have hr2 := hN.rd.alloc (.cells #[.slice Y kk cy, .bool s] 26); replace O4 := (O41.step hb).alloc (.cells #[.slice Y kk cy, .bool s] 26); have q0 := O4.cell 0; have q1 := O4.cell 1)
    | (go_at_call 16; (refine (HS.out _ _ _ _ BB hr2 hk9).mono ?_); rintro e w5 ⟨rfl, hb⟩; replace BB := below_step BB hb))
  go_ret
  exact ⟨rfl, BB⟩
set_option maxRecDepth 100000 in
set_option maxHeartbeats 8000000 in
theorem ctx_gd (A : Option Addr) (n c : Nat) (s : Bool) (l : List Int) (bef : List UInt8) (ch : UInt8) (aft : List UInt8) (w : World) (E : Env w) (h : ¬ 140 < n) (h3 : bef.length + aft.length ≤ 2000) (z : List UInt8) (HF9 : ∀ u, Below w.heap.size w u → Calls Tryz.prog 20 #[.agg #[.slice A n c, .bool s], .int .u8 98] u (RetS u (z, 0))) (hch : 123 ≤ ch.toNat) (hz : z.length ≤ 400) (hr : Rb w A n l) (hp : prsV (((bef ++ z) ++ [ch]) ++ aft) bef.length = (⟨l, s⟩, (bef.length : Int) + z.length, 0)) : Calls Tryz.prog 9 #[.agg #[.slice A n c, .bool s], .string (str bef), .int .u8 (ch.toNat : Int), .string (str aft)] w fun e w' => e = .returned (.bool true) ∧ Below w.heap.size w w' := by
  have O4 := (Own.at1 w 26 #[.slice A n c, .bool s] (g := w.heap.size) (by simp))
  have BB := (below_new (Below.refl w.heap.size w) (.cells #[.slice A n c, .bool s] 26))
  have q0 := O4.cell 0; have q1 := O4.cell 1
  have hsb : (str bef).size = bef.length := rfl
  have hsa : (str aft).size = aft.length := rfl
  have HA := Lib.hid fun (u : World) (hu : Below w.heap.size w u) => awake_t w u E hu
  have HL := Lib.hid fun (u : World) (H : Nat) (hH : u.heap.size = H) => long1H A n c s u H hH
  have HF := Lib.hid HF9
  have d0 : decide (140 < n) = false := decide_eq_false h
  rw [d0] at HL
  have x1 : wrap64 ((bef.length : Int) + (aft.length : Int)) = ((bef.length + aft.length : Nat) : Int) := by unfold wrap64; omega
  have d1 : decide ((2000 : Int) < ((bef.length + aft.length : Nat) : Int)) = false := by simp; omega
  have c95 : ((ch.toNat : Int) == 95) = false := by simp; omega
  have c63 : ((ch.toNat : Int) == 63) = false := by simp; omega
  have c39 : ((ch.toNat : Int) == 39) = false := by simp; omega
  have r48 : decide ((48 : Int) ≤ (ch.toNat : Int)) = true := by simp; omega
  have r57 : decide ((ch.toNat : Int) ≤ (57 : Int)) = false := by simp; omega
  have r97 : decide ((97 : Int) ≤ (ch.toNat : Int)) = true := by simp; omega
  have r122 : decide ((ch.toNat : Int) ≤ (122 : Int)) = false := by simp; omega
  have r65 : decide ((65 : Int) ≤ (ch.toNat : Int)) = true := by simp; omega
  have r90 : decide ((ch.toNat : Int) ≤ (90 : Int)) = false := by simp; omega
  have HP := Lib.hid fun (u : World) (hu : Below w.heap.size w u) => parse_any (((bef ++ z) ++ [ch]) ++ aft) bef.length u (E.step hu)
  rw [hp] at HP
  simp only at HP
  have HS := Lib.hid fun (Y : Option Addr) (kk cy : Nat) (u : World) (hu : Below w.heap.size w u) (h' : Rb u Y kk l) (hk : kk ≤ 1000) => same_t A Y n kk c cy s s l l u (hr.step hu) h' (by omega) hk (sameV_rfl _)
  have hsz : (str z).size = z.length := rfl
  have hcv := fun W => run_c1 ch W
  have s1 : str bef ++ str z = str (bef ++ z) := str_app _ _
  have s2 : str (bef ++ z) ++ str [ch] = str ((bef ++ z) ++ [ch]) := str_app _ _
  have s3 : str ((bef ++ z) ++ [ch]) ++ str aft = str (((bef ++ z) ++ [ch]) ++ aft) := str_app _ _
  have hl1 : (bef ++ z).length = bef.length + z.length := List.length_append
  have hl2 : ((bef ++ z) ++ [ch]).length = bef.length + z.length + 1 := by simp; omega
  generalize ((bef ++ z) ++ [ch]) ++ aft = p3 at *
  generalize (bef ++ z) ++ [ch] = p2 at *
  generalize bef ++ z = p1 at *
  have k1 : ¬ 9223372036854775807 < bef.length + z.length := by omega
  have k2 : ¬ 9223372036854775807 < p1.length + 1 := by omega
  have k3 : ¬ 9223372036854775807 < p2.length + aft.length := by omega
  have x2 : wrap64 ((bef.length : Int) + (z.length : Int)) = (bef.length : Int) + (z.length : Int) := by unfold wrap64; omega
  generalize bef.length + aft.length = T at *
  generalize hxx : (ch.toNat : Int) = x at *
  clear E h d0 h3 HF9 hch hz hr hp hl1 hl2 hxx
  go_enter Tryz.func9, Tryz.ntmps9
  go_wp2_with (first
    | (go_at_call 18; (refine (HL.out _ _ (by simp)).mono ?_); rintro e wl ⟨rfl, rfl⟩; replace BB := below_new BB (.cells #[.slice A n c, .bool s] 26); replace O4 := O4.alloc (.cells #[.slice A n c, .bool s] 26); have q0 := O4.cell 0; have q1 := O4.cell 1)
    | (go_at_call 13; (with_reducible refine (HA.out _ BB).mono ?_); rintro e wa ⟨rfl, hb⟩; replace BB := below_step BB hb; replace O4 := O4.step hb; have q0 := O4.cell 0; have q1 := O4.cell 1)
    | (go_at_call 20; (with_reducible refine (HF.out _ BB).mono ?_); rintro e wf ⟨rfl, hb⟩; replace BB := below_step BB hb; replace O4 := O4.step hb; have q0 := O4.cell 0; have q1 := O4.cell 1)
    | (go_at_call 15; have BB1 := below_new BB (.cells #[.int .u8 x] 5); have O41 := O4.alloc (.cells #[.int .u8 x] 5); (with_reducible refine (HP.out _ BB1).mono ?_); rintro e wp ⟨Y, kk, cy, rfl, hcy, hk9, hN, hb⟩; replace BB := below_new (below_step BB1 hb) (.cells #[.slice Y kk cy, .bool s] 26); have OM := Own.new wp 26 #[.slice Y kk cy, .bool s]; have m0 := OM.cell 0; have m1 := OM.cell 1; have hr2 := hN.rd.alloc (.cells #[.slice Y kk cy, .bool s] 26); replace O4 := (O41.step hb).alloc (.cells #[.slice Y kk cy, .bool s] 26); have q0 := O4.cell 0; have q1 := O4.cell 1)
    | (go_at_call 16; (refine (HS.out _ _ _ _ BB hr2 hk9).mono ?_); rintro e w5 ⟨rfl, hb⟩; replace BB := below_step BB hb))
  go_ret
  exact ⟨rfl, BB⟩
theorem word_out {c : UInt8} (h : (c.toNat < 48 ∧ c.toNat ≠ 39) ∨ (58 ≤ c.toNat ∧ c.toNat ≤ 64 ∧ c.toNat ≠ 63) ∨ (91 ≤ c.toNat ∧ c.toNat ≤ 96 ∧ c.toNat ≠ 95) ∨ 123 ≤ c.toNat) : wordC true c = false := by
  have hh : ∀ x : Fin 256, (((UInt8.ofNat x.val).toNat < 48 ∧ (UInt8.ofNat x.val).toNat ≠ 39) ∨ (58 ≤ (UInt8.ofNat x.val).toNat ∧ (UInt8.ofNat x.val).toNat ≤ 64 ∧ (UInt8.ofNat x.val).toNat ≠ 63) ∨ (91 ≤ (UInt8.ofNat x.val).toNat ∧ (UInt8.ofNat x.val).toNat ≤ 96 ∧ (UInt8.ofNat x.val).toNat ≠ 95) ∨ 123 ≤ (UInt8.ofNat x.val).toNat) → wordC true (UInt8.ofNat x.val) = false := by decide +kernel
  have := hh ⟨c.toNat, UInt8.toNat_lt c⟩
  simp only [UInt8.ofNat_toNat] at this
  exact this h
theorem walk_LiteralContext (A : Option Addr) (n c : Nat) (s : Bool) (l : List Int) (bef : List UInt8) (x : Int) (aft : List UInt8) (w : World) (hr : Rb w A n l) (hc : n ≤ c) (h1 : bef.length ≤ reachBytes) (hx : 0 ≤ x ∧ x ≤ 255) (h2 : aft.length ≤ reachBytes) (E : Env w) : Calls Tryz.prog 9 #[.agg #[.slice A n c, .bool s], .string (str bef), .int .u8 x, .string (str aft)] w fun e w' => e = .returned (.bool true) ∧ Below w.heap.size w w' := by
  obtain ⟨ch, rfl⟩ : ∃ ch : UInt8, x = (ch.toNat : Int) := ⟨UInt8.ofNat x.toNat, by simp; omega⟩
  by_cases h : 140 < n
  · exact ctx_long A n c s l bef ch aft w E h
  · by_cases h3 : bef.length + aft.length ≤ 2000
    · have HF : ∀ u, Below w.heap.size w u → Calls Tryz.prog 20 #[.agg #[.slice A n c, .bool s], .int .u8 98] u (RetS u (fmtV ⟨l, s⟩ 98)) := fun u hu => format_any A n c s l 98 u (E.step hu) (hr.step hu) hc (by omega)
      cases hok : okB l
      · have hb := fmt_bad (v := ⟨l, s⟩) hok
        generalize fmtV ⟨l, s⟩ 98 = p at *
        obtain ⟨z, er⟩ := p
        exact ctx_bad A n c s l bef ch aft w E h h3 z er (by simpa using hb) HF
      · have h4 := bits4_ok hr.2.1 hok
        have hlt := UInt8.toNat_lt ch
        by_cases hw : (ch.toNat < 48 ∧ ch.toNat ≠ 39) ∨ (58 ≤ ch.toNat ∧ ch.toNat ≤ 64 ∧ ch.toNat ≠ 63) ∨ (91 ≤ ch.toNat ∧ ch.toNat ≤ 96 ∧ ch.toNat ≠ 95) ∨ 123 ≤ ch.toNat
        · obtain ⟨z, f1, f2, f3⟩ := fmt_ctx (v := ⟨l, s⟩) hok h4 (pre := bef) (post := aft) (word_out hw)
          rw [f1] at HF
          have hp := f3 h3
          rcases hw with hw | hw | hw | hw
          · exact ctx_ga A n c s l bef ch aft w E h h3 z HF hw f2 hr hp
          · exact ctx_gb A n c s l bef ch aft w E h h3 z HF hw f2 hr hp
          · exact ctx_gc A n c s l bef ch aft w E h h3 z HF hw f2 hr hp
          · exact ctx_gd A n c s l bef ch aft w E h h3 z HF hw f2 hr hp
        · obtain ⟨z, f1, _⟩ := fmt_two (v := ⟨l, s⟩) hok h4
          rw [f1] at HF
          rcases (show ch.toNat = 95 ∨ ch.toNat = 63 ∨ ch.toNat = 39 ∨ (48 ≤ ch.toNat ∧ ch.toNat ≤ 57) ∨ (97 ≤ ch.toNat ∧ ch.toNat ≤ 122) ∨ (65 ≤ ch.toNat ∧ ch.toNat ≤ 90) by omega) with hc | hc | hc | hc | hc | hc
          · exact ctx_s95 A n c s l bef ch aft w E h h3 z HF hc
          · exact ctx_s63 A n c s l bef ch aft w E h h3 z HF hc
          · exact ctx_s39 A n c s l bef ch aft w E h h3 z HF hc
          · exact ctx_sdig A n c s l bef ch aft w E h h3 z HF hc
          · exact ctx_slow A n c s l bef ch aft w E h h3 z HF hc
          · exact ctx_supp A n c s l bef ch aft w E h h3 z HF hc
    · exact ctx_text A n c s l bef ch aft w E h h1 h2 (by omega)
end Go.Proofs.YtgojnpblhfbdpaaGreatDoor
