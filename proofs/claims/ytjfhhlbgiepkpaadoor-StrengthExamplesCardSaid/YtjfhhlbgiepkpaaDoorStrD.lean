/-
  Drive, Name, Parse and their references, and the functions of package bit, over the seat's translation. Conditions: the two tables read as the program lays them ('Tb').
-/
import Derived.Test.YtjfhhlbgiepkpaaDoorStrA
import Derived.WalkSpells
namespace Go.Proofs.YtjfhhlbgiepkpaaDoor
open Go Go.RowKit
attribute [local go_sem ↓] eql_p eql_r neq_p neq_r

def drLo (b s0 s1 : Int) : Int := if b = 0 then -levI s0 else if b = 1 then levI s1 else if b = 3 then 0 else -levI s0
def drHi (b s0 s1 : Int) : Int := if b = 0 then -levI s0 else if b = 1 then levI s1 else if b = 3 then 0 else levI s1
set_option maxHeartbeats 1000000 in
theorem drive_any (b s0 s1 : Int) (w : World) (h0 : 0 ≤ s0) (h1 : 0 ≤ s1) : Calls Tryd.prog 25 #[.int .u8 b, .int .u8 s0, .int .u8 s1] w fun e w' => e = .returned (.agg #[.int .i8 (drLo b s0 s1), .int .i8 (drHi b s0 s1)]) ∧ Below w.heap.size w w' := by
  have l0 : 0 ≤ levI s0 ∧ levI s0 ≤ 7 := by unfold levI; omega
  have l1 : 0 ≤ levI s1 ∧ levI s1 ≤ 7 := by unfold levI; omega
  obtain ⟨l00, l01⟩ := l0
  obtain ⟨l10, l11⟩ := l1
  have e0 := Lib.hid (show levI s0 = min s0 7 from rfl)
  have e1 := Lib.hid (show levI s1 = min s1 7 from rfl)
  have hb0 : b = 0 ∨ b = 1 ∨ b = 3 ∨ (¬ b = 0 ∧ ¬ b = 1 ∧ ¬ b = 3) := by omega
  unfold drLo drHi
  rcases hb0 with rfl | rfl | rfl | ⟨n0, n1, n3⟩
  · rw [if_pos rfl, if_pos rfl]
    go_enter Tryd.func25, Tryd.ntmps25
    go_wp2_with (go_at_call 40; refine (level_any _ _ (by assumption)).mono ?_; rintro e w1 ⟨rfl, rfl⟩)
    all_goals
      refine bodyPost_ret (v := .agg #[.int .i8 (-levI s0), .int .i8 (-levI s0)]) ?_ rfl ⟨rfl, ?_⟩
      · simp [results, Tryd.results25, go_sem]
      · repeat first | exact Below.refl _ _ | assumption | refine below_set ?_ (by simp; try omega) _ | refine below_new ?_ _ | refine below_drewN ?_ _ | refine below_step ?_ (by assumption)
  · rw [if_neg (by decide), if_pos rfl, if_neg (by decide), if_pos rfl]
    go_enter Tryd.func25, Tryd.ntmps25
    go_wp2_with (go_at_call 40; refine (level_any _ _ (by assumption)).mono ?_; rintro e w1 ⟨rfl, rfl⟩)
    all_goals
      refine bodyPost_ret (v := .agg #[.int .i8 (levI s1), .int .i8 (levI s1)]) ?_ rfl ⟨rfl, ?_⟩
      · simp [results, Tryd.results25, go_sem]
      · repeat first | exact Below.refl _ _ | assumption | refine below_set ?_ (by simp; try omega) _ | refine below_new ?_ _ | refine below_drewN ?_ _ | refine below_step ?_ (by assumption)
  · rw [if_neg (by decide), if_neg (by decide), if_pos rfl, if_neg (by decide), if_neg (by decide), if_pos rfl]
    go_enter Tryd.func25, Tryd.ntmps25
    go_wp2_with (go_at_call 40; refine (level_any _ _ (by assumption)).mono ?_; rintro e w1 ⟨rfl, rfl⟩)
    all_goals
      refine bodyPost_ret (v := .agg #[.int .i8 0, .int .i8 0]) ?_ rfl ⟨rfl, ?_⟩
      · simp [results, Tryd.results25, go_sem]
      · repeat first | exact Below.refl _ _ | assumption | refine below_set ?_ (by simp; try omega) _ | refine below_new ?_ _ | refine below_drewN ?_ _ | refine below_step ?_ (by assumption)
  · rw [if_neg n0, if_neg n1, if_neg n3, if_neg n0, if_neg n1, if_neg n3]
    go_enter Tryd.func25, Tryd.ntmps25
    go_wp2_with (go_at_call 40; refine (level_any _ _ (by assumption)).mono ?_; rintro e w1 ⟨rfl, rfl⟩)
    all_goals
      refine bodyPost_ret (v := .agg #[.int .i8 (-levI s0), .int .i8 (levI s1)]) ?_ rfl ⟨rfl, ?_⟩
      · simp [results, Tryd.results25, go_sem]
      · repeat first | exact Below.refl _ _ | assumption | refine below_set ?_ (by simp; try omega) _ | refine below_new ?_ _ | refine below_drewN ?_ _ | refine below_step ?_ (by assumption)
set_option maxHeartbeats 1000000 in
theorem rdrive_any (b s0 s1 : Int) (w : World) (h0 : 0 ≤ s0) (h1 : 0 ≤ s1) : Calls Tryd.prog 26 #[.int .u8 b, .int .u8 s0, .int .u8 s1] w fun e w' => e = .returned (.agg #[.int .i8 (drLo b s0 s1), .int .i8 (drHi b s0 s1)]) ∧ Below w.heap.size w w' := by
  have l0 : 0 ≤ levI s0 ∧ levI s0 ≤ 7 := by unfold levI; omega
  have l1 : 0 ≤ levI s1 ∧ levI s1 ≤ 7 := by unfold levI; omega
  obtain ⟨l00, l01⟩ := l0
  obtain ⟨l10, l11⟩ := l1
  have e0 := Lib.hid (show levI s0 = min s0 7 from rfl)
  have e1 := Lib.hid (show levI s1 = min s1 7 from rfl)
  have hb0 : b = 0 ∨ b = 1 ∨ b = 3 ∨ (¬ b = 0 ∧ ¬ b = 1 ∧ ¬ b = 3) := by omega
  unfold drLo drHi
  rcases hb0 with rfl | rfl | rfl | ⟨n0, n1, n3⟩
  · rw [if_pos rfl, if_pos rfl]
    go_enter Tryd.func26, Tryd.ntmps26
    go_wp2
    all_goals
      refine bodyPost_ret (v := .agg #[.int .i8 (-levI s0), .int .i8 (-levI s0)]) ?_ rfl ⟨rfl, ?_⟩
      · simp [results, Tryd.results26, go_sem]
        have := e0.out
        have := e1.out
        try omega
      · repeat first | exact Below.refl _ _ | assumption | refine below_set ?_ (by simp; try omega) _ | refine below_new ?_ _ | refine below_drewN ?_ _ | refine below_step ?_ (by assumption)
  · rw [if_neg (by decide), if_pos rfl, if_neg (by decide), if_pos rfl]
    go_enter Tryd.func26, Tryd.ntmps26
    go_wp2
    all_goals
      refine bodyPost_ret (v := .agg #[.int .i8 (levI s1), .int .i8 (levI s1)]) ?_ rfl ⟨rfl, ?_⟩
      · simp [results, Tryd.results26, go_sem]
        have := e0.out
        have := e1.out
        try omega
      · repeat first | exact Below.refl _ _ | assumption | refine below_set ?_ (by simp; try omega) _ | refine below_new ?_ _ | refine below_drewN ?_ _ | refine below_step ?_ (by assumption)
  · rw [if_neg (by decide), if_neg (by decide), if_pos rfl, if_neg (by decide), if_neg (by decide), if_pos rfl]
    go_enter Tryd.func26, Tryd.ntmps26
    go_wp2
    all_goals
      refine bodyPost_ret (v := .agg #[.int .i8 0, .int .i8 0]) ?_ rfl ⟨rfl, ?_⟩
      · simp [results, Tryd.results26, go_sem]
      · repeat first | exact Below.refl _ _ | assumption | refine below_set ?_ (by simp; try omega) _ | refine below_new ?_ _ | refine below_drewN ?_ _ | refine below_step ?_ (by assumption)
  · rw [if_neg n0, if_neg n1, if_neg n3, if_neg n0, if_neg n1, if_neg n3]
    go_enter Tryd.func26, Tryd.ntmps26
    go_wp2
    all_goals
      refine bodyPost_ret (v := .agg #[.int .i8 (-levI s0), .int .i8 (levI s1)]) ?_ rfl ⟨rfl, ?_⟩
      · simp [results, Tryd.results26, go_sem]
        have := e0.out
        have := e1.out
        try omega
      · repeat first | exact Below.refl _ _ | assumption | refine below_set ?_ (by simp; try omega) _ | refine below_new ?_ _ | refine below_drewN ?_ _ | refine below_step ?_ (by assumption)
/-- The tables of names and of characters. -/
def namArr : Array Value := #[.string ⟨#[104, 105, 103, 104, 122]⟩, .string ⟨#[115, 109, 97, 108, 108]⟩, .string ⟨#[109, 101, 100, 105, 117, 109]⟩, .string ⟨#[119, 101, 97, 107]⟩, .string ⟨#[108, 97, 114, 103, 101]⟩, .string ⟨#[112, 117, 108, 108]⟩, .string ⟨#[115, 116, 114, 111, 110, 103]⟩, .string ⟨#[115, 117, 112, 112, 108, 121]⟩]
def chrArr : Array Value := #[.int .u8 48, .int .u8 49, .int .u8 120, .int .u8 122]
class Tb (w : World) : Prop where
  nam : ∀ i, w.cell? ⟨0, i, none⟩ = namArr[i]?
  chr : ∀ i, w.cell? ⟨1, i, none⟩ = chrArr[i]?
theorem cell_lt {w : World} {p : Addr} {v : Value} (h : w.cell? p = some v) : p.block < w.heap.size := by
  rcases Nat.lt_or_ge p.block w.heap.size with h1 | h1
  · exact h1
  · simp [World.cell?, Array.getElem?_eq_none h1] at h
theorem Tb.step {w u : World} (T : Tb w) (h : Below w.heap.size w u) : Tb u :=
  ⟨fun i => (h.cell (p := ⟨_, i, none⟩) (show _ < _ from cell_lt (p := ⟨_, 0, none⟩) (T.nam 0))).trans (T.nam i), fun i => (h.cell (p := ⟨_, i, none⟩) (show _ < _ from cell_lt (p := ⟨_, 0, none⟩) (T.chr 0))).trans (T.chr i)⟩
instance {w : World} [T : Tb w] (n : Nat) : Tb (w.drewN n) := ⟨T.nam, T.chr⟩
instance {w : World} [T : Tb w] (o : Obj) : Tb (w.alloc o) := T.step ((Below.refl _ _).alloc (Nat.le_refl _) o)

theorem from_any (v : Bool) (w : World) : Calls Tryd.prog 42 #[.bool v] w fun e w' => e = .returned (.int .u8 (if v then 1 else 0)) ∧ w' = w := by
  cases v
  all_goals
    go_enter Tryd.func42, Tryd.ntmps42
    go_wp2
    go_ret
    exact ⟨rfl, rfl⟩
theorem char_any (v : Bool) (w : World) [T : Tb w] : Calls Tryd.prog 41 #[.int .u8 (if v then 1 else 0)] w fun e w' => e = .returned (.int .u8 (if v then 49 else 48)) ∧ ∃ m, w' = w.drewN m := by
  have c0 := T.chr 0
  have c1 := T.chr 1
  simp only [chrArr] at c0 c1
  simp at c0 c1
  clear T
  cases v
  all_goals
    go_enter Tryd.func41, Tryd.ntmps41
    go_wp2
    go_ret
    exact ⟨rfl, 0, rfl⟩

def stemB (k : Nat) : ByteArray := match k with
  | 0 => ⟨#[104, 105, 103, 104, 122]⟩
  | 1 => ⟨#[115, 109, 97, 108, 108]⟩
  | 2 => ⟨#[109, 101, 100, 105, 117, 109]⟩
  | 3 => ⟨#[119, 101, 97, 107]⟩
  | 4 => ⟨#[108, 97, 114, 103, 101]⟩
  | 5 => ⟨#[112, 117, 108, 108]⟩
  | 6 => ⟨#[115, 116, 114, 111, 110, 103]⟩
  | _ => ⟨#[115, 117, 112, 112, 108, 121]⟩
def nameB (s : Int) (one : Bool) : ByteArray := stemB s.toNat ++ (if one then ⟨#[49]⟩ else ⟨#[48]⟩)
theorem stem_big (n : Nat) (h : 7 ≤ n) : stemB n = stemB 7 := by
  unfold stemB
  split <;> first | omega | rfl
set_option maxHeartbeats 4000000 in
theorem name_any (s : Int) (one : Bool) (w : World) (h : 0 ≤ s) [T : Tb w] : Calls Tryd.prog 27 #[.int .u8 s, .bool one] w fun e w' => e = .returned (.string (nameB s one)) ∧ ∃ m, w' = w.drewN m := by
  have hs : s = 0 ∨ s = 1 ∨ s = 2 ∨ s = 3 ∨ s = 4 ∨ s = 5 ∨ s = 6 ∨ s = 7 ∨ 7 < s := by omega
  have n0 := T.nam 0
  have n1 := T.nam 1
  have n2 := T.nam 2
  have n3 := T.nam 3
  have n4 := T.nam 4
  have n5 := T.nam 5
  have n6 := T.nam 6
  have n7 := T.nam 7
  simp only [namArr] at n0 n1 n2 n3 n4 n5 n6 n7
  simp at n0 n1 n2 n3 n4 n5 n6 n7
  have u48 : Utf8.encode 48 = ⟨#[48]⟩ := by kernel_rfl
  have u49 : Utf8.encode 49 = ⟨#[49]⟩ := by kernel_rfl
  have eB : ∀ b, 7 < s → nameB s b = stemB 7 ++ (if b then ⟨#[49]⟩ else ⟨#[48]⟩) := fun b h => by
    unfold nameB
    rw [stem_big s.toNat (by omega)]
  have eB := Lib.hid eB
  cases one
  · rcases hs with rfl | rfl | rfl | rfl | rfl | rfl | rfl | rfl | hs
    all_goals
      go_enter Tryd.func27, Tryd.ntmps27
      go_wp2
      (go_quiet ((first | (go_at_call 42; exact Calls.quiet_of_same (from_any _ _)) | (go_at_call 41; exact Calls.quiet_of (char_any false _)))))
      go_wp2
      go_ret
      first | exact ⟨rfl, _, rfl⟩ | exact ⟨by rw [eB.out _ hs]; rfl, _, rfl⟩
  · rcases hs with rfl | rfl | rfl | rfl | rfl | rfl | rfl | rfl | hs
    all_goals
      go_enter Tryd.func27, Tryd.ntmps27
      go_wp2
      (go_quiet ((first | (go_at_call 42; exact Calls.quiet_of_same (from_any _ _)) | (go_at_call 41; exact Calls.quiet_of (char_any true _)))))
      go_wp2
      go_ret
      first | exact ⟨rfl, _, rfl⟩ | exact ⟨by rw [eB.out _ hs]; rfl, _, rfl⟩
set_option maxHeartbeats 4000000 in
theorem rname_any (s : Int) (one : Bool) (w : World) (h : 0 ≤ s) : Calls Tryd.prog 28 #[.int .u8 s, .bool one] w fun e w' => e = .returned (.string (nameB s one)) ∧ Below w.heap.size w w' := by
  have hs : s = 0 ∨ s = 1 ∨ s = 2 ∨ s = 3 ∨ s = 4 ∨ s = 5 ∨ s = 6 ∨ s = 7 ∨ 7 < s := by omega
  have eB : ∀ b, 7 < s → nameB s b = stemB 7 ++ (if b then ⟨#[49]⟩ else ⟨#[48]⟩) := fun b h => by
    unfold nameB
    rw [stem_big s.toNat (by omega)]
  have eB := Lib.hid eB
  cases one
  all_goals
    rcases hs with rfl | rfl | rfl | rfl | rfl | rfl | rfl | rfl | hs
    all_goals
      go_enter Tryd.func28, Tryd.ntmps28
      go_wp2
      go_ret
      first | exact ⟨rfl, below_new (Below.refl _ _) _⟩ | exact ⟨by rw [eB.out _ hs]; rfl, below_new (Below.refl _ _) _⟩
end Go.Proofs.YtjfhhlbgiepkpaaDoor
