/-
  Contracts of the program's classes of characters: decimal digits, words, the digit of a value. No conditions.
  Contracts of the program's functions that cut texts: the longest start of a class. Conditions: at most a million bytes.
  Contracts of the program's functions that look at texts: numbers, underscores. Conditions: at most 100,000 bytes; the variables that the library reads have values of their types.
  What the walks need of the library's variables, and the library's functions on texts in this place's words. Conditions: texts of at most 100,000 bytes, numbers of digits only.
  Contracts of the program's functions on sizes and plain literals. Conditions: at most 100,000 bytes.
  Contracts of the program's functions on plain literals, on characters for unknown bits and on the values of digits. Conditions: at most 100,000 bytes; characters below 128.
  Contracts of the program's functions on digits: the value of a digit in a base, the bases. Conditions: characters below 128.
  Contracts of the program's functions on digits: which digits a base accepts. Conditions: texts of characters below 128.
  What stands behind the apostrophe of a literal: the program's digits against this place's. Mathematics, and the library's functions that it uses. Conditions: characters below 128.
  The contract of the program's notationOf: what stands behind the apostrophe of a literal. Conditions: characters below 128, at most 100,000.
  The contracts of the program's functions that turn digits into bits. Conditions: digits that the base accepts, characters below 128, none of them a capital letter.
-/
import Derived.Test.YtgojnpblhfbdpaaGreatDoorQb
import Derived.Test.YtgojnpblhfbdpaaGreatDoorR1
import Derived.Test.YtgojnpblhfbdpaaGreatDoorShelf
import Derived.Lib.SmallJoins
import Derived.Test.YtgojnpblhfbdpaaGreatDoorW3
import Derived.Test.YtgojnpblhfbdpaaGreatDoorW5
namespace Go.Proofs.YtgojnpblhfbdpaaGreatDoor
open Go Go.RowKit

def decR (x : Int) : Bool := decide (48 ≤ x) && decide (x ≤ 57)
def letR (x : Int) : Bool := (decide (97 ≤ x) && decide (x ≤ 122)) || (decide (65 ≤ x) && decide (x ≤ 90))
def wordR (q : Bool) (x : Int) : Bool := letR x || decR x || decide (x = 95) || (q && decide (x = 63))
def numR (x : Int) : Bool := decR x || decide (x = 95)
def numC (c : UInt8) : Bool := decC c || c == 95
theorem ofNat_eq {x : Nat} (h : x < 128) (c : UInt8) : (UInt8.ofNat x == c) = decide (x = c.toNat) := by
  rw [Bool.eq_iff_iff, beq_iff_eq, decide_eq_true_eq]
  constructor
  · rintro rfl; simp; omega
  · rintro rfl; simp
theorem cls_dec (x : Nat) : clsR decC x = decR x := by
  unfold clsR decR decC
  by_cases h : x < 128
  · have e : (UInt8.ofNat x).toNat = x := by simp; omega
    rw [e, Bool.eq_iff_iff]; simp [h]; omega
  · rw [Bool.eq_iff_iff]; simp; omega
theorem cls_num (x : Nat) : clsR numC x = numR x := by
  unfold clsR numR numC decR decC
  by_cases h : x < 128
  · have e : (UInt8.ofNat x).toNat = x := by simp; omega
    rw [e, ofNat_eq h, Bool.eq_iff_iff]; simp [h]; omega
  · rw [Bool.eq_iff_iff]; simp; omega
theorem cls_word (q : Bool) (x : Nat) : clsR (wordC q) x = wordR q x := by
  unfold clsR wordR wordC letC letR decR decC
  by_cases h : x < 128
  · have e : (UInt8.ofNat x).toNat = x := by simp; omega
    rw [e, ofNat_eq h, ofNat_eq h, Bool.eq_iff_iff]; cases q <;> simp [h] <;> omega
  · rw [Bool.eq_iff_iff]; cases q <;> simp <;> omega
theorem num_asc (c : UInt8) (h : 128 ≤ c.toNat) : numC c = false := by
  have h1 : c ≠ 95 := by rintro rfl; revert h; decide
  unfold numC decC
  simp [h1]
  omega
set_option maxRecDepth 100000 in
theorem isDec_any (x : Int) (w : World) : Calls Tryz.prog 84 #[.int .i32 x] w fun e w' => e = .returned (.bool (decR x)) ∧ w = w' := by
  by_cases h1 : 48 ≤ x <;> by_cases h2 : x ≤ 57
  all_goals
    go_enter Tryz.func84, Tryz.ntmps84
    go_wp2
    go_ret
    exact ⟨ret_bool (by rw [Bool.eq_iff_iff]; simp [decR]; try omega), rfl⟩
set_option maxRecDepth 100000 in
theorem rDec_any (x : Int) (w : World) : Calls Tryz.prog 75 #[.int .u8 x] w fun e w' => e = .returned (.bool (decR x)) ∧ w = w' := by
  by_cases h1 : 48 ≤ x <;> by_cases h2 : x ≤ 57
  all_goals
    go_enter Tryz.func75, Tryz.ntmps75
    go_wp2
    go_ret
    exact ⟨ret_bool (by rw [Bool.eq_iff_iff]; simp [decR]; try omega), rfl⟩
set_option maxRecDepth 100000 in
theorem rLet_any (x : Int) (w : World) : Calls Tryz.prog 74 #[.int .u8 x] w fun e w' => e = .returned (.bool (letR x)) ∧ w = w' := by
  by_cases h1 : 97 ≤ x <;> by_cases h2 : x ≤ 122 <;> by_cases h3 : 65 ≤ x <;> by_cases h4 : x ≤ 90
  all_goals first | (exfalso; omega) | skip
  all_goals
    go_enter Tryz.func74, Tryz.ntmps74
    go_wp2
    go_ret
    exact ⟨ret_bool (by rw [Bool.eq_iff_iff]; simp [letR]; try omega), rfl⟩
set_option maxRecDepth 100000 in
theorem inNum_any (x : Int) (w : World) : Calls Tryz.prog 45 #[.int .i32 x] w fun e w' => e = .returned (.bool (wordR false x)) ∧ w = w' := by
  have HD := isDec_any x
  have e : wordR false x = (letR x || decR x || decide (x = 95)) := by simp [wordR]
  rw [e]
  clear e
  by_cases h1 : 97 ≤ x <;> by_cases h2 : x ≤ 122 <;> by_cases h3 : 65 ≤ x <;> by_cases h4 : x ≤ 90
  all_goals first | (exfalso; omega) | skip
  all_goals
    cases hd : decR x
    all_goals
      rw [hd] at HD
      replace HD := Lib.hid HD
      cases h5 : decide (x = 95)
      all_goals
        have h6 : (x == 95) = decide (x = 95) := rfl
        rw [h5] at h6
        go_enter Tryz.func45, Tryz.ntmps45
        go_wp2_with (first | (go_at_call 84; (with_reducible refine (HD.out _).mono ?_); rintro e w' ⟨rfl, rfl⟩))
        go_ret
        exact ⟨ret_bool (by first | rfl | (simp [letR, *]; done) | (rw [Bool.eq_iff_iff]; simp [letR]; omega)), rfl⟩
set_option maxRecDepth 100000 in
theorem isNum1_any (x : Int) (w : World) : Calls Tryz.prog 86 #[.int .i32 x] w fun e w' => e = .returned (.bool (numR x)) ∧ w = w' := by
  have HD := (isDec_any x)
  unfold numR
  cases hd : decR x
  all_goals
    rw [hd] at HD
    replace HD := Lib.hid HD
    clear hd
    cases h5 : decide (x = 95)
    all_goals
      have h6 : (x == 95) = decide (x = 95) := rfl
      rw [h5] at h6
      go_enter Tryz.func86, Tryz.ntmps86
      go_wp2_with (first | (go_at_call 84; (with_reducible refine (HD.out _).mono ?_); rintro e w' ⟨rfl, rfl⟩))
      go_ret
      exact ⟨ret_bool (by simp), rfl⟩
set_option maxRecDepth 100000 in
theorem inBody_any (x : Int) (w : World) : Calls Tryz.prog 88 #[.int .i32 x] w fun e w' => e = .returned (.bool (wordR true x)) ∧ w = w' := by
  have HD := (inNum_any x)
  have e : wordR true x = (wordR false x || decide (x = 63)) := by simp [wordR]
  rw [e]
  clear e
  cases hd : wordR false x
  all_goals
    rw [hd] at HD
    replace HD := Lib.hid HD
    clear hd
    cases h5 : decide (x = 63)
    all_goals
      have h6 : (x == 63) = decide (x = 63) := rfl
      rw [h5] at h6
      go_enter Tryz.func88, Tryz.ntmps88
      go_wp2_with (first | (go_at_call 45; (with_reducible refine (HD.out _).mono ?_); rintro e w' ⟨rfl, rfl⟩))
      go_ret
      exact ⟨ret_bool (by simp), rfl⟩
end Go.Proofs.YtgojnpblhfbdpaaGreatDoor

namespace Go.Proofs.YtgojnpblhfbdpaaGreatDoor
open Go Go.RowKit

/-- A function value on runes that tells whether the rune is a character of a class. -/
def Cls (w : World) (g : Nat) (lb : Array Value) (p : UInt8 → Bool) : Prop := PredGrows Tryz.prog g lb (clsR p) w
theorem Cls.step {w u : World} {g : Nat} {lb : Array Value} {p : UInt8 → Bool} (h : Cls w g lb p) (hb : Below w.heap.size w u) : Cls u g lb p := h.later hb
theorem cls_num1 (w : World) : Cls w 86 #[] numC := fun W x _ _ => by
  rw [cls_num]
  exact (isNum1_any (x : Int) W).mono fun e w' ⟨he, hw⟩ => ⟨he, hw ▸ Below.refl _ _⟩
theorem cls_inNum (w : World) : Cls w 45 #[] (wordC false) := fun W x _ _ => by
  rw [cls_word]
  exact (inNum_any (x : Int) W).mono fun e w' ⟨he, hw⟩ => ⟨he, hw ▸ Below.refl _ _⟩
theorem cls_inBody (w : World) : Cls w 88 #[] (wordC true) := fun W x _ _ => by
  rw [cls_word]
  exact (inBody_any (x : Int) W).mono fun e w' ⟨he, hw⟩ => ⟨he, hw ▸ Below.refl _ _⟩
theorem ent_num1 : Ent 86 := enters_of Tryz.func86 (by kernel_rfl) rfl
theorem ent_inNum : Ent 45 := enters_of Tryz.func45 (by kernel_rfl) rfl
theorem ent_inBody : Ent 88 := enters_of Tryz.func88 (by kernel_rfl) rfl
theorem ent_lead1 : Ent 82 := enters_of Tryz.func82 (by kernel_rfl) rfl
set_option maxRecDepth 100000 in
theorem lead1_any (b : Nat) (g : Nat) (lb : Array Value) (q : Bool) (x : Nat) (W : World) (hc : W.cell? ⟨b, 0, none⟩ = some (.func (.func g) #[] lb)) (eg : Ent g)
    (hq : Calls Tryz.prog g (#[.int .i32 (x : Int)] ++ lb) W fun e w' => e = .returned (.bool q) ∧ Below W.heap.size W w') :
    Calls Tryz.prog 82 #[.int .i32 (x : Int), .pointer (some ⟨b, 0, none⟩)] W fun e w' => e = .returned (.bool (!q)) ∧ Below W.heap.size W w' := by
  unfold Ent at eg
  cases q
  all_goals
    go_enter Tryz.func82, Tryz.ntmps82
    go_wp2_with (go_at_fn g; refine hq.mono ?_; rintro e w' ⟨rfl, hb⟩)
    go_ret
    exact ⟨rfl, hb⟩
set_option maxRecDepth 100000 in
theorem leading_any (s : ByteArray) (g : Nat) (lb : Array Value) (p : UInt8 → Bool) (hp : ∀ c : UInt8, 128 ≤ c.toNat → p c = false) (w : World) (eg : Ent g) (hc : Cls w g lb p) :
    Calls Tryz.prog 44 #[.string s, .func (.func g) #[] lb] w fun e w' => e = .returned (.string (str ((byt s).takeWhile p))) ∧ Below w.heap.size w w' := by
  have HI : Hid (Calls Tryz.prog 83 #[.string s, .func (.func 82) #[] #[.pointer (some ⟨w.heap.size, 0, none⟩)]] (w.alloc (.cells #[.func (.func g) #[] lb] 69)) fun e w' => e = .returned (.int .i64 (if (byt s).all p then -1 else (((byt s).takeWhile p).length : Int))) ∧ Below w.heap.size w w') := by
    refine Lib.hid ?_
    refine (Tryz.strings_IndexFunc_grows _ _ ent_lead1 (fun r => !clsR p r) s _ ?_).mono fun e w' ⟨he, hb⟩ => ⟨by rw [he, idx_cls p hp], below_step (below_new (Below.refl _ _) _) hb⟩
    intro W x hx hb
    have hO := (Own.new w 69 #[.func (.func g) #[] lb]).step hb
    exact lead1_any w.heap.size g lb (clsR p x) x W (hO.cell 0) eg (hc W x hx (below_step (below_new (Below.refl _ _) _) hb))
  clear hc
  cases hall : (byt s).all p
  · have hlt := tw_short hall
    have htk : str ((byt s).takeWhile p) = s.extract 0 ((byt s).takeWhile p).length := by
      rw [← str_byt (s.extract 0 _), byt_ext, List.drop_zero, Nat.sub_zero, tw_take]
    rw [hall] at HI
    simp only [Bool.false_eq_true, if_false] at HI
    rw [htk]
    rw [byt_len] at hlt
    clear htk hall
    generalize ((byt s).takeWhile p).length = n at *
    go_enter Tryz.func44, Tryz.ntmps44
    go_wp2_with (go_at_call 83; (with_reducible refine HI.out.mono ?_); rintro e w' ⟨rfl, hb⟩)
    go_ret
    exact ⟨rfl, hb⟩
  · rw [hall] at HI
    simp only [if_true] at HI
    rw [tw_all hall, str_byt]
    clear hall
    go_enter Tryz.func44, Tryz.ntmps44
    go_wp2_with (go_at_call 83; (with_reducible refine HI.out.mono ?_); rintro e w' ⟨rfl, hb⟩)
    go_ret
    exact ⟨rfl, hb⟩
end Go.Proofs.YtgojnpblhfbdpaaGreatDoor

namespace Go.Proofs.YtgojnpblhfbdpaaGreatDoor
open Go Go.RowKit

theorem num_ok (c : UInt8) (t : List UInt8) : numOk (c :: t) = (!(c == 95) && ((c :: t).takeWhile numC == c :: t)) := by
  unfold numOk
  have e : (c :: t).all (fun c => decC c || c == 95) = (c :: t).all numC := rfl
  rw [e]
  have h2 : ((c :: t).takeWhile numC == c :: t) = (c :: t).all numC := by
    cases h : (c :: t).all numC
    · have := tw_short h
      rw [beq_eq_false_iff_ne]
      intro he
      rw [he] at this
      omega
    · rw [tw_all h, beq_self_eq_true]
  rw [h2]
  simp only [List.head?_cons, Option.map_some, Option.getD_some, List.all_cons]
  unfold numC
  cases h1 : decC c
  · cases h5 : c == 95 <;> simp
  · have : (c == 95) = false := by
      have := dec_no95 h1
      simpa using this
    simp [this]
set_option maxRecDepth 100000 in
theorem isNumber_nil (w : World) : Calls Tryz.prog 47 #[.string (str [])] w fun e w' => e = .returned (.bool false) ∧ Below w.heap.size w w' := by
  go_enter Tryz.func47, Tryz.ntmps47
  go_wp2
  go_ret
  exact ⟨rfl, Below.refl _ _⟩
theorem ch_ne {c : UInt8} {n : Nat} (h : c.toNat ≠ n) : ((c.toNat : Int) == n) = false := by rw [beq_eq_false_iff_ne]; omega
theorem ch_eq {c : UInt8} {n : Nat} (h : c.toNat = n) : ((c.toNat : Int) == n) = true := by rw [beq_iff_eq]; omega
theorem u8_ne {c d : UInt8} (h : (c == d) = false) : c.toNat ≠ d.toNat := fun e => by
  rw [beq_eq_false_iff_ne] at h
  exact h (UInt8.toNat_inj.1 e)
theorem u8_eq {c d : UInt8} (h : (c == d) = true) : c.toNat = d.toNat := by rw [beq_iff_eq] at h; rw [h]
theorem str_0 (c : UInt8) (t : List UInt8) (h : 0 < (str (c :: t)).size) : (str (c :: t))[0]'h = c := rfl
set_option maxRecDepth 100000 in
theorem isNumber_cons (c : UInt8) (t : List UInt8) (w : World) : Calls Tryz.prog 47 #[.string (str (c :: t))] w fun e w' => e = .returned (.bool (numOk (c :: t))) ∧ Below w.heap.size w w' := by
  rw [num_ok]
  have HL := Lib.hid (leading_any (str (c :: t)) _ #[] numC num_asc w ent_num1 (cls_num1 w))
  have hc0 := str_0 c t
  have hb0 := byt_str (c :: t)
  cases h5 : c == 95
  · have h7 : ((c.toNat : Int) == 95) = false := ch_ne (u8_ne h5)
    have h8 : ((c.toNat : Int) != 95) = true := by unfold bne; rw [h7]; rfl
    clear h5
    cases hq : ((c :: t).takeWhile numC == c :: t)
    all_goals
      go_enter Tryz.func47, Tryz.ntmps47
      go_wp2_with (first | (go_at_call 44; (with_reducible refine HL.out.mono ?_); rintro e w' ⟨rfl, hb⟩))
      go_ret
      exact ⟨rfl, hb⟩
  · obtain rfl : c = 95 := beq_iff_eq.1 h5
    go_enter Tryz.func47, Tryz.ntmps47
    go_wp2
    go_ret
    exact ⟨rfl, Below.refl _ _⟩
theorem isNumber_any (s : ByteArray) (w : World) : Calls Tryz.prog 47 #[.string s] w fun e w' => e = .returned (.bool (numOk (byt s))) ∧ Below w.heap.size w w' := by
  obtain ⟨l, rfl⟩ : ∃ l, s = str l := ⟨byt s, (str_byt s).symm⟩
  rw [byt_str]
  cases l with
  | nil => exact isNumber_nil w
  | cons c t => exact isNumber_cons c t w
end Go.Proofs.YtgojnpblhfbdpaaGreatDoor

namespace Go.Proofs.YtgojnpblhfbdpaaGreatDoor
open Go Go.RowKit

/-- The variables that the program reads hold values of their types, and the two tables read as the program lays them. -/
structure Env (w : World) : Prop where
  mx : ∃ m, w.cell? ⟨4, 0, none⟩ = some (.int .i64 m)
  er : ∃ v, w.cell? ⟨2, 0, none⟩ = some v ∧ (v = .nilIface ∨ ∃ t p, v = .iface t p)
  pw : Lib.TabIs Tryz.prog w "internal/strconv.uint64pow10" .u64 Lib.pow10Tab
  ch : ∀ k < 4, w.cell? ⟨0, k, none⟩ = some (.int .u8 (tabI [48, 49, 120, 122] k))
theorem tab_step {w u : World} (hb : Below w.heap.size w u) {n : String} {k : IntKind} {l : List Int} (h : Lib.TabIs Tryz.prog w n k l) : Lib.TabIs Tryz.prog u n k l := by
  unfold Lib.TabIs World.var? at h ⊢
  cases hg : Tryz.prog.globalNamed n with
  | none => rw [hg] at h; cases h
  | some g =>
    rw [hg] at h
    simp only [Option.bind_some] at h ⊢
    have hlt : g < w.heap.size := by
      rcases Nat.lt_or_ge g w.heap.size with h1 | h1
      · exact h1
      · rw [Array.getElem?_eq_none h1] at h; cases h
    rw [hb.block g hlt]
    exact h
theorem Env.step {w u : World} (E : Env w) (hb : Below w.heap.size w u) : Env u :=
  ⟨E.mx.imp fun _ h => cell_step hb h, E.er.imp fun _ h => ⟨cell_step hb h.1, h.2⟩, tab_step hb E.pw, fun k h => cell_step hb (E.ch k h)⟩
theorem Env.at_later {w u : World} (hb : Below w.heap.size w u) (E : Env w) : Env u := E.step hb
theorem Env.alloc {w : World} (E : Env w) (o : Obj) : Env (w.alloc o) := E.step (below_new (Below.refl _ _) o)
theorem Env.drew {w : World} (E : Env w) : Env w.drew := E.step (below_drew (Below.refl _ _))
theorem Env.drewN {w : World} (E : Env w) (n : Nat) : Env (w.drewN n) := E.step (below_drewN (Below.refl _ _) n)

theorem repl_us (s : ByteArray) (w : World) (E : Env w) (hs : s.size ≤ 100000) : Calls Tryz.prog 133 #[.string s, .string (str [95]), .string (str [])] w fun e w' => e = .returned (.string (str ((byt s).filter (· != 95)))) ∧ Below w.heap.size w w' := by
  obtain ⟨m, hm⟩ := E.mx
  refine (Tryz.strings_ReplaceAll s (str [95]) (str []) m w (by omega) hm (by decide) (by
    have : (str []).size = 0 := rfl
    rw [this]
    omega)).mono fun e w' ⟨he, hb⟩ => ⟨?_, hb⟩
  rw [he]
  exact congrArg (fun l => Ending.returned (.string (str l))) (no_us (byt s))
set_option maxRecDepth 100000 in
theorem noUs_any (s : ByteArray) (w : World) (E : Env w) (hs : s.size ≤ 100000) : Calls Tryz.prog 92 #[.string s] w fun e w' => e = .returned (.string (str ((byt s).filter (· != 95)))) ∧ Below w.heap.size w w' := by
  have HR := Lib.hid (repl_us s w E hs)
  clear E
  go_enter Tryz.func92, Tryz.ntmps92
  go_wp2_with (first | (go_at_call 133; (with_reducible refine HR.out.mono ?_); rintro e w' ⟨rfl, hb⟩))
  go_ret
  exact ⟨rfl, hb⟩
theorem below_bw {w w' : World} {e : TypeId} (h : w' = w ∨ ∃ t, w' = Lib.bytesWorld w e t) : Below w.heap.size w w' := by
  rcases h with rfl | ⟨t, rfl⟩
  · exact Below.refl _ _
  · exact Go.Joins.below_bytesWorld _ _ _ _ (Nat.le_refl _)
theorem size_str (l : List UInt8) : (str l).size = l.length := rfl
/-- strconv.Atoi at digits. -/
def AtoiR (n : Nat) (w : World) (e : Ending) (w' : World) : Prop := (if 9223372036854775807 < n then ∃ x t p, e = .returned (.tuple #[.int .i64 x, .iface t p]) else e = .returned (.tuple #[.int .i64 (n : Int), .nilIface])) ∧ Below w.heap.size w w'
theorem atoi_any (l : List UInt8) (w : World) (E : Env w) (hl : l.length ≤ 100000) (hd : ∀ c ∈ l, decC c = true) (hne : l ≠ []) : Calls Tryz.prog 123 #[.string (str l)] w (AtoiR (valL l) w) := by
  have h := atoi_dig hd hne
  by_cases hv : 9223372036854775807 < valL l
  · rw [if_pos hv] at h
    obtain ⟨v, h1, h2⟩ := E.er
    refine (Tryz.strconv_Atoi_range (str l) (by rw [size_str]; omega) h v w h1 h2).mono fun e w' ⟨N, he, _, _, hb⟩ => ?_
    unfold AtoiR
    rw [if_pos hv]
    exact ⟨⟨_, _, _, he⟩, hb⟩
  · rw [if_neg hv] at h
    refine (Tryz.strconv_Atoi_ok (str l) (by rw [size_str]; omega) _ h w).mono fun e w' ⟨he, hb⟩ => ?_
    unfold AtoiR
    rw [if_neg hv]
    exact ⟨he, below_bw hb⟩
/-- strconv.ParseInt(.., 10, 32) at digits. -/
def PintR (n : Nat) (w : World) (e : Ending) (w' : World) : Prop := (if 2147483647 < n then ∃ x t p, e = .returned (.tuple #[.int .i64 x, .iface t p]) else e = .returned (.tuple #[.int .i64 (n : Int), .nilIface])) ∧ Below w.heap.size w w'
theorem pint_any (l : List UInt8) (w : World) (E : Env w) (hl : l.length ≤ 100000) (hd : ∀ c ∈ l, decC c = true) (hne : l ≠ []) : Calls Tryz.prog 91 #[.string (str l), .int .i64 10, .int .i64 32] w (PintR (valL l) w) := by
  have h := parse32 hd hne
  by_cases hv : 2147483647 < valL l
  · rw [if_pos hv] at h
    obtain ⟨v, h1, h2⟩ := E.er
    refine (Tryz.strconv_ParseInt_10_at32_range (str l) (by rw [size_str]; omega) h v w h1 h2).mono fun e w' ⟨N, he, _, _, hb⟩ => ?_
    unfold PintR
    rw [if_pos hv]
    exact ⟨⟨_, _, _, he⟩, hb⟩
  · rw [if_neg hv] at h
    refine (Tryz.strconv_ParseInt_10_at32_ok (str l) (by rw [size_str]; omega) _ h w).mono fun e w' ⟨he, hb⟩ => ?_
    unfold PintR
    rw [if_neg hv]
    exact ⟨he, below_bw hb⟩
theorem itoa_any (n : Nat) (w : World) (E : Env w) (hn : n ≤ 100000) : Calls Tryz.prog 50 #[.int .i64 (n : Int)] w fun e w' => e = .returned (.string (str (decL n))) ∧ Below w.heap.size w w' := by
  refine (Tryz.strconv_Itoa (n : Int) (by omega) (by omega) w E.pw).mono fun e w' ⟨he, k, os, hw⟩ => ⟨by rw [he, itoa_nat], ?_⟩
  rw [hw]
  refine ⟨rfl, rfl, rfl, ?_, fun j hj => ?_⟩
  · show w.heap.size ≤ ((w.drewN k).heap ++ os).size
    rw [Array.size_append]
    exact Nat.le_add_right _ _
  · show ((w.drewN k).heap ++ os)[j]? = w.heap[j]?
    rw [Array.getElem?_append_left (show j < (w.drewN k).heap.size from hj)]
    rfl
end Go.Proofs.YtgojnpblhfbdpaaGreatDoor

namespace Go.Proofs.YtgojnpblhfbdpaaGreatDoor
open Go Go.RowKit

theorem filt_dec {l : List UInt8} (h : numOk l = true) : (∀ c ∈ l.filter (· != 95), decC c = true) ∧ l.filter (· != 95) ≠ [] := by
  unfold numOk at h
  rw [Bool.and_eq_true, List.all_eq_true] at h
  refine ⟨fun c hc => ?_, ?_⟩
  · obtain ⟨h1, h2⟩ := List.mem_filter.1 hc
    have := h.2 c h1
    rw [bne_iff_ne] at h2
    rw [Bool.or_eq_true, beq_iff_eq] at this
    exact this.resolve_right h2
  · cases l with
    | nil => simp at h
    | cons c t =>
      have hd : decC c = true := by simpa using h.1
      rw [List.filter_cons, if_pos (dec_no95 hd)]
      simp
theorem filt_len (l : List UInt8) : (l.filter (· != 95)).length ≤ l.length := List.length_filter_le _ _
/-- The width for a size, and the error. -/
def widE (l : List UInt8) : Int × Int := if l = [] then (32, 0) else if valU l < 1 ∨ 128 < valU l then (0, 12) else (valU l, 0)
set_option maxRecDepth 100000 in
theorem widthOf_any (l : List UInt8) (w : World) (E : Env w) (hl : l.length ≤ 100000) (hok : l = [] ∨ numOk l = true) :
    Calls Tryz.prog 87 #[.string (str l)] w fun e w' => e = .returned (.tuple #[.int .i64 (widE l).1, .int .i64 (widE l).2]) ∧ Below w.heap.size w w' := by
  rcases hok with rfl | hok
  · go_enter Tryz.func87, Tryz.ntmps87
    go_wp2
    go_ret2
    exact ⟨rfl, Below.refl _ _⟩
  · have hne : l ≠ [] := fun e => by rw [e] at hok; exact absurd hok (by decide)
    obtain ⟨hd, hf⟩ := filt_dec hok
    have HN := Lib.hid (noUs_any (str l) w E (by rw [size_str]; exact hl))
    have hw : widE l = if valU l < 1 ∨ 128 < valU l then (0, 12) else ((valU l : Int), 0) := by unfold widE; rw [if_neg hne]
    rw [hw]
    have hl0 : (l == []) = false := by simpa using hne
    have hl1 : l.isEmpty = false := by cases l with | nil => exact absurd rfl hne | cons _ _ => rfl
    have hfl : (l.filter (· != 95)).length ≤ 100000 := Nat.le_trans (filt_len l) hl
    have HA := Lib.hid fun (u : World) (hb : Below w.heap.size w u) => atoi_any _ u (E.step hb) hfl hd hf
    have hv : valU l = valL (l.filter (· != 95)) := rfl
    rw [byt_str] at HN
    rw [← hv] at HA
    generalize l.filter (· != 95) = m at *
    generalize valU l = n at *
    clear hw hv hd hf hok hfl E hne
    by_cases h9 : 9223372036854775807 < n
    · replace HA : Hid (∀ (u : World), Below w.heap.size w u → Calls Tryz.prog 123 #[.string (str m)] u fun e w' => (∃ x t p, e = .returned (.tuple #[.int .i64 x, .iface t p])) ∧ Below u.heap.size u w') := Lib.hid fun u hb => (HA.out u hb).mono fun e w' h => by
        unfold AtoiR at h
        rw [if_pos h9] at h
        exact h
      rw [if_pos (by omega)]
      clear h9
      go_enter Tryz.func87, Tryz.ntmps87
      go_wp2_with (first | (go_at_call 92; (with_reducible refine HN.out.mono ?_); rintro e w1 ⟨rfl, hb⟩) | (go_at_call 123; (with_reducible refine (HA.out _ hb).mono ?_); rintro e w2 ⟨⟨x, t, p, rfl⟩, hb2⟩))
      go_ret2
      exact ⟨rfl, below_step hb hb2⟩
    · replace HA : Hid (∀ (u : World), Below w.heap.size w u → Calls Tryz.prog 123 #[.string (str m)] u fun e w' => e = .returned (.tuple #[.int .i64 (n : Int), .nilIface]) ∧ Below u.heap.size u w') := Lib.hid fun u hb => (HA.out u hb).mono fun e w' h => by
        unfold AtoiR at h
        rw [if_neg h9] at h
        exact h
      have d0 : (n : Int) ≤ 9223372036854775807 := by omega
      by_cases h1 : n < 1
      · obtain rfl : n = 0 := by omega
        rw [if_pos (by omega)]
        go_enter Tryz.func87, Tryz.ntmps87
        go_wp2_with (first | (go_at_call 92; (with_reducible refine HN.out.mono ?_); rintro e w1 ⟨rfl, hb⟩) | (go_at_call 123; (with_reducible refine (HA.out _ hb).mono ?_); rintro e w2 ⟨rfl, hb2⟩))
        go_ret2
        exact ⟨rfl, below_step hb hb2⟩
      · have d1 : decide ((n : Int) < 1) = false := by simp; omega
        by_cases h2 : 128 < n
        · have d2 : decide (128 < (n : Int)) = true := by simp; omega
          rw [if_pos (by omega)]
          clear h1 h2 h9
          go_enter Tryz.func87, Tryz.ntmps87
          go_wp2_with (first | (go_at_call 92; (with_reducible refine HN.out.mono ?_); rintro e w1 ⟨rfl, hb⟩) | (go_at_call 123; (with_reducible refine (HA.out _ hb).mono ?_); rintro e w2 ⟨rfl, hb2⟩))
          go_ret2
          exact ⟨rfl, below_step hb hb2⟩
        · have d2 : decide (128 < (n : Int)) = false := by simp; omega
          rw [if_neg (by omega)]
          clear h1 h2 h9
          go_enter Tryz.func87, Tryz.ntmps87
          go_wp2_with (first | (go_at_call 92; (with_reducible refine HN.out.mono ?_); rintro e w1 ⟨rfl, hb⟩) | (go_at_call 123; (with_reducible refine (HA.out _ hb).mono ?_); rintro e w2 ⟨rfl, hb2⟩))
          go_ret2
          exact ⟨rfl, below_step hb hb2⟩
end Go.Proofs.YtgojnpblhfbdpaaGreatDoor

namespace Go.Proofs.YtgojnpblhfbdpaaGreatDoor
open Go Go.RowKit

theorem fi_nat {n m : Nat} (h : n < 2 ^ m) : B.fi (n : Int) m = n := by
  unfold B.fi
  have : ((n : Int) % (2 : Int) ^ m) = ((n % 2 ^ m : Nat) : Int) := by
    rw [Int.natCast_emod, Int.natCast_pow]
    rfl
  rw [this, Int.toNat_natCast, Nat.mod_eq_of_lt h]
theorem from_nat {n m : Nat} (h : n < 2 ^ m) (h1 : 1 ≤ m) (h2 : m ≤ 128) (s : Bool) : fromV (n : Int) (m : Int) s = ⟨frN m n, s⟩ := by
  have hv : vwB (m : Int) = true := by unfold vwB; simp; omega
  unfold fromV
  rw [hv, if_pos rfl, Int.toNat_natCast, fi_nat h]
theorem vw_ok {m : Nat} (h1 : 1 ≤ m) (h2 : m ≤ 128) : vwE (m : Int) = 0 := by
  have hv : vwB (m : Int) = true := by unfold vwB; simp; omega
  unfold vwE
  rw [hv, if_pos rfl]
/-- A plain literal's vector and error. -/
def plainV (n : Nat) : V := if 2147483647 < n then nilV else ⟨frN 32 n, true⟩
def plainE (n : Nat) : Int := if 2147483647 < n then 5 else 0
set_option maxRecDepth 100000 in
theorem parsePlain_any (l : List UInt8) (w : World) (E : Env w) (hl : l.length ≤ 100000) (hok : numOk l = true) :
    Calls Tryz.prog 49 #[.string (str l)] w (RetX w (plainV (valU l)) (plainE (valU l))) := by
  have O0 := (Own.at1 w 26 #[.slice none 0 0, .bool false] (g := w.heap.size) (by simp))
  have BB := (below_new (Below.refl w.heap.size w) (.cells #[.slice none 0 0, .bool false] 26))
  obtain ⟨hd, hf⟩ := filt_dec hok
  have HN := Lib.hid fun (u : World) (hb : Below w.heap.size w u) => noUs_any (str l) u (E.step hb) (by rw [size_str]; exact hl)
  have hfl : (l.filter (· != 95)).length ≤ 100000 := Nat.le_trans (filt_len l) hl
  have HA := Lib.hid fun (u : World) (hb : Below w.heap.size w u) => pint_any _ u (E.step hb) hfl hd hf
  have hv : valU l = valL (l.filter (· != 95)) := rfl
  rw [byt_str] at HN
  rw [← hv] at HA
  generalize l.filter (· != 95) = m at *
  generalize valU l = n at *
  clear hv hd hf hok hfl E
  unfold plainV plainE
  have qO00 := O0.cell 0; have qO01 := O0.cell 1; have fO00 := O0.free 0; have fO01 := O0.free 1
  by_cases h9 : 2147483647 < n
  · replace HA : Hid (∀ (u : World), Below w.heap.size w u → Calls Tryz.prog 91 #[.string (str m), .int .i64 10, .int .i64 32] u fun e w' => (∃ x t p, e = .returned (.tuple #[.int .i64 x, .iface t p])) ∧ Below u.heap.size u w') := Lib.hid fun u hb => (HA.out u hb).mono fun e w' h => by
      unfold PintR at h
      rw [if_pos h9] at h
      exact h
    rw [if_pos h9, if_pos h9]
    clear h9
    go_enter Tryz.func49, Tryz.ntmps49
    go_wp2_with (first
      | (go_at_call 92; (with_reducible refine (HN.out _ BB).mono ?_); rintro e w1 ⟨rfl, hb⟩; replace BB := below_step BB hb; replace O0 := O0.step hb)
      | (go_at_call 91; (with_reducible refine (HA.out _ BB).mono ?_); rintro e w2 ⟨⟨x, t, p, rfl⟩, hb2⟩; replace BB := below_step BB hb2; replace O0 := O0.step hb2; have q0 := O0.cell 0; have q1 := O0.cell 1; have f0 := O0.free 0; have f1 := O0.free 1))
    exact ret_vecE Tryz.results49 rfl rfl rfl (O0.put2 _ _) ⟨none, 0, 0, rfl, by decide, by decide, Nb.nil _ _, below_set2 BB (Nat.le_refl _) _ _⟩
  · replace HA : Hid (∀ (u : World), Below w.heap.size w u → Calls Tryz.prog 91 #[.string (str m), .int .i64 10, .int .i64 32] u fun e w' => e = .returned (.tuple #[.int .i64 (n : Int), .nilIface]) ∧ Below u.heap.size u w') := Lib.hid fun u hb => (HA.out u hb).mono fun e w' h => by
      unfold PintR at h
      rw [if_neg h9] at h
      exact h
    rw [if_neg h9, if_neg h9]
    have HF := Lib.hid fun (u : World) => fromInt_v_w (n : Int) 32 true u (by omega)
    rw [show (32 : Int) = ((32 : Nat) : Int) from rfl, from_nat (m := 32) (by omega) (by decide) (by decide), vw_ok (by decide) (by decide)] at HF
    have hr : (⟨frN 32 n, true⟩ : V) = ⟨frN 32 n, true⟩ := rfl
    generalize (⟨frN 32 n, true⟩ : V) = v at *
    clear hr h9
    go_enter Tryz.func49, Tryz.ntmps49
    go_wp2_with (first
      | (go_at_call 92; (with_reducible refine (HN.out _ BB).mono ?_); rintro e w1 ⟨rfl, hb⟩; replace BB := below_step BB hb; replace O0 := O0.step hb)
      | (go_at_call 91; (with_reducible refine (HA.out _ BB).mono ?_); rintro e w2 ⟨rfl, hb2⟩; replace BB := below_step BB hb2; replace O0 := O0.step hb2)
      | (go_at_call 34; (refine (HF.out _).mono ?_); rintro e w3 ⟨A, k, c, rfl, hc, hn, hN, hb3⟩; have hlt := O0.lt; have hB := BB.size; replace BB := below_step BB hb3; replace O0 := O0.step hb3; have q0 := O0.cell 0; have q1 := O0.cell 1; have f0 := O0.free 0; have f1 := O0.free 1))
    exact ret_vecE Tryz.results49 rfl rfl rfl (O0.put2 _ _) ⟨A, k, c, rfl, hc, hn, (hN.far2 hlt _ _).mono hB, below_set2 BB (Nat.le_refl _) _ _⟩
/-- The bit for a character, and whether it is one's. -/
def pbI (x : Int) : Int := if x = 48 then 0 else if x = 49 then 1 else if x = 120 ∨ x = 88 then 2 else if x = 122 ∨ x = 90 ∨ x = 63 then 3 else 0
def pbQ (x : Int) : Bool := decide (x = 48) || decide (x = 49) || decide (x = 120) || decide (x = 88) || decide (x = 122) || decide (x = 90) || decide (x = 63)
theorem pair_ib {k : IntKind} {a b : Int} {p q : Bool} (h : a = b) (h' : p = q) : Ending.returned (.tuple #[.int k a, .bool p]) = .returned (.tuple #[.int k b, .bool q]) := by rw [h, h']
set_option maxRecDepth 100000 in
theorem parseBit_any (x : Int) (w : World) : Calls Tryz.prog 155 #[.int .u8 x] w fun e w' => e = .returned (.tuple #[.int .u8 (pbI x), .bool (pbQ x)]) ∧ w = w' := by
  by_cases h1 : x = 48
  · subst h1
    go_enter Tryz.func155, Tryz.ntmps155
    go_wp2
    go_ret2
    exact ⟨rfl, rfl⟩
  by_cases h2 : x = 49
  · subst h2
    go_enter Tryz.func155, Tryz.ntmps155
    go_wp2
    go_ret2
    exact ⟨rfl, rfl⟩
  by_cases h3 : x = 120
  · subst h3
    go_enter Tryz.func155, Tryz.ntmps155
    go_wp2
    go_ret2
    exact ⟨rfl, rfl⟩
  by_cases h4 : x = 88
  · subst h4
    go_enter Tryz.func155, Tryz.ntmps155
    go_wp2
    go_ret2
    exact ⟨rfl, rfl⟩
  by_cases h5 : x = 122
  · subst h5
    go_enter Tryz.func155, Tryz.ntmps155
    go_wp2
    go_ret2
    exact ⟨rfl, rfl⟩
  by_cases h6 : x = 90
  · subst h6
    go_enter Tryz.func155, Tryz.ntmps155
    go_wp2
    go_ret2
    exact ⟨rfl, rfl⟩
  by_cases h7 : x = 63
  · subst h7
    go_enter Tryz.func155, Tryz.ntmps155
    go_wp2
    go_ret2
    exact ⟨rfl, rfl⟩
  have e1 : pbI x = 0 := by unfold pbI; simp [h1, h2, h3, h4, h5, h6, h7]
  have e2 : pbQ x = false := by unfold pbQ; simp [h1, h2, h3, h4, h5, h6, h7]
  rw [e1, e2]
  clear e1 e2
  go_enter Tryz.func155, Tryz.ntmps155
  go_wp2
  go_ret2
  exact ⟨rfl, rfl⟩
/-- The bit of a character for unknown bits, and whether it is one's. -/
def unI (x : Int) : Int := if x = 120 ∨ x = 88 then 2 else if x = 122 ∨ x = 90 ∨ x = 63 then 3 else 0
def unQ (x : Int) : Bool := decide (x = 120) || decide (x = 88) || decide (x = 122) || decide (x = 90) || decide (x = 63)
theorem un_of (x : Int) : (pbQ x = false ∧ unI x = 0 ∧ unQ x = false) ∨ (pbQ x = true ∧ (pbI x = 0 ∨ pbI x = 1) ∧ unI x = 0 ∧ unQ x = false) ∨ (pbQ x = true ∧ (pbI x = 2 ∨ pbI x = 3) ∧ unI x = pbI x ∧ unQ x = true) := by
  unfold pbQ pbI unI unQ
  by_cases h1 : x = 48
  · subst h1; right; left; decide
  by_cases h2 : x = 49
  · subst h2; right; left; decide
  by_cases h3 : x = 120
  · subst h3; right; right; decide
  by_cases h4 : x = 88
  · subst h4; right; right; decide
  by_cases h5 : x = 122
  · subst h5; right; right; decide
  by_cases h6 : x = 90
  · subst h6; right; right; decide
  by_cases h7 : x = 63
  · subst h7; right; right; decide
  left
  simp [h1, h2, h3, h4, h5, h6, h7]
set_option maxRecDepth 100000 in
theorem unknown_any (x : Int) (h0 : 0 ≤ x) (h1 : x ≤ 127) (w : World) : Calls Tryz.prog 127 #[.int .i32 x] w fun e w' => e = .returned (.tuple #[.int .u8 (unI x), .bool (unQ x)]) ∧ w = w' := by
  have HP := parseBit_any x w
  have hx : IntKind.u8.wrap x = x := by simp [IntKind.wrap, IntKind.bits, IntKind.signed]; omega
  rcases un_of x with ⟨a, b, c⟩ | ⟨a, d, b, c⟩ | ⟨a, d, b, c⟩
  · rw [b, c]
    rw [a] at HP
    generalize pbI x = y at HP
    replace HP := Lib.hid HP
    clear a b c
    go_enter Tryz.func127, Tryz.ntmps127
    go_wp2_with (first | (go_at_call 155; (with_reducible refine HP.out.mono ?_); rintro e w' ⟨rfl, rfl⟩) | go_in)
    go_ret2
    exact ⟨rfl, rfl⟩
  · rw [b, c]
    rw [a] at HP
    rcases d with d | d
    all_goals
      rw [d] at HP
      replace HP := Lib.hid HP
      clear a b c d
      go_enter Tryz.func127, Tryz.ntmps127
      go_wp2_with (first | (go_at_call 155; (with_reducible refine HP.out.mono ?_); rintro e w' ⟨rfl, rfl⟩) | go_in)
      go_ret2
      exact ⟨rfl, rfl⟩
  · rw [b, c]
    rw [a] at HP
    rcases d with d | d
    all_goals
      rw [d] at HP ⊢
      replace HP := Lib.hid HP
      clear a b c d
      go_enter Tryz.func127, Tryz.ntmps127
      go_wp2_with (first | (go_at_call 155; (with_reducible refine HP.out.mono ?_); rintro e w' ⟨rfl, rfl⟩) | go_in)
      go_ret2
      exact ⟨rfl, rfl⟩
end Go.Proofs.YtgojnpblhfbdpaaGreatDoor

namespace Go.Proofs.YtgojnpblhfbdpaaGreatDoor
open Go Go.RowKit

/-- The value of a character in a base, -1 if it has none. -/
def dvI (base : Nat) (x : Nat) : Int := if vlC (UInt8.ofNat x) < base then (vlC (UInt8.ofNat x) : Int) else -1
theorem dv_2 : ∀ x : Fin 128, Lib.indexByte (List.take 2 [48, 49, 50, 51, 52, 53, 54, 55, 56, 57, 97, 98, 99, 100, 101, 102]) (x.val).toUInt8 = dvI 2 x.val := by decide +kernel
theorem dv_8 : ∀ x : Fin 128, Lib.indexByte (List.take 8 [48, 49, 50, 51, 52, 53, 54, 55, 56, 57, 97, 98, 99, 100, 101, 102]) (x.val).toUInt8 = dvI 8 x.val := by decide +kernel
theorem dv_10 : ∀ x : Fin 128, Lib.indexByte (List.take 10 [48, 49, 50, 51, 52, 53, 54, 55, 56, 57, 97, 98, 99, 100, 101, 102]) (x.val).toUInt8 = dvI 10 x.val := by decide +kernel
theorem dv_16 : ∀ x : Fin 128, Lib.indexByte (List.take 16 [48, 49, 50, 51, 52, 53, 54, 55, 56, 57, 97, 98, 99, 100, 101, 102]) (x.val).toUInt8 = dvI 16 x.val := by decide +kernel
/-- The base has digits. -/
def baseQ (b : Nat) : Prop := b = 2 ∨ b = 8 ∨ b = 10 ∨ b = 16
set_option maxRecDepth 100000 in
theorem below1_any (b base x : Nat) (hx : x < 128) (hbq : baseQ base) (w : World) (hc : w.cell? ⟨b, 0, none⟩ = some (.int .i64 (base : Int))) :
    Calls Tryz.prog 136 #[.int .i32 (x : Int), .pointer (some ⟨b, 0, none⟩)] w fun e w' => e = .returned (.int .i64 (dvI base x)) ∧ w = w' := by
  have HI := Lib.hid fun (s : ByteArray) (u : World) => Tryz.strings_IndexRune_ascii s (x : Int) u (by omega) (by omega)
  have HD : Lib.indexByte (List.take base [48, 49, 50, 51, 52, 53, 54, 55, 56, 57, 97, 98, 99, 100, 101, 102]) x.toUInt8 = dvI base x := by
    rcases hbq with rfl | rfl | rfl | rfl
    · exact dv_2 ⟨x, hx⟩
    · exact dv_8 ⟨x, hx⟩
    · exact dv_10 ⟨x, hx⟩
    · exact dv_16 ⟨x, hx⟩
  rw [Int.toNat_natCast] at HI
  rw [← HD]
  clear HD
  have hb1 : (0 : Int) ≤ base := by omega
  have hb2 : (base : Int) ≤ 16 := by rcases hbq with rfl | rfl | rfl | rfl <;> decide
  clear hbq
  generalize (x : Int) = X at *
  generalize x.toUInt8 = Y at *
  go_enter Tryz.func136, Tryz.ntmps136
  go_wp2_with (first | (go_at_call 137; refine (HI.out _ _).mono ?_; rintro e w' ⟨rfl, rfl⟩))
  go_ret
  exact ⟨rfl, rfl⟩
/-- A function value for the digits of a base. -/
def Dig (w : World) (v : Value) (base : Nat) : Prop := ∃ b, v = .func (.func 136) #[] #[.pointer (some ⟨b, 0, none⟩)] ∧ w.cell? ⟨b, 0, none⟩ = some (.int .i64 (base : Int))
theorem Dig.step {w u : World} {v : Value} {base : Nat} (h : Dig w v base) (hb : Below w.heap.size w u) : Dig u v base := by
  obtain ⟨b, h1, h2⟩ := h
  exact ⟨b, h1, cell_step hb h2⟩
theorem Dig.drew {w : World} {v : Value} {base : Nat} (h : Dig w v base) : Dig w.drew v base := h.step (below_drew (Below.refl _ _))
theorem Dig.alloc {w : World} {v : Value} {base : Nat} (h : Dig w v base) (o : Obj) : Dig (w.alloc o) v base := h.step (below_new (Below.refl _ _) o)
theorem ent_below1 : Ent 136 := enters_of Tryz.func136 (by kernel_rfl) rfl
set_option maxRecDepth 100000 in
theorem below_dig (base : Nat) (w : World) : Calls Tryz.prog 98 #[.int .i64 (base : Int)] w fun e w' => ∃ b, e = .returned (.func (.func 136) #[] #[.pointer (some ⟨b, 0, none⟩)]) ∧ Own w' b 3 #[.int .i64 (base : Int)] ∧ w.heap.size ≤ b ∧ Below w.heap.size w w' := by
  go_enter Tryz.func98, Tryz.ntmps98
  go_wp2
  go_ret
  exact ⟨_, rfl, Own.new w 3 #[.int .i64 (base : Int)], Nat.le_refl _, below_new (Below.refl _ _) _⟩
/-- The bits of a digit and the base for a base letter. -/
def grpC (c : Int) : Option (Nat × Nat) := if c = 98 then some (1, 2) else if c = 111 then some (3, 8) else if c = 100 then some (0, 10) else if c = 104 then some (4, 16) else none
/-- What a call leaves that returns a base. -/
def RadR (w : World) (o : Option (Nat × Nat)) (e : Ending) (w' : World) : Prop := (match o with
  | some (g, base) => ∃ v, e = .returned (.tuple #[.agg #[.int .i64 (g : Int), v], .bool true]) ∧ Dig w' v base
  | none => e = .returned (.tuple #[.agg #[.int .i64 0, .nilFunc], .bool false])) ∧ Below w.heap.size w w'
theorem ret_rad {g : Nat} {U : World} {x y b : Value} {fn : Func} {p q : Tmp} (hres : fn.results = #[.cell p 81, .tmp q]) {R : Ending → World → Prop} {a : Act} (hp : a.tmps.getD p undef = .pointer (some ⟨g, 0, none⟩)) (hq : a.tmps.getD q undef = b) (hd : a.defers = [])
    (O : Own U g 81 #[x, y]) (hR : R (.returned (.tuple #[.agg #[x, y], b])) U) : bodyPost Tryz.prog fn R .ret a U := by
  refine bodyPost_ret ?_ hd hR
  rw [results_cell_tmp hres, hp, hq]
  have h0 := O.cell 0
  have h1 := O.cell 1
  simp [go_sem, h0, h1]
theorem RadR.some {w u : World} {g base b : Nat} {x' y' : Value} (O : Own u b 3 #[.int .i64 (base : Int)]) (hne : w.heap.size < b) (hb : Below w.heap.size w u) :
    RadR w (.some (g, base)) (.returned (.tuple #[.agg #[.int .i64 (g : Int), .func (.func 136) #[] #[.pointer (.some ⟨b, 0, none⟩)]], .bool true])) ((u.setCell ⟨w.heap.size, 0, none⟩ x').setCell ⟨w.heap.size, 1, none⟩ y') :=
  ⟨⟨_, rfl, b, rfl, (O.far2 (g := w.heap.size) (by omega) x' y').cell 0⟩, below_set2 hb (Nat.le_refl _) _ _⟩
set_option maxRecDepth 100000 in
theorem radixOf_any (c : Int) (w : World) : Calls Tryz.prog 54 #[.int .u8 c] w (RadR w (grpC c)) := by
  have O0 := (Own.at1 w 81 #[.int .i64 0, .nilFunc] (g := w.heap.size) (by simp))
  have BB := (below_new (Below.refl w.heap.size w) (.cells #[.int .i64 0, .nilFunc] 81))
  have qO00 := O0.cell 0; have qO01 := O0.cell 1; have fO00 := O0.free 0; have fO01 := O0.free 1
  have HB := Lib.hid fun (base : Nat) (u : World) => below_dig base u
  by_cases h0 : c = 98
  · subst h0
    rw [show grpC 98 = some (1, 2) from by decide]
    go_enter Tryz.func54, Tryz.ntmps54
    go_wp2_with (first | (go_at_call 98; (refine (HB.out 2 _).mono ?_); rintro e w1 ⟨b, rfl, OB, hlt, hb⟩; replace BB := below_step BB hb; replace O0 := O0.step hb; have q0 := O0.cell 0; have q1 := O0.cell 1; have f0 := O0.free 0; have f1 := O0.free 1; simp only [World.size_alloc] at hlt))
    exact ret_rad Tryz.results54 rfl rfl rfl (O0.put2 _ _) (RadR.some OB (by omega) BB)
  by_cases h1 : c = 111
  · subst h1
    rw [show grpC 111 = some (3, 8) from by decide]
    go_enter Tryz.func54, Tryz.ntmps54
    go_wp2_with (first | (go_at_call 98; (refine (HB.out 8 _).mono ?_); rintro e w1 ⟨b, rfl, OB, hlt, hb⟩; replace BB := below_step BB hb; replace O0 := O0.step hb; have q0 := O0.cell 0; have q1 := O0.cell 1; have f0 := O0.free 0; have f1 := O0.free 1; simp only [World.size_alloc] at hlt))
    exact ret_rad Tryz.results54 rfl rfl rfl (O0.put2 _ _) (RadR.some OB (by omega) BB)
  by_cases h2 : c = 100
  · subst h2
    rw [show grpC 100 = some (0, 10) from by decide]
    go_enter Tryz.func54, Tryz.ntmps54
    go_wp2_with (first | (go_at_call 98; (refine (HB.out 10 _).mono ?_); rintro e w1 ⟨b, rfl, OB, hlt, hb⟩; replace BB := below_step BB hb; replace O0 := O0.step hb; have q0 := O0.cell 0; have q1 := O0.cell 1; have f0 := O0.free 0; have f1 := O0.free 1; simp only [World.size_alloc] at hlt))
    exact ret_rad Tryz.results54 rfl rfl rfl (O0.put2 _ _) (RadR.some OB (by omega) BB)
  by_cases h3 : c = 104
  · subst h3
    rw [show grpC 104 = some (4, 16) from by decide]
    go_enter Tryz.func54, Tryz.ntmps54
    go_wp2_with (first | (go_at_call 98; (refine (HB.out 16 _).mono ?_); rintro e w1 ⟨b, rfl, OB, hlt, hb⟩; replace BB := below_step BB hb; replace O0 := O0.step hb; have q0 := O0.cell 0; have q1 := O0.cell 1; have f0 := O0.free 0; have f1 := O0.free 1; simp only [World.size_alloc] at hlt))
    exact ret_rad Tryz.results54 rfl rfl rfl (O0.put2 _ _) (RadR.some OB (by omega) BB)
  rw [show grpC c = none from by unfold grpC; simp [h0, h1, h2, h3]]
  go_enter Tryz.func54, Tryz.ntmps54
  go_wp2
  exact ret_rad Tryz.results54 rfl rfl rfl O0 ⟨rfl, BB⟩
end Go.Proofs.YtgojnpblhfbdpaaGreatDoor

namespace Go.Proofs.YtgojnpblhfbdpaaGreatDoor
open Go Go.RowKit

/-- The next character of a text of characters below 128. -/
theorem next_asc {w : World} {it k : Nat} {l : List UInt8} (hit : w.heap[it]? = some (.stringIter (str l) k)) (hk : k < l.length) (ha : (l[k]).toNat < 128) (ty : TypeId) :
    (Instr.next (.pointer (some ⟨it, 0, none⟩)) true ty).run Tryz.prog w = .ok (.tuple #[.bool true, .int .i64 (k : Int), .int .i32 ((l[k]).toNat : Int)]) (w.iterAt it (str l) (k + 1)) := by
  have := Lib.run_next_any_at (P := Tryz.prog) w it (str l) k ty hit hk
  rw [decode_ascii (str l) k hk ha] at this
  exact this
theorem next_end {w : World} {it k : Nat} {l : List UInt8} (hit : w.heap[it]? = some (.stringIter (str l) k)) (hk : ¬ k < l.length) (ty : TypeId) :
    (Instr.next (.pointer (some ⟨it, 0, none⟩)) true ty).run Tryz.prog w = .ok (.tuple #[.bool false]) w := Lib.run_next_end_at w it (str l) k ty hit hk
/-- All characters are below 128. -/
def asc (l : List UInt8) : Prop := ∀ c ∈ l, c.toNat < 128
/-- Whether a base accepts a character. -/
def okC (base : Nat) (mb : Bool) (c : UInt8) : Bool := decide (vlC c < base) || (unQ (c.toNat : Int) && mb)
theorem all_take_succ {p : UInt8 → Bool} {l : List UInt8} {k : Nat} (h : k < l.length) : (l.take (k + 1)).all p = ((l.take k).all p && p l[k]) := by
  rw [List.take_succ_eq_append_getElem h, List.all_append]
  simp
theorem all_bad {p : UInt8 → Bool} {l : List UInt8} {k : Nat} (h : k < l.length) (hb : p l[k] = false) : l.all p = false := by
  rw [List.all_eq_false]
  exact ⟨l[k], List.getElem_mem h, by rw [hb]; decide⟩
theorem dv_yes {base : Nat} {c : UInt8} (h : vlC c < base) : dvI base c.toNat = (vlC c : Int) := by
  unfold dvI
  rw [UInt8.ofNat_toNat, if_pos h]
theorem dv_no {base : Nat} {c : UInt8} (h : ¬ vlC c < base) : dvI base c.toNat = -1 := by
  unfold dvI
  rw [UInt8.ofNat_toNat, if_neg h]
/-- What the loop of accepts keeps. -/
def AccI (p : UInt8 → Bool) (d : List UInt8) (W : World) (it : Nat) (f : Nat) (u : World) : Prop := ∃ k, u.heap[it]? = some (.stringIter (str d) k) ∧ Below W.heap.size W u ∧ (d.take k).all p = true ∧ k + f = d.length
theorem below_box (w : World) (o o' : Obj) : Below (w.alloc o).heap.size (w.alloc o) ((w.alloc o).alloc o') := below_new (Below.refl _ _) o'
set_option maxRecDepth 100000 in
set_option maxHeartbeats 2000000 in
theorem accepts_any (G : Int) (base : Nat) (v : Value) (d : List UInt8) (w : World) (hbq : baseQ base) (hD : Dig w v base) (ha : asc d) :
    Calls Tryz.prog 126 #[.agg #[.int .i64 G, v], .string (str d)] w fun e w' => e = .returned (.bool (!d.isEmpty && d.all (okC base (decide (0 < G) || ((d.length : Int) == 1))))) ∧ Below w.heap.size w w' := by
  obtain ⟨b, rfl, hcb⟩ := hD
  have O0 := (Own.at1 w 81 #[.int .i64 G, .func (.func 136) #[] #[.pointer (some ⟨b, 0, none⟩)]] (g := w.heap.size) (by simp))
  have BB := below_new (Below.refl w.heap.size w) (.cells #[.int .i64 G, .func (.func 136) #[] #[.pointer (some ⟨b, 0, none⟩)]] 81)
  have q0 := O0.cell 0
  have q1 := O0.cell 1
  have hem : (d == []) = d.isEmpty := by cases d <;> rfl
  have hem2 : (d != []) = !d.isEmpty := by unfold bne; rw [hem]
  cases h1 : decide (0 < G) <;> cases h2 : ((d.length : Int) == 1)
  all_goals
    generalize hmb : (_ || _ : Bool) = mb
    go_enter Tryz.func126, Tryz.ntmps126
    go_wp2
    go_loopg [] d.length (AccI (okC base mb) d (w.alloc (.cells #[.int .i64 G, .func (.func 136) #[] #[.pointer (some ⟨b, 0, none⟩)]] 81)) (w.heap.size + 1))
    case atStart => exact ⟨0, by simpa using World.iter_heap (w.alloc (.cells #[.int .i64 G, .func (.func 136) #[] #[.pointer (some ⟨b, 0, none⟩)]] 81)) (str d) 0, below_box _ _ _, rfl, by omega⟩
    case round =>
      obtain ⟨k, hit, hb, hall, hf⟩ := hrel
      clear q0 q1
      by_cases hk : k < d.length
      · obtain ⟨g', rfl⟩ : ∃ g', gk = g' + 1 := ⟨gk - 1, by omega⟩
        have hc := ha _ (List.getElem_mem hk)
        have hnx := next_asc hit hk hc
        have hit2 := Lib.iterAt_heap wr _ (str d) k (k + 1) hit
        have hb2 := Lib.below_iterAt hb (k := w.heap.size + 1) (by simp) (str d) (k + 1)
        have hats := all_take_succ (p := okC base mb) hk
        have hbad := all_bad (p := okC base mb) hk
        rw [hall, Bool.true_and] at hats
        generalize wr.iterAt (w.heap.size + 1) (str d) (k + 1) = W at hnx hit2 hb2
        have q1 := (O0.step hb2).cell 1
        have q0 := (O0.step hb2).cell 0
        have HV := below1_any b base (d[k]).toNat hc hbq W (cell_step (below_step BB hb2) hcb)
        have HU := Lib.hid (unknown_any ((d[k]).toNat : Int) (by omega) (by omega) W)
        generalize d[k] = c at *
        replace hem := Lib.hid hem
        replace hem2 := Lib.hid hem2
        replace hmb := Lib.hid hmb
        replace hit2 := Lib.hid hit2
        replace hall := Lib.hid hall
        clear hit hb
        by_cases hv : vlC c < base
        · rw [dv_yes hv] at HV
          have hok : okC base mb c = true := by unfold okC; rw [decide_eq_true hv]; rfl
          rw [hok] at hats
          replace hats := Lib.hid hats
          replace HV := Lib.hid HV
          clear hbad hok hv
          go_wp2_with (first | (go_at_call 127; (with_reducible refine HU.out.mono ?_); rintro e w' ⟨rfl, rfl⟩) | (go_at_call 136; (refine HV.out.mono ?_); rintro e w' ⟨rfl, rfl⟩))
          go_roundg g'
          case measure => omega
          case rel => exact ⟨k + 1, hit2.out, hb2, hats.out, by omega⟩
        · rw [dv_no hv] at HV
          replace HV := Lib.hid HV
          cases hu : unQ (c.toNat : Int)
          · have hok : okC base mb c = false := by unfold okC; rw [decide_eq_false hv, hu]; rfl
            replace hbad := Lib.hid (hbad hok)
            clear hats hok hv
            go_wp2_with (first | (go_at_call 127; (with_reducible refine HU.out.mono ?_); rintro e w' ⟨rfl, rfl⟩) | (go_at_call 136; (refine HV.out.mono ?_); rintro e w' ⟨rfl, rfl⟩))
            go_ret
            exact ⟨ret_bool (by rw [hbad.out, Bool.and_false]), below_step BB hb2⟩
          · cases mb
            · have hok : okC base false c = false := by unfold okC; rw [decide_eq_false hv, hu]; rfl
              replace hbad := Lib.hid (hbad hok)
              clear hats hok hv
              first
                | (exfalso; exact absurd hmb.out (by decide))
                | (go_wp2_with (first | (go_at_call 127; (with_reducible refine HU.out.mono ?_); rintro e w' ⟨rfl, rfl⟩) | (go_at_call 136; (refine HV.out.mono ?_); rintro e w' ⟨rfl, rfl⟩))
                   go_ret
                   exact ⟨ret_bool (by rw [hbad.out, Bool.and_false]), below_step BB hb2⟩)
            · have hok : okC base true c = true := by unfold okC; rw [decide_eq_false hv, hu]; rfl
              rw [hok] at hats
              replace hats := Lib.hid hats
              clear hbad hok hv
              first
                | (exfalso; exact absurd hmb.out (by decide))
                | (go_wp2_with (first | (go_at_call 127; (with_reducible refine HU.out.mono ?_); rintro e w' ⟨rfl, rfl⟩) | (go_at_call 136; (refine HV.out.mono ?_); rintro e w' ⟨rfl, rfl⟩))
                   go_roundg g'
                   case measure => omega
                   case rel => exact ⟨k + 1, hit2.out, hb2, hats.out, by omega⟩)
      · have hnx := next_end hit hk
        have hka : k = d.length := by omega
        rw [hka, List.take_length] at hall
        replace hall := Lib.hid hall
        replace hit := Lib.hid hit
        clear hka hk hf
        go_wp2
        go_ret
        exact ⟨ret_bool (by rw [hall.out, Bool.and_true]), below_step BB hb⟩
end Go.Proofs.YtgojnpblhfbdpaaGreatDoor

namespace Go.Proofs.YtgojnpblhfbdpaaGreatDoor
open Go Go.RowKit

theorem lower_any (l : List UInt8) (w : World) (ha : asc l) (hl : l.length ≤ 100000) : Calls Tryz.prog 124 #[.string (str l)] w fun e w' => e = .returned (.string (str (l.map Lib.lowerB))) ∧ Below w.heap.size w w' :=
  Tryz.strings_ToLower_ascii (str l) w (by rw [size_str]; omega) fun _ b h => ha b (List.mem_of_getElem? h)
theorem cutp_any (l p : List UInt8) (w : World) : Calls Tryz.prog 46 #[.string (str l), .string (str p)] w fun e w' => e = .returned (.tuple #[.string (str (Lib.trimPrefix l p)), .bool (Lib.hasPrefix l p)]) ∧ w = w' :=
  (Tryz.strings_CutPrefix (str l) (str p) w).mono fun _ _ ⟨h, k⟩ => ⟨h, k.symm⟩
theorem hasp_any (l p : List UInt8) (w : World) : Calls Tryz.prog 125 #[.string (str l), .string (str p)] w fun e w' => e = .returned (.bool (Lib.hasPrefix l p)) ∧ w = w' :=
  (Tryz.strings_HasPrefix (str l) (str p) w).mono fun _ _ ⟨h, k⟩ => ⟨h, k.symm⟩
theorem pre_one (l : List UInt8) (c : UInt8) : Lib.hasPrefix l [c] = (l.head? == some c) := by
  cases l with
  | nil => rfl
  | cons b t =>
    rw [Bool.eq_iff_iff]
    simp [Lib.hasPrefix, List.isPrefixOf]
    exact eq_comm
theorem trim_one (l : List UInt8) (c : UInt8) : Lib.trimPrefix l [c] = if l.head? == some c then l.tail else l := by
  unfold Lib.trimPrefix
  rw [pre_one]
  simp
theorem lower_115 (c : UInt8) : (Lib.lowerB c == 115) = (lowC c == 115) := by
  by_cases h : c = 63
  · subst h; decide
  · rw [lower_low c h]
theorem sgn_low (z : List UInt8) : Lib.hasPrefix (z.map Lib.lowerB) [115] = sgnT z := by
  rw [pre_one]
  unfold sgnT
  cases z with
  | nil => rfl
  | cons c t =>
    simp only [List.map_cons, List.head?_cons, Option.map_some]
    have := lower_115 c
    rw [Bool.eq_iff_iff] at this ⊢
    simpa using this
theorem cut_low (z : List UInt8) : Lib.trimPrefix (z.map Lib.lowerB) [115] = (if sgnT z then z.tail else z).map Lib.lowerB := by
  rw [trim_one, ← pre_one, sgn_low]
  split
  · rw [List.map_tail]
  · rfl
/-- The program keeps a question mark as it is. -/
def qz (c : UInt8) : UInt8 := if c = 63 then 122 else c
theorem qz_low (c : UInt8) : qz (Lib.lowerB c) = lowC c := by
  by_cases h : c = 63
  · subst h; decide
  · rw [lower_low c h]
    unfold qz
    rw [if_neg]
    intro e
    unfold lowC at e
    split at e
    · rename_i h2
      have : (c + 32).toNat = 63 := by rw [e]; rfl
      rw [UInt8.toNat_add] at this
      have h32 : (32 : UInt8).toNat = 32 := rfl
      omega
    · exact h e
theorem low_95 (c : UInt8) : (Lib.lowerB c == 95) = (c == 95) := by
  have h : ∀ x : Fin 256, (Lib.lowerB (UInt8.ofNat x.val) == 95) = (UInt8.ofNat x.val == 95) := by decide +kernel
  have := h ⟨c.toNat, UInt8.toNat_lt c⟩
  simpa using this
theorem low_95b (c : UInt8) : (Lib.lowerB c != 95) = (c != 95) := by unfold bne; rw [low_95]
/-- The digits as the program has them. -/
def digP (r : List UInt8) : List UInt8 := (r.map Lib.lowerB).filter (· != 95)
theorem digP_eq (r : List UInt8) : digP r = (r.filter (· != 95)).map Lib.lowerB := by
  unfold digP
  rw [List.filter_map]
  congr 1
  exact List.filter_congr fun c _ => low_95b c
theorem digP_clean (r : List UInt8) : (digP r).map qz = cleanL r := by
  rw [digP_eq, List.map_map]
  unfold cleanL
  exact List.map_congr_left fun c _ => qz_low c
theorem digP_len (r : List UInt8) : (digP r).length = (cleanL r).length := by rw [← digP_clean, List.length_map]
theorem bsz_grp (c : UInt8) : grpC ((Lib.lowerB c).toNat : Int) = (bszC (lowC c)).map fun b => (b, limB b) := by
  have h : ∀ x : Fin 256, grpC ((Lib.lowerB (UInt8.ofNat x.val)).toNat : Int) = (bszC (lowC (UInt8.ofNat x.val))).map fun b => (b, limB b) := by decide +kernel
  have := h ⟨c.toNat, UInt8.toNat_lt c⟩
  simpa using this
/-- A digit in lower case that the program accepts is one. -/
theorem okC_low (base : Nat) (mb : Bool) (c : UInt8) : okC base mb (Lib.lowerB c) = ((unkC (lowC c) && mb) || decide (vlC (lowC c) < base)) := by
  have h : ∀ x : Fin 256, (unQ ((Lib.lowerB (UInt8.ofNat x.val)).toNat : Int) = unkC (lowC (UInt8.ofNat x.val))) ∧ (vlC (Lib.lowerB (UInt8.ofNat x.val)) = vlC (lowC (UInt8.ofNat x.val))) := by decide +kernel
  obtain ⟨h1, h2⟩ := h ⟨c.toNat, UInt8.toNat_lt c⟩
  simp only [UInt8.ofNat_toNat] at h1 h2
  unfold okC
  rw [h1, h2, Bool.or_comm]
theorem unk_vl (c : UInt8) : unkC c = true → 16 ≤ vlC c := by
  have h : ∀ x : Fin 256, unkC (UInt8.ofNat x.val) = true → 16 ≤ vlC (UInt8.ofNat x.val) := by decide +kernel
  have := h ⟨c.toNat, UInt8.toNat_lt c⟩
  simpa using this
theorem acc_dig (bits : Nat) (hb : bits ≤ 4) (r : List UInt8) (h95 : (r.head? == some 95) = false) :
    (!(digP r).isEmpty && (digP r).all (okC (limB bits) (decide (0 < (bits : Int)) || (((digP r).length : Int) == 1)))) = digOk bits r := by
  unfold digOk
  have hlim : limB bits ≤ 16 := by
    unfold limB
    split
    · decide
    · exact Nat.le_trans (Nat.pow_le_pow_right (by decide) hb) (by decide)
  have e95 : (r.head? != some 95) = true := by unfold bne; rw [h95]; rfl
  have e1 : decide (0 < (bits : Int)) = decide (0 < bits) := by rw [Bool.eq_iff_iff]; simp
  have e2 : (((digP r).length : Int) == 1) = decide ((cleanL r).length = 1) := by rw [digP_len, Bool.eq_iff_iff]; simp; omega
  rw [e95, e1, e2, Bool.and_true, digP_eq, List.isEmpty_map, List.all_map]
  have hcl : cleanL r = (r.filter (· != 95)).map lowC := rfl
  have hem : (r.filter (· != 95)).isEmpty = r.isEmpty := by
    cases r with
    | nil => rfl
    | cons c t =>
      have : (c != 95) = true := by
        have h := h95
        simp only [List.head?_cons] at h
        rw [bne_iff_ne]
        rintro rfl
        exact absurd h (by decide)
      rw [List.filter_cons, if_pos this]
      rfl
  rw [hem, hcl, List.all_map, List.all_map, List.length_map]
  generalize r.filter (· != 95) = d
  have hcomp : (okC (limB bits) (decide (0 < bits) || decide (d.length = 1)) ∘ Lib.lowerB) = fun c => (unkC (lowC c) && (decide (0 < bits) || decide (d.length = 1))) || decide (vlC (lowC c) < limB bits) := funext fun c => okC_low _ _ c
  rw [hcomp]
  cases hr : r.isEmpty
  · simp only [Bool.not_false, Bool.true_and]
    cases hm : (decide (0 < bits) || decide (d.length = 1))
    · rw [Bool.or_eq_false_iff] at hm
      rw [hm.1, hm.2]
      simp only [Bool.and_false, Bool.false_or, Bool.or_false]
      rw [Bool.eq_iff_iff, Bool.and_eq_true, List.all_eq_true, List.all_eq_true, List.all_eq_true]
      constructor
      · intro h
        refine ⟨fun c hc => ?_, fun c hc => ?_⟩
        · have := h c hc
          simp only [Function.comp_apply]
          rw [this, Bool.or_true]
        · have := h c hc
          simp only [Function.comp_apply, Bool.not_eq_true']
          cases hu : unkC (lowC c)
          · rfl
          · have h16 := unk_vl _ hu
            have := of_decide_eq_true this
            omega
      · rintro ⟨h1, h2⟩ c hc
        have a := h1 c hc
        have b := h2 c hc
        simp only [Function.comp_apply, Bool.not_eq_true'] at a b
        rw [b, Bool.false_or] at a
        exact a
    · have : (decide (0 < bits) || d.all ((fun c => !unkC c) ∘ lowC) || decide (d.length = 1)) = true := by
        rw [Bool.or_eq_true] at hm
        rcases hm with h | h
        · rw [h]; rfl
        · rw [h, Bool.or_true]
      rw [this, Bool.and_true]
      simp only [Bool.and_true]
      rfl
  · simp
end Go.Proofs.YtgojnpblhfbdpaaGreatDoor

namespace Go.Proofs.YtgojnpblhfbdpaaGreatDoor
open Go Go.RowKit

/-- What a text behind the apostrophe denotes: the bits of a digit, the sign and the digits, if it has that form. -/
def noteL (z : List UInt8) : Option (Nat × Bool × List UInt8) := match (if sgnT z then z.tail else z) with
  | [] => none
  | c :: r => match bszC (lowC c) with
    | none => none
    | some bits => if digOk bits r then some (bits, sgnT z, digP r) else none
/-- What a call leaves that returns a notation. -/
def NotR (w : World) (q : Option (Nat × Bool × List UInt8)) (e : Ending) (w' : World) : Prop := (match q with
  | some (bits, sg, d) => ∃ v, e = .returned (.tuple #[.agg #[.int .i64 (bits : Int), v, .bool sg, .string (str d)], .bool true]) ∧ Dig w' v (limB bits)
  | none => ∃ G v sg s, (v = .nilFunc ∨ ∃ b, v = .func (.func 136) #[] #[.pointer (some ⟨b, 0, none⟩)]) ∧ e = .returned (.tuple #[.agg #[.int .i64 G, v, .bool sg, .string s], .bool false])) ∧ Below w.heap.size w w'
theorem ret_not {g : Nat} {U : World} {x y p q b : Value} {fn : Func} {r s : Tmp} (hres : fn.results = #[.cell r 106, .tmp s]) {R : Ending → World → Prop} {a : Act} (hp : a.tmps.getD r undef = .pointer (some ⟨g, 0, none⟩)) (hq : a.tmps.getD s undef = b) (hd : a.defers = [])
    (O : Own U g 106 #[x, y, p, q]) (hR : R (.returned (.tuple #[.agg #[x, y, p, q], b])) U) : bodyPost Tryz.prog fn R .ret a U := by
  refine bodyPost_ret ?_ hd hR
  rw [results_cell_tmp hres, hp, hq]
  have h0 := O.cell 0
  have h1 := O.cell 1
  have h2 := O.cell 2
  have h3 := O.cell 3
  simp [go_sem, h0, h1, h2, h3]
theorem Own.put4 {w : World} {g : Nat} {T : TypeId} {x y p q : Value} (O : Own w g T #[x, y, p, q]) (x' y' p' q' : Value) :
    Own ((((w.setCell ⟨g, 0, none⟩ x').setCell ⟨g, 1, none⟩ y').setCell ⟨g, 2, none⟩ p').setCell ⟨g, 3, none⟩ q') g T #[x', y', p', q'] := by
  simpa using (((O.put 0 x').put 1 y').put 2 p').put 3 q'
theorem below_set4 {w u : World} (h : Below w.heap.size w u) {g : Nat} (hg : w.heap.size ≤ g) (x y p q : Value) :
    Below w.heap.size w ((((u.setCell ⟨g, 0, none⟩ x).setCell ⟨g, 1, none⟩ y).setCell ⟨g, 2, none⟩ p).setCell ⟨g, 3, none⟩ q) := below_set (below_set (below_set (below_set h hg x) hg y) hg p) hg q

/-! What a store into a variable g of whatever type leaves alone. -/
class Srw (g : Nat) (U : World → Prop) : Prop where
  st : ∀ u cs, U u → U (u.setRow g cs)
class SrV (g : Nat) (V : Value → World → Prop) : Prop where
  st : ∀ v u cs, V v u → V v (u.setRow g cs)
/-- A cell of a block. -/
def celA (b o : Nat) (x : Value) : World → Prop := fun u => u.cell? ⟨b, o, none⟩ = some x
instance (b o : Nat) (x : Value) : Stb (celA b o x) := ⟨fun _ _ hb h => cell_step hb h⟩
instance (g : Nat) : Srw g tru := ⟨fun _ _ _ => trivial⟩
instance (g h : Nat) (T : TypeId) (cs : Array Value) [A : Apart g h] : Srw g (ownT h T cs) := ⟨fun _ _ O => Own.rowFar O A.ne⟩
instance (g b o : Nat) (x : Value) [A : Apart g b] : Srw g (celA b o x) := ⟨fun _ _ h => (cell_row (Ne.symm A.ne)).trans h⟩
instance (W : World) (g : Nat) [h : Over W g] : Srw g (blw W) := ⟨fun _ _ hb => below_row hb h.le _⟩
instance (g : Nat) (x : Value) : SrV g (isV x) := ⟨fun _ _ _ h => h⟩
instance (g : Nat) : SrV g anyV := ⟨fun _ _ _ h => h⟩
instance {g : Nat} {U U' : World → Prop} [h : Srw g U] [h' : Srw g U'] : Srw g (fun u => U u ∧ U' u) := ⟨fun u cs ⟨x, y⟩ => ⟨h.st u cs x, h'.st u cs y⟩⟩
/-- A variable of a type holds these cells now. -/
def didT (g : Nat) (T : TypeId) (cs : Array Value) : Value → World → Prop := fun _ u => Own u g T cs
instance (g : Nat) (T : TypeId) (cs : Array Value) : StV (didT g T cs) := ⟨fun _ _ _ hb h => Own.step h hb⟩
def SrPs (g : Nat) : Nat → List (World → Prop) → Prop
  | _, [] => True
  | 0, _ :: l => SrPs g l.length l
  | i + 1, U :: l => Srw g U ∧ SrPs g i l
def SrVs (g : Nat) : Nat → List (Value → World → Prop) → Prop
  | _, [] => True
  | 0, _ :: l => SrVs g l.length l
  | i + 1, U :: l => SrV g U ∧ SrVs g i l
theorem srPs_get {g : Nat} : ∀ (l : List (World → Prop)) (i j : Nat), SrPs g i l → j ≠ i → ∀ U, l[j]? = some U → Srw g U
  | [], _, _, _, _, U, h => by simp at h
  | X :: l, 0, 0, _, hj, _, _ => absurd rfl hj
  | X :: l, 0, j + 1, hs, _, U, h => by
    have hl : j < l.length := (List.getElem?_eq_some_iff.1 (by simpa using h)).1
    exact srPs_get l l.length j hs (by omega) U (by simpa using h)
  | X :: l, i + 1, 0, hs, _, U, h => by simp at h; subst h; exact hs.1
  | X :: l, i + 1, j + 1, hs, hj, U, h => srPs_get l i j hs.2 (by omega) U (by simpa using h)
theorem srVs_get {g : Nat} : ∀ (l : List (Value → World → Prop)) (i j : Nat), SrVs g i l → j ≠ i → ∀ U, l[j]? = some U → SrV g U
  | [], _, _, _, _, U, h => by simp at h
  | X :: l, 0, 0, _, hj, _, _ => absurd rfl hj
  | X :: l, 0, j + 1, hs, _, U, h => by
    have hl : j < l.length := (List.getElem?_eq_some_iff.1 (by simpa using h)).1
    exact srVs_get l l.length j hs (by omega) U (by simpa using h)
  | X :: l, i + 1, 0, hs, _, U, h => by simp at h; subst h; exact hs.1
  | X :: l, i + 1, j + 1, hs, hj, U, h => srVs_get l i j hs.2 (by omega) U (by simpa using h)
theorem keep_row {S : World → Prop} {PS : List (World → Prop)} {VS : List (Value → World → Prop)} {i g : Nat} {w : World} {cs : Array Value} (hS : Srw g S) (hP : SrPs g i PS) (hV : SrVs g i VS) (h : S w) : Keep S PS VS i w (w.setRow g cs) :=
  ⟨hS.st _ _ h, fun j hj U hU h => (srPs_get PS i j hP hj U hU).st _ _ h, fun j hj V hV' v h => (srVs_get VS i j hV hj V hV').st v _ _ h⟩
theorem not_size : (Tryz.prog.info? 106).map (·.size) = some 4 := by kernel_rfl
theorem run_bldN (g : Int) (v : Value) (sg : Bool) (s : ByteArray) (W : World) : (Instr.build 106 #[(0, .agg #[.int .i64 g, v]), (1, .bool sg), (2, .string s)]).run Tryz.prog W = .ok (.agg #[.int .i64 g, v, .bool sg, .string s]) W := by kernel_rfl
theorem ent_accepts : Ent 126 := enters_of Tryz.func126 (by kernel_rfl) rfl
set_option maxRecDepth 100000 in
set_option maxHeartbeats 1000000 in
theorem notation_nil (z : List UInt8) (w : World) (ha : asc z) (hl : z.length ≤ 100000) (hy : (if sgnT z then z.tail else z) = []) :
    Calls Tryz.prog 89 #[.string (str z)] w (NotR w none) := by
  have O0 := (Own.at1 w 106 #[.int .i64 0, .nilFunc, .bool false, .string (str [])] (g := w.heap.size) (by simp))
  have BB := (below_new (Below.refl w.heap.size w) (.cells #[.int .i64 0, .nilFunc, .bool false, .string (str [])] 106))
  have HL := Lib.hid fun (u : World) => lower_any z u ha hl
  have HC := Lib.hid fun (u : World) => cutp_any (z.map Lib.lowerB) [115] u
  rw [cut_low, sgn_low, hy] at HC
  clear hy ha
  generalize sgnT z = sg at *
  go_enter Tryz.func89, Tryz.ntmps89
  go_wp2_with (first
    | (go_at_call 124; (with_reducible refine (HL.out _).mono ?_); rintro e w1 ⟨rfl, hb⟩; replace BB := below_step BB hb; replace O0 := O0.step hb; have q0 := O0.cell 0; have q1 := O0.cell 1; have q2 := O0.cell 2; have q3 := O0.cell 3; have f0 := O0.free 0; have f1 := O0.free 1; have f2 := O0.free 2; have f3 := O0.free 3)
    | (go_at_call 46; (with_reducible refine (HC.out _).mono ?_); rintro e w2 ⟨rfl, rfl⟩))
  exact ret_not Tryz.results89 rfl rfl rfl (O0.put4 _ _ _ _) ⟨⟨_, _, _, _, .inl rfl, rfl⟩, below_set4 BB (Nat.le_refl _) _ _ _ _⟩
theorem radixOf_none {c : Int} (h : grpC c = none) (w : World) : Calls Tryz.prog 54 #[.int .u8 c] w fun e w' => e = .returned (.tuple #[.agg #[.int .i64 0, .nilFunc], .bool false]) ∧ Below w.heap.size w w' := by
  have := radixOf_any c w
  rw [h] at this
  exact this
theorem radixOf_some {c : Int} {g base : Nat} (h : grpC c = some (g, base)) (w : World) : Calls Tryz.prog 54 #[.int .u8 c] w fun e w' => ∃ b, e = .returned (.tuple #[.agg #[.int .i64 (g : Int), .func (.func 136) #[] #[.pointer (some ⟨b, 0, none⟩)]], .bool true]) ∧ w'.cell? ⟨b, 0, none⟩ = some (.int .i64 (base : Int)) ∧ Below w.heap.size w w' := by
  have := radixOf_any c w
  rw [h] at this
  refine this.mono fun e w' ⟨⟨v, he, b, hv, hc⟩, hb⟩ => ⟨b, ?_, hc, hb⟩
  rw [he, hv]
set_option maxRecDepth 100000 in
set_option maxHeartbeats 1000000 in
theorem notation_none (z : List UInt8) (c : UInt8) (r : List UInt8) (w : World) (ha : asc z) (hl : z.length ≤ 100000) (hy : (if sgnT z then z.tail else z) = c :: r) (hb : bszC (lowC c) = none) :
    Calls Tryz.prog 89 #[.string (str z)] w (NotR w none) := by
  have O0 := (Own.at1 w 106 #[.int .i64 0, .nilFunc, .bool false, .string (str [])] (g := w.heap.size) (by simp))
  have BB := (below_new (Below.refl w.heap.size w) (.cells #[.int .i64 0, .nilFunc, .bool false, .string (str [])] 106))
  have HL := Lib.hid fun (u : World) => lower_any z u ha hl
  have HC := Lib.hid fun (u : World) => cutp_any (z.map Lib.lowerB) [115] u
  rw [cut_low, sgn_low, hy, List.map_cons] at HC
  have HR := Lib.hid fun (u : World) => radixOf_none (c := ((Lib.lowerB c).toNat : Int)) (by rw [bsz_grp, hb]; rfl) u
  have hc0 := str_0 (Lib.lowerB c) (r.map Lib.lowerB)
  clear hy ha hb
  generalize sgnT z = sg at *
  generalize Lib.lowerB c = x at *
  go_enter Tryz.func89, Tryz.ntmps89
  go_wp2_with (first
    | (go_at_call 124; (with_reducible refine (HL.out _).mono ?_); rintro e w1 ⟨rfl, hb⟩; replace BB := below_step BB hb; replace O0 := O0.step hb)
    | (go_at_call 46; (with_reducible refine (HC.out _).mono ?_); rintro e w2 ⟨rfl, rfl⟩)
    | (go_at_call 54; (with_reducible refine (HR.out _).mono ?_); rintro e w1 ⟨rfl, hb⟩; replace BB := below_new (below_step BB hb) (.cells #[.int .i64 0, .nilFunc] 81); replace O0 := (O0.step hb).alloc (.cells #[.int .i64 0, .nilFunc] 81); have q0 := O0.cell 0; have q1 := O0.cell 1; have q2 := O0.cell 2; have q3 := O0.cell 3; have f0 := O0.free 0; have f1 := O0.free 1; have f2 := O0.free 2; have f3 := O0.free 3))
  exact ret_not Tryz.results89 rfl rfl rfl (O0.put4 _ _ _ _) ⟨⟨_, _, _, _, .inl rfl, rfl⟩, below_set4 BB (Nat.le_refl _) _ _ _ _⟩
theorem hasp_95 (l : List UInt8) (w : World) (b : Bool) (h : (l.head? == some 95) = b) : Calls Tryz.prog 125 #[.string (str l), .string (str [95])] w fun e w' => e = .returned (.bool b) ∧ w = w' := by
  have := hasp_any l [95] w
  rw [pre_one, h] at this
  exact this
theorem str_tail (x : UInt8) (l : List UInt8) (n : Nat) (h : n = l.length + 1) : (str (x :: l)).extract 1 n = str l := by
  subst h
  refine byt_inj ?_
  rw [byt_ext, byt_str, byt_str]
  simp
set_option maxRecDepth 100000 in
set_option maxHeartbeats 1000000 in
theorem notation_us (z : List UInt8) (c : UInt8) (r : List UInt8) (bits : Nat) (w : World) (ha : asc z) (hl : z.length ≤ 100000) (hy : (if sgnT z then z.tail else z) = c :: r) (hb : bszC (lowC c) = some bits) (h95 : (r.head? == some 95) = true) :
    Calls Tryz.prog 89 #[.string (str z)] w (NotR w none) := by
  have O0 := (Own.at1 w 106 #[.int .i64 0, .nilFunc, .bool false, .string (str [])] (g := w.heap.size) (by simp))
  have BB := (below_new (Below.refl w.heap.size w) (.cells #[.int .i64 0, .nilFunc, .bool false, .string (str [])] 106))
  have HL := Lib.hid fun (u : World) => lower_any z u ha hl
  have HC := Lib.hid fun (u : World) => cutp_any (z.map Lib.lowerB) [115] u
  rw [cut_low, sgn_low, hy, List.map_cons] at HC
  have HR := Lib.hid fun (u : World) => radixOf_some (c := ((Lib.lowerB c).toNat : Int)) (g := bits) (base := limB bits) (by rw [bsz_grp, hb]; rfl) u
  have hc0 := str_0 (Lib.lowerB c) (r.map Lib.lowerB)
  have h95' : ((r.map Lib.lowerB).head? == some 95) = true := by
    cases r with
    | nil => exact h95
    | cons d t =>
      have := low_95 d
      simp only [List.head?_cons, List.map_cons] at h95 ⊢
      rw [Bool.eq_iff_iff] at this
      simp at this h95 ⊢
      exact this.2 h95
  have HP := Lib.hid fun (u : World) => hasp_95 (r.map Lib.lowerB) u true h95'
  have hst := str_tail (Lib.lowerB c) (r.map Lib.lowerB) _ rfl
  have hls : (r.map Lib.lowerB).length ≤ 100000 := by
    rw [List.length_map]
    have : (c :: r).length ≤ z.length := by
      rw [← hy]
      split
      · rw [List.length_tail]; omega
      · exact Nat.le_refl _
    simp only [List.length_cons] at this
    omega
  clear hy ha hb h95 h95'
  generalize sgnT z = sg at *
  generalize Lib.lowerB c = x at *
  generalize r.map Lib.lowerB = q at *
  generalize limB bits = base at *
  go_enter Tryz.func89, Tryz.ntmps89
  go_wp2_with (first
    | (go_at_call 124; (with_reducible refine (HL.out _).mono ?_); rintro e w1 ⟨rfl, hb⟩; replace BB := below_step BB hb; replace O0 := O0.step hb)
    | (go_at_call 46; (with_reducible refine (HC.out _).mono ?_); rintro e w2 ⟨rfl, rfl⟩)
    | (go_at_call 54; (with_reducible refine (HR.out _).mono ?_); rintro e w1 ⟨b, rfl, hcb, hb⟩; replace BB := below_new (below_step BB hb) (.cells #[.int .i64 (bits : Int), .func (.func 136) #[] #[.pointer (some ⟨b, 0, none⟩)]] 81); replace O0 := (O0.step hb).alloc (.cells #[.int .i64 (bits : Int), .func (.func 136) #[] #[.pointer (some ⟨b, 0, none⟩)]] 81); have q0 := O0.cell 0; have q1 := O0.cell 1; have q2 := O0.cell 2; have q3 := O0.cell 3; have f0 := O0.free 0; have f1 := O0.free 1; have f2 := O0.free 2; have f3 := O0.free 3)
    | (go_at_call 125; (refine (HP.out _).mono ?_); rintro e w2 ⟨rfl, rfl⟩))
  exact ret_not Tryz.results89 rfl rfl rfl (O0.put4 _ _ _ _) ⟨⟨_, _, _, _, .inl rfl, rfl⟩, below_set4 BB (Nat.le_refl _) _ _ _ _⟩
theorem low_asc (y : UInt8) (h : y.toNat < 128) : (Lib.lowerB y).toNat < 128 := by
  have hh : ∀ x : Fin 128, (Lib.lowerB (UInt8.ofNat x.val)).toNat < 128 := by decide +kernel
  have := hh ⟨y.toNat, h⟩
  simpa using this
theorem limB_ne (bits : Nat) : limB bits ≠ 0 := by
  unfold limB
  split
  · decide
  · exact Nat.ne_of_gt (Nat.pow_pos (by decide))
theorem base_q {c : UInt8} {bits : Nat} (h : bszC c = some bits) : baseQ (limB bits) := by
  rcases base_of h with rfl | rfl | rfl | rfl
  all_goals
    simp [bszC] at h
    subst h
    unfold baseQ limB
    decide
set_option maxRecDepth 100000 in
set_option maxHeartbeats 1000000 in
theorem notation_ok (z : List UInt8) (c : UInt8) (r : List UInt8) (bits : Nat) (w : World) (ha : asc z) (hl : z.length ≤ 100000) (hy : (if sgnT z then z.tail else z) = c :: r) (hb : bszC (lowC c) = some bits) (h95 : (r.head? == some 95) = false) (E : Env w) :
    Calls Tryz.prog 89 #[.string (str z)] w (NotR w (if digOk bits r then some (bits, sgnT z, digP r) else none)) := by
  have O0 := (Own.at1 w 106 #[.int .i64 0, .nilFunc, .bool false, .string (str [])] (g := w.heap.size) (by simp))
  have BB := (below_new (Below.refl w.heap.size w) (.cells #[.int .i64 0, .nilFunc, .bool false, .string (str [])] 106))
  have HL := Lib.hid fun (u : World) => lower_any z u ha hl
  have HC := Lib.hid fun (u : World) => cutp_any (z.map Lib.lowerB) [115] u
  rw [cut_low, sgn_low, hy, List.map_cons] at HC
  have HR := Lib.hid fun (u : World) => radixOf_some (c := ((Lib.lowerB c).toNat : Int)) (g := bits) (base := limB bits) (by rw [bsz_grp, hb]; rfl) u
  have hc0 := str_0 (Lib.lowerB c) (r.map Lib.lowerB)
  have h95' : ((r.map Lib.lowerB).head? == some 95) = false := by
    cases r with
    | nil => exact h95
    | cons d t =>
      have := low_95 d
      simp only [List.head?_cons, List.map_cons] at h95 ⊢
      rw [Bool.eq_iff_iff] at this
      simp at this h95 ⊢
      rw [this]
      exact h95
  have HP := Lib.hid fun (u : World) => hasp_95 (r.map Lib.lowerB) u false h95'
  have hst := str_tail (Lib.lowerB c) (r.map Lib.lowerB) _ rfl
  have hls : (r.map Lib.lowerB).length ≤ 100000 := by
    rw [List.length_map]
    have : (c :: r).length ≤ z.length := by
      rw [← hy]
      split
      · rw [List.length_tail]; omega
      · exact Nat.le_refl _
    simp only [List.length_cons] at this
    omega
  have HN := Lib.hid fun (u : World) (hb : Below w.heap.size w u) => noUs_any (str (r.map Lib.lowerB)) u (E.step hb) (by rw [size_str]; exact hls)
  rw [byt_str] at HN
  have hdp : (r.map Lib.lowerB).filter (· != 95) = digP r := rfl
  rw [hdp] at HN
  have had : asc (digP r) := fun d hd => by
    obtain ⟨h1, h2⟩ := List.mem_filter.1 hd
    obtain ⟨y, hy', rfl⟩ := List.mem_map.1 h1
    refine low_asc y (ha y ?_)
    have : y ∈ c :: r := List.mem_cons_of_mem _ hy'
    rw [← hy] at this
    split at this
    · exact List.mem_of_mem_tail this
    · exact this
  have HA := Lib.hid fun (b : Nat) (u : World) (hcb : u.cell? ⟨b, 0, none⟩ = some (.int .i64 (limB bits : Int))) => accepts_any (bits : Int) (limB bits) (.func (.func 136) #[] #[.pointer (some ⟨b, 0, none⟩)]) (digP r) u (base_q hb) ⟨b, rfl, hcb⟩ had
  rw [acc_dig bits (bits_of hb) r h95] at HA
  clear hy ha hb h95 h95' E had hdp
  generalize sgnT z = sg at *
  generalize Lib.lowerB c = x at *
  generalize r.map Lib.lowerB = q at *
  have HB0 := Lib.hid (limB_ne bits)
  generalize hbe : limB bits = base at *
  replace hbe := Lib.hid hbe
  generalize digP r = d at *
  generalize digOk bits r = acc at *
  obtain ⟨o, ho⟩ : ∃ o, (if acc then some (bits, sg, d) else none) = o := ⟨_, rfl⟩
  rw [ho]
  replace ho := Lib.hid ho
  go_enter Tryz.func89, Tryz.ntmps89
  go_wp2_with (first
    | (go_at_call 124; (with_reducible refine (HL.out _).mono ?_); rintro e w1 ⟨rfl, hb⟩; replace BB := below_step BB hb; replace O0 := O0.step hb)
    | (go_at_call 46; (with_reducible refine (HC.out _).mono ?_); rintro e w2 ⟨rfl, rfl⟩)
    | (go_at_call 54; (with_reducible refine (HR.out _).mono ?_); rintro e w1 ⟨b, rfl, hcb, hb⟩; have hgr := O0.lt; have hgs := hb.size; have hbl := cell_lt hcb; replace hcb := cell_step (below_new (Below.refl w1.heap.size w1) (.cells #[.int .i64 (bits : Int), .func (.func 136) #[] #[.pointer (some ⟨b, 0, none⟩)]] 81)) hcb; have OR := Own.new w1 81 #[.int .i64 (bits : Int), .func (.func 136) #[] #[.pointer (some ⟨b, 0, none⟩)]]; replace BB := below_new (below_step BB hb) (.cells #[.int .i64 (bits : Int), .func (.func 136) #[] #[.pointer (some ⟨b, 0, none⟩)]] 81); replace O0 := (O0.step hb).alloc (.cells #[.int .i64 (bits : Int), .func (.func 136) #[] #[.pointer (some ⟨b, 0, none⟩)]] 81); have q0 := O0.cell 0; have q1 := O0.cell 1; have q2 := O0.cell 2; have q3 := O0.cell 3; have f0 := O0.free 0; have f1 := O0.free 1; have f2 := O0.free 2; have f3 := O0.free 3)
    | (go_at_call 125; (refine (HP.out _).mono ?_); rintro e w2 ⟨rfl, rfl⟩)
    | (go_at_call 92; (refine (HN.out _ BB).mono ?_); rintro e w3 ⟨rfl, hb3⟩; replace BB := below_step BB hb3; replace O0 := O0.step hb3; replace OR := OR.step hb3; replace hcb := cell_step hb3 hcb))
  have S0 : ownT w1.heap.size 81 #[.int .i64 (bits : Int), .func (.func 136) #[] #[.pointer (some ⟨b, 0, none⟩)]] w3.drew ∧ (celA b 0 (.int .i64 (base : Int)) w3.drew ∧ blw w w3.drew) := ⟨OR.drew, hcb, below_drew BB⟩
  have P0 : ownT w.heap.size 106 #[.int .i64 0, .nilFunc, .bool false, .string (str [])] w3.drew := O0.drew
  haveI : Over w w.heap.size := ⟨Nat.le_refl _⟩
  haveI : Apart w.heap.size w1.heap.size := ⟨by omega⟩
  haveI : Apart w.heap.size b := ⟨fun e => by
    subst e
    have h1 := O0.cell 0
    have h2 : w3.cell? ⟨w.heap.size, 0, none⟩ = some (.int .i64 (base : Int)) := hcb
    rw [h1] at h2
    have h3 := HB0.out
    simp at h2
    exact h3 (by omega)⟩
  clear O0 OR hcb BB
  refine region_y (by kernel_rfl) (fun u => ownT w1.heap.size 81 #[.int .i64 (bits : Int), .func (.func 136) #[] #[.pointer (some ⟨b, 0, none⟩)]] u ∧ (celA b 0 (.int .i64 (base : Int)) u ∧ blw w u))
    [tru, tru, tru, tru, tru, tru, tru, ownT w.heap.size 106 #[.int .i64 0, .nilFunc, .bool false, .string (str [])], tru]
    [isV (.agg #[.int .i64 (bits : Int), .func (.func 136) #[] #[.pointer (some ⟨b, 0, none⟩)]]), isV (.bool sg), isV (.string (str d)), isV (.agg #[.int .i64 (bits : Int), .func (.func 136) #[] #[.pointer (some ⟨b, 0, none⟩)], .bool sg, .string (str d)]), isV (.agg #[.int .i64 (bits : Int), .func (.func 136) #[] #[.pointer (some ⟨b, 0, none⟩)]]), isV (.string (str d)), isV (.bool acc), didT w.heap.size 106 #[.int .i64 (bits : Int), .func (.func 136) #[] #[.pointer (some ⟨b, 0, none⟩)], .bool sg, .string (str d)], isV (.bool acc)]
    [some 34, some 35, some 36, some 37, some 38, some 39, some 40, none, some 3] [[], [], [], [0, 1, 2], [], [], [4, 5], [3, 6, 0, 1, 2, 3], [6, 7, 0, 1, 2, 3, 4, 5, 6, 7]] (by kernel_rfl) (by kernel_rfl) rfl (by kernel_rfl) (by kernel_rfl) (by kernel_rfl) S0 (by
    intro U hU
    simp only [List.mem_cons, List.not_mem_nil, or_false] at hU
    rcases hU with rfl | rfl | rfl | rfl | rfl | rfl | rfl | rfl | rfl
    all_goals first | trivial | exact P0) ?_ ?_
  · refine ⟨?_, ?_, ?_, ?_, ?_, ?_, ?_, ?_, ?_, trivial⟩
    · intro a w' hS hO hF' hP K hK
      have ha := hO 5 (by rfl)
      refine if_ok (by rfl) ?_
      refine wp_load_row _ _ rfl w1.heap.size (ev ha) _ _ (0, 0) _ hS.1 Tryz.underlying81 rfl (by kernel_rfl) ?_
      exact hK _ w' (fun h => by cases h) (keep_same hS) rfl
    · intro a w' hS hO hF' hP K hK
      have ha := hO 4 (by rfl)
      refine if_ok (by rfl) ?_
      refine wp_mv _ rfl (ev ha) ?_
      exact hK _ w' (fun h => by cases h) (keep_same hS) rfl
    · intro a w' hS hO hF' hP K hK
      have ha := hO 7 (by rfl)
      refine if_ok (by rfl) ?_
      refine wp_mv _ rfl (ev ha) ?_
      exact hK _ w' (fun h => by cases h) (keep_same hS) rfl
    · intro a w' hS hO hF' hP K hK
      obtain ⟨_, f0, rfl⟩ := (hF' 0 rfl).1 34 _ rfl rfl
      obtain ⟨_, f1, rfl⟩ := (hF' 1 rfl).1 35 _ rfl rfl
      obtain ⟨_, f2, rfl⟩ := (hF' 2 rfl).1 36 _ rfl rfl
      refine if_ok (by rfl) ?_
      refine wp_val (w' := w') (q := .agg #[.int .i64 (bits : Int), .func (.func 136) #[] #[.pointer (some ⟨b, 0, none⟩)], .bool sg, .string (str d)]) (by
        unfold execOp
        simp only [Sem.run_bind, List.map_toArray, List.map_cons, List.map_nil, ev f0, ev f1, ev f2, run_bldN, Result.andThen_ok, Sem.run_pure]) ?_
      exact hK _ w' (fun h => by cases h) (keep_same hS) rfl
    · intro a w' hS hO hF' hP K hK
      have ha := hO 5 (by rfl)
      refine if_ok (by rfl) ?_
      refine wp_load_row _ _ rfl w1.heap.size (ev ha) _ _ (0, 0) _ hS.1 Tryz.underlying81 rfl (by kernel_rfl) ?_
      exact hK _ w' (fun h => by cases h) (keep_same hS) rfl
    · intro a w' hS hO hF' hP K hK
      have ha := hO 7 (by rfl)
      refine if_ok (by rfl) ?_
      refine wp_mv _ rfl (ev ha) ?_
      exact hK _ w' (fun h => by cases h) (keep_same hS) rfl
    · intro a w' hS hO hF' hP K hK
      obtain ⟨_, f0, rfl⟩ := (hF' 4 rfl).1 38 _ rfl rfl
      obtain ⟨_, f1, rfl⟩ := (hF' 5 rfl).1 39 _ rfl rfl
      refine if_ok (by rfl) ?_
      refine wp_calls rfl ent_accepts (args := #[.agg #[.int .i64 (bits : Int), .func (.func 136) #[] #[.pointer (some ⟨b, 0, none⟩)]], .string (str d)]) (by simp [Act.eval, f0, f1]) ?_
      refine (HA.out b w' hS.2.1).mono ?_
      rintro e w9 ⟨rfl, hb9⟩
      exact ⟨_, rfl, hK _ w9 (fun h => by cases h) (keep_below hb9 hS) rfl⟩
    · intro a w' hS hO hF' hP K hK
      have O := hP 7 _ (by rfl) rfl
      have ha := hO 2 (by rfl)
      obtain ⟨_, f1, rfl⟩ := (hF' 3 rfl).1 37 _ rfl rfl
      refine if_ok (by rfl) ?_
      refine wp_store_row _ _ _ rfl w.heap.size _ (ev ha) (ev f1) _ _ O not_size rfl (by simp [Value.oneCell']) ?_
      exact hK _ _ (fun _ => rfl) (keep_row inferInstance ⟨inferInstance, inferInstance, inferInstance, inferInstance, inferInstance, inferInstance, inferInstance, inferInstance, trivial⟩ ⟨inferInstance, inferInstance, inferInstance, inferInstance, inferInstance, inferInstance, inferInstance, inferInstance, trivial⟩ hS) (Own.row O)
    · intro a w' hS hO hF' hP K hK
      obtain ⟨_, f0, rfl⟩ := (hF' 6 rfl).1 40 _ rfl rfl
      refine if_ok (by rfl) ?_
      refine wp_val (w' := w') (q := .bool acc) (by unfold execOp; simp only [Sem.run_pure, ev f0]) ?_
      exact hK _ w' (fun h => by cases h) (keep_same hS) rfl
  · intro vs u hl hS hV
    match vs, hl, hV with
    | [v0, v1, v2, v3, v4, v5, v6, v7, v8], _, hV =>
      simp only [puts, Act.put, List.setIfInBounds_toArray, List.set_cons_zero, List.set_cons_succ]
      have OU := hV 7 _ rfl
      obtain rfl : v8 = .bool acc := hV 8 _ rfl
      obtain ⟨_, hcb, BB⟩ := hS
      clear hV
      go_wp2
      refine ret_not Tryz.results89 rfl rfl rfl OU ⟨?_, BB⟩
      rw [← ho.out]
      cases acc
      · exact ⟨_, _, _, _, .inr ⟨_, rfl⟩, rfl⟩
      · exact ⟨_, rfl, b, rfl, by rw [hbe.out]; exact hcb⟩
theorem notation_any (z : List UInt8) (w : World) (E : Env w) (ha : asc z) (hl : z.length ≤ 100000) :
    Calls Tryz.prog 89 #[.string (str z)] w (NotR w (noteL z)) := by
  unfold noteL
  cases hy : (if sgnT z then z.tail else z) with
  | nil => exact notation_nil z w ha hl hy
  | cons c r =>
    cases hb : bszC (lowC c) with
    | none =>
      simp only [hb]
      exact notation_none z c r w ha hl hy hb
    | some bits =>
      simp only [hb]
      cases h95 : (r.head? == some 95)
      · exact notation_ok z c r bits w ha hl hy hb h95 E
      · have : digOk bits r = false := by
          unfold digOk bne
          rw [h95]
          simp
        rw [this]
        exact notation_us z c r bits w ha hl hy hb h95
end Go.Proofs.YtgojnpblhfbdpaaGreatDoor

namespace Go.Proofs.YtgojnpblhfbdpaaGreatDoor
open Go Go.RowKit

/-- Bit i of a digit as the program has it. -/
def bitP (c : UInt8) (i : Nat) : Int := if unQ (c.toNat : Int) then unI (c.toNat : Int) else fromI ((vlC c).testBit i)
def capC (c : UInt8) : Bool := decide (65 ≤ c.toNat) && decide (c.toNat ≤ 90)
theorem bitP_qz {b : Nat} (c : UInt8) (h : capC c = false) {i : Nat} (hi : i < b) : nth (dbits b (qz c)) i = bitP c i := by
  unfold dbits
  rw [nth_tab _ hi]
  have hh : ∀ x : Fin 256, capC (UInt8.ofNat x.val) = false → ((qz (UInt8.ofNat x.val) == 120) = true → unQ ((UInt8.ofNat x.val).toNat : Int) = true ∧ unI ((UInt8.ofNat x.val).toNat : Int) = 2) ∧ ((qz (UInt8.ofNat x.val) == 120) = false → (qz (UInt8.ofNat x.val) == 122) = true → unQ ((UInt8.ofNat x.val).toNat : Int) = true ∧ unI ((UInt8.ofNat x.val).toNat : Int) = 3) ∧ ((qz (UInt8.ofNat x.val) == 120) = false → (qz (UInt8.ofNat x.val) == 122) = false → unQ ((UInt8.ofNat x.val).toNat : Int) = false ∧ qz (UInt8.ofNat x.val) = UInt8.ofNat x.val) := by decide +kernel
  have := hh ⟨c.toNat, UInt8.toNat_lt c⟩
  simp only [UInt8.ofNat_toNat] at this
  obtain ⟨h1, h2, h3⟩ := this h
  unfold bitP
  cases q1 : qz c == 120
  · cases q2 : qz c == 122
    · rw [(h3 q1 q2).1, (h3 q1 q2).2]
      simp
    · rw [(h2 q1 q2).1, (h2 q1 q2).2]
      simp
  · rw [(h1 q1).1, (h1 q1).2]
    simp
theorem and_bit {n i : Nat} (hn : n < 16) (hi : i < 4) : (bits .and .i64 ((n : Int) / 2 ^ i) 1 == 1) = n.testBit i := by
  have h : ∀ n : Fin 16, ∀ i : Fin 4, (bits .and .i64 ((n.val : Int) / 2 ^ i.val) 1 == 1) = n.val.testBit i.val := by decide +kernel
  exact h ⟨n, hn⟩ ⟨i, hi⟩
set_option maxRecDepth 100000 in
set_option maxHeartbeats 1000000 in
theorem bit_any (G : Int) (base b : Nat) (c : UInt8) (i : Nat) (hi : i < 4) (hbq : baseQ base) (hc : c.toNat < 128) (hok : vlC c < base ∨ unQ (c.toNat : Int) = true) (w : World) (hcb : w.cell? ⟨b, 0, none⟩ = some (.int .i64 (base : Int))) :
    Calls Tryz.prog 156 #[.agg #[.int .i64 G, .func (.func 136) #[] #[.pointer (some ⟨b, 0, none⟩)]], .int .i32 (c.toNat : Int), .int .i64 (i : Int)] w fun e w' => e = .returned (.int .u8 (bitP c i)) ∧ Below w.heap.size w w' := by
  have O0 := (Own.at1 w 81 #[.int .i64 G, .func (.func 136) #[] #[.pointer (some ⟨b, 0, none⟩)]] (g := w.heap.size) (by simp))
  have BB := below_new (Below.refl w.heap.size w) (.cells #[.int .i64 G, .func (.func 136) #[] #[.pointer (some ⟨b, 0, none⟩)]] 81)
  have q0 := O0.cell 0
  have q1 := O0.cell 1
  have HU := Lib.hid fun (u : World) => unknown_any (c.toNat : Int) (by omega) (by omega) u
  unfold bitP
  cases hu : unQ (c.toNat : Int)
  · simp only [Bool.false_eq_true, if_false]
    have hv : vlC c < base := by
      rcases hok with h | h
      · exact h
      · rw [hu] at h; cases h
    have HV := below1_any b base c.toNat hc hbq _ (cell_step BB hcb)
    rw [dv_yes hv] at HV
    have h16 : vlC c < 16 := by rcases hbq with rfl | rfl | rfl | rfl <;> omega
    have HF := Lib.hid fun (q : Bool) (u : World) => from_any q u
    generalize vlC c = n at *
    replace HV := Lib.hid HV
    clear hok hcb hv
    go_enter Tryz.func156, Tryz.ntmps156
    go_wp2_with (first | (go_at_call 127; (with_reducible refine (HU.out _).mono ?_); rintro e w' ⟨rfl, rfl⟩) | (go_at_call 136; (refine HV.out.mono ?_); rintro e w' ⟨rfl, rfl⟩) | (go_at_call 115; refine (HF.out _ _).mono ?_; rintro e w' ⟨rfl, m, rfl⟩))
    go_ret
    exact ⟨ret_u8 (congrArg fromI (and_bit h16 hi)), below_drewN BB _⟩
  · simp only [if_true]
    clear hok hcb
    go_enter Tryz.func156, Tryz.ntmps156
    go_wp2_with (first | (go_at_call 127; (with_reducible refine (HU.out _).mono ?_); rintro e w' ⟨rfl, rfl⟩))
    go_ret
    exact ⟨rfl, BB⟩
end Go.Proofs.YtgojnpblhfbdpaaGreatDoor

