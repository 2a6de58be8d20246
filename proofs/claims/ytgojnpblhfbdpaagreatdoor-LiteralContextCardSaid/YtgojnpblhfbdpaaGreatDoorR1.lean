/-
  Characters, decimal numbers and digits of vectors as lists of bytes. Mathematics, no conditions.
  Number literals as lists of bytes: what a text denotes, and the text of a vector. Mathematics, no conditions.
  The text of a vector and what it denotes; underscores, smaller sizes, groups. Mathematics, no conditions.
  The digits and the literal of a vector: what they denote. Mathematics, no conditions.
  Digits by their place, upper-case letters, strings as lists of bytes. Mathematics, no conditions.
  What a parsed literal is: a valid vector within the text; numbers with a bound. Mathematics, no conditions.
  Digits, Format and Parse as functions on lists of bytes, and their laws. Mathematics, no conditions.
  What the library's functions on texts make of lists of bytes, in this place's words: the first byte that is not of a class, texts without underscores, numbers. Mathematics, no conditions.
  Decimal digits by doubling, the library's decimal numeral, and what a text denotes whose digits are no literal's. Mathematics, no conditions.
  The text that Format parses again: the vector where the digits are a literal's, and nothing of it otherwise. Mathematics, no conditions.
-/
import Derived.Test.YtgojnpblhfbdpaaGreatDoorQk
import Derived.Test.YtgojnpblhfbdpaaGreatDoorQm
import Derived.Lib.ReplaceLaws
import Derived.Lib.ParseIntB
import Derived.Lib.ItoaNum
import Derived.Lib.Case
import Derived.Laws.RangeAny
import Derived.Shelf.GgClosure.StringsIndexFunc
namespace Go.Proofs.YtgojnpblhfbdpaaGreatDoor
open Go Go.RowKit

/-- The character of a value below 16. -/
def dgc (n : Nat) : UInt8 := UInt8.ofNat (if n < 10 then 48 + n else 87 + n)
def decC (c : UInt8) : Bool := decide (48 ≤ c.toNat) && decide (c.toNat ≤ 57)
/-- The value of a digit in lower case. -/
def vlC (c : UInt8) : Nat := if decC c then c.toNat - 48 else if 97 ≤ c.toNat ∧ c.toNat ≤ 102 then c.toNat - 87 else 99
theorem vl_dgc : ∀ n, n < 16 → vlC (dgc n) = n := by decide
theorem dec_dgc : ∀ n, n < 10 → decC (dgc n) = true := by decide
theorem dgc_low : ∀ n, n < 16 → dgc n ≠ 88 ∧ dgc n ≠ 90 ∧ dgc n ≠ 45 ∧ dgc n ≠ 120 ∧ dgc n ≠ 122 ∧ dgc n ≠ 95 ∧ dgc n ≠ 63 := by decide

/-! Decimal numbers. -/
def decL (n : Nat) : List UInt8 := if n < 10 then [dgc n] else decL (n / 10) ++ [dgc (n % 10)]
termination_by n
decreasing_by omega
def valL (l : List UInt8) : Nat := l.foldl (fun a c => 10 * a + vlC c) 0
theorem valL_snoc (l : List UInt8) (c : UInt8) : valL (l ++ [c]) = 10 * valL l + vlC c := by simp [valL]
theorem decL_lt {n : Nat} (h : n < 10) : decL n = [dgc n] := by rw [decL, if_pos h]
theorem decL_ge {n : Nat} (h : 10 ≤ n) : decL n = decL (n / 10) ++ [dgc (n % 10)] := by rw [decL, if_neg (by omega)]
theorem val_dec (n : Nat) : valL (decL n) = n := by
  induction n using Nat.strongRecOn with
  | _ n ih =>
    by_cases h : n < 10
    · rw [decL_lt h]
      show 10 * 0 + vlC (dgc n) = n
      rw [vl_dgc n (by omega)]
      omega
    · rw [decL_ge (by omega), valL_snoc, ih (n / 10) (by omega), vl_dgc _ (by omega)]
      omega
theorem dec_all (n : Nat) : ∀ c ∈ decL n, decC c = true := by
  induction n using Nat.strongRecOn with
  | _ n ih =>
    by_cases h : n < 10
    · rw [decL_lt h]
      intro c hc
      rw [List.mem_singleton.1 hc]
      exact dec_dgc n h
    · rw [decL_ge (by omega)]
      intro c hc
      rcases List.mem_append.1 hc with hc | hc
      · exact ih (n / 10) (by omega) c hc
      · rw [List.mem_singleton.1 hc]
        exact dec_dgc _ (by omega)
theorem dec_len (n : Nat) : 1 ≤ (decL n).length := by
  by_cases h : n < 10
  · rw [decL_lt h]; exact Nat.le_refl 1
  · rw [decL_ge (by omega), List.length_append]; simp
theorem dec_len_le : ∀ (k n : Nat), n < 10 ^ (k + 1) → (decL n).length ≤ k + 1
  | 0, n, h => by rw [decL_lt (by omega)]; exact Nat.le_refl 1
  | k + 1, n, h => by
    by_cases c : n < 10
    · rw [decL_lt c, List.length_singleton]; omega
    · rw [decL_ge (by omega), List.length_append, List.length_singleton]
      have := dec_len_le k (n / 10) (by rw [Nat.pow_succ] at h; omega)
      omega

/-! Groups of bits. -/
/-- The character of a group of bits, the least significant first. -/
def grp (g : List Int) : UInt8 := if g.all (· == 2) then 120 else if g.all (· == 3) then 122 else if g.any (· == 2) then 88 else if g.any (· == 3) then 90 else dgc (num g)
/-- The bits of a digit. -/
def dbits (b : Nat) (c : UInt8) : List Int := tab b fun k => if c == 120 then 2 else if c == 122 then 3 else fromI ((vlC c).testBit k)
theorem dbits_len (b : Nat) (c : UInt8) : (dbits b c).length = b := tab_len _ _
/-- The groups of a vector, the least significant first. -/
def grps (b : Nat) (l : List Int) : List (List Int) := (List.range ((l.length + b - 1) / b)).map fun j => (l.drop (j * b)).take b
/-- The digits in the bases 2, 8 and 16. -/
def digL (b : Nat) (l : List Int) : List UInt8 := ((grps b l).map grp).reverse
theorem digL_len (b : Nat) (l : List Int) : (digL b l).length = (l.length + b - 1) / b := by simp [digL, grps]
/-- The vector that digits denote in the bases 2, 8 and 16. -/
def litL (b : Nat) (d : List UInt8) (w : Nat) : List Int :=
  tab w fun i => if i < d.length * b then nth (d.reverse.flatMap (dbits b)) i else if d.head? = some 120 then 2 else if d.head? = some 122 then 3 else 0
theorem flat_at {b : Nat} (hb : 0 < b) (f : UInt8 → List Int) (hf : ∀ c, (f c).length = b) : ∀ (l : List UInt8) (i : Nat), i < l.length * b → nth (l.flatMap f) i = nth (f (l.getD (i / b) 0)) (i % b)
  | [], i, h => by simp at h
  | c :: l, i, h => by
    rw [List.flatMap_cons]
    by_cases hi : i < b
    · rw [Nat.div_eq_of_lt hi, Nat.mod_eq_of_lt hi]
      simp only [nth, List.getD_eq_getElem?_getD]
      rw [List.getElem?_append_left (by rw [hf]; exact hi)]
      rfl
    · have e := flat_at hb f hf l (i - b) (by rw [List.length_cons, Nat.succ_mul] at h; omega)
      obtain ⟨k, rfl⟩ : ∃ k, i = k + b := ⟨i - b, by omega⟩
      rw [Nat.add_sub_cancel] at e
      have : nth (f c ++ l.flatMap f) (k + b) = nth (l.flatMap f) k := by
        simp only [nth, List.getD_eq_getElem?_getD]
        rw [List.getElem?_append_right (by rw [hf]; omega), hf, Nat.add_sub_cancel]
      rw [this, e, Nat.add_div_right _ hb, Nat.add_mod_right]
      rfl
theorem take_drop_at (l : List Int) {b j k : Nat} (hk : k < b) (_h : j * b + k < l.length) : nth ((l.drop (j * b)).take b) k = nth l (j * b + k) := by
  simp only [nth, List.getD_eq_getElem?_getD, List.getElem?_take, if_pos hk, List.getElem?_drop]
/-- The bits of a group's digit, if it has one. -/
theorem dbits_grp {g : List Int} {b : Nat} (hb : b ≤ 4) (hg : g.length ≤ b) (h0 : ∀ i, i < g.length → 0 ≤ nth g i ∧ nth g i ≤ 3) (hx : grp g ≠ 88) (hz : grp g ≠ 90) {k : Nat} (hk : k < g.length) : nth (dbits b (grp g)) k = nth g k := by
  have hget : ∀ {p : Int → Bool}, g.all p = true → p (nth g k) = true := fun {p} h => by
    have : nth g k = g[k] := by simp [nth, List.getD_eq_getElem?_getD, hk]
    rw [this]
    exact List.all_eq_true.1 h _ (List.getElem_mem hk)
  have hany : ∀ {p : Int → Bool}, g.any p = false → p (nth g k) = false := fun {p} h => by
    have : nth g k = g[k] := by simp [nth, List.getD_eq_getElem?_getD, hk]
    rw [this]
    have := List.any_eq_false.1 h _ (List.getElem_mem hk)
    simpa using this
  unfold dbits
  rw [nth_tab _ (by omega)]
  unfold grp at hx hz ⊢
  by_cases c1 : g.all (· == 2) = true
  · rw [if_pos c1]
    have := hget c1
    simp at this
    rw [this]; rfl
  · rw [if_neg c1] at hx hz ⊢
    by_cases c2 : g.all (· == 3) = true
    · rw [if_pos c2]
      have := hget c2
      simp at this
      rw [this]; rfl
    · rw [if_neg c2] at hx hz ⊢
      by_cases c3 : g.any (· == 2) = true
      · rw [if_pos c3] at hx; exact absurd rfl hx
      · rw [if_neg c3] at hx hz ⊢
        by_cases c4 : g.any (· == 3) = true
        · rw [if_pos c4] at hz; exact absurd rfl hz
        · rw [if_neg c4]
          have d1 := hany (Bool.eq_false_iff.2 c3)
          have d2 := hany (Bool.eq_false_iff.2 c4)
          simp at d1 d2
          have hlt : num g < 16 := Nat.lt_of_lt_of_le (num_lt g) (Nat.le_trans (Nat.pow_le_pow_right (by decide) (show g.length ≤ 4 by omega)) (by decide))
          have dl := dgc_low _ hlt
          have e1 : (dgc (num g) == 120) = false := by simpa using dl.2.2.2.1
          have e2 : (dgc (num g) == 122) = false := by simpa using dl.2.2.2.2.1
          rw [e1, e2]
          simp only [Bool.false_eq_true, if_false]
          rw [vl_dgc _ hlt, num_bit]
          have := h0 k hk
          rcases (show nth g k = 0 ∨ nth g k = 1 by omega) with e | e <;> rw [e] <;> rfl
/-- A vector whose digits have no upper-case letter is what its digits denote. -/
theorem lit_dig {l : List Int} {b : Nat} (hb0 : 0 < b) (hb : b ≤ 4) (h0 : ∀ i, i < l.length → 0 ≤ nth l i ∧ nth l i ≤ 3) (hup : ∀ c ∈ digL b l, c ≠ 88 ∧ c ≠ 90) : litL b (digL b l) l.length = l := by
  have hm : l.length ≤ (l.length + b - 1) / b * b := by
    have h1 := Nat.div_add_mod (l.length + b - 1) b
    have h2 := Nat.mod_lt (l.length + b - 1) hb0
    rw [Nat.mul_comm] at h1
    omega
  unfold litL
  refine list_ext (tab_len _ _) fun i hi => ?_
  rw [tab_len] at hi
  rw [nth_tab _ hi, digL_len, if_pos (by omega), flat_at hb0 (dbits b) (dbits_len b) _ _ (by rw [List.length_reverse, digL_len]; omega)]
  have hj : i / b < (l.length + b - 1) / b := (Nat.div_lt_iff_lt_mul hb0).2 (by omega)
  have hk := Nat.mod_lt i hb0
  have hi' : i / b * b + i % b = i := by rw [Nat.mul_comm]; exact Nat.div_add_mod i b
  have e : (digL b l).reverse.getD (i / b) 0 = grp ((l.drop (i / b * b)).take b) := by
    unfold digL grps
    rw [List.reverse_reverse, List.getD_eq_getElem?_getD, List.getElem?_map, List.getElem?_map, List.getElem?_range hj]
    rfl
  have hgl : ((l.drop (i / b * b)).take b).length ≤ b := by rw [List.length_take]; omega
  have hkg : i % b < ((l.drop (i / b * b)).take b).length := by rw [List.length_take, List.length_drop]; omega
  have hin : grp ((l.drop (i / b * b)).take b) ∈ digL b l := by
    unfold digL grps
    rw [List.mem_reverse, List.mem_map]
    exact ⟨_, List.mem_map.2 ⟨i / b, List.mem_range.2 hj, rfl⟩, rfl⟩
  rw [e, dbits_grp hb hgl (fun q hq => by
    rw [List.length_take, List.length_drop] at hq
    rw [take_drop_at l (by omega) (by omega)]
    exact h0 _ (by omega)) (hup _ hin).1 (hup _ hin).2 hkg, take_drop_at l hk (by omega), hi']
end Go.Proofs.YtgojnpblhfbdpaaGreatDoor

namespace Go.Proofs.YtgojnpblhfbdpaaGreatDoor
open Go Go.RowKit

def letC (c : UInt8) : Bool := (decide (97 ≤ c.toNat) && decide (c.toNat ≤ 122)) || (decide (65 ≤ c.toNat) && decide (c.toNat ≤ 90))
def wordC (q : Bool) (c : UInt8) : Bool := letC c || decC c || c == 95 || (q && c == 63)
def lowC (c : UInt8) : UInt8 := if 65 ≤ c.toNat ∧ c.toNat ≤ 90 then c + 32 else if c = 63 then 122 else c
/-- The bits of a digit of a base: 0 for base 10. -/
def bszC (c : UInt8) : Option Nat := if c = 98 then some 1 else if c = 111 then some 3 else if c = 100 then some 0 else if c = 104 then some 4 else none
def unkC (c : UInt8) : Bool := c == 120 || c == 122
def cleanL (r : List UInt8) : List UInt8 := (r.filter (· != 95)).map lowC
def limB (bits : Nat) : Nat := if bits = 0 then 10 else 2 ^ bits
def digOk (bits : Nat) (r : List UInt8) : Bool :=
  !r.isEmpty && r.head? != some 95 && (cleanL r).all (fun c => unkC c || decide (vlC c < limB bits)) && (decide (0 < bits) || (cleanL r).all (fun c => !unkC c) || decide ((cleanL r).length = 1))
def litV (bits : Nat) (d : List UInt8) (w : Nat) : List Int :=
  if bits = 0 then (if d.head? = some 120 then tab w fun _ => 2 else if d.head? = some 122 then tab w fun _ => 3 else frN w (valL d)) else litL bits d w
def numOk (w : List UInt8) : Bool := (w.head?.map decC).getD false && w.all fun c => decC c || c == 95
def valU (w : List UInt8) : Nat := valL (w.filter (· != 95))
/-- The digits of a based literal, behind its apostrophe and sign: the vector's bits or an error. -/
def basedT (z : List UInt8) (width : Nat) : Except Int (List Int) := match z with
  | [] => .error 3
  | c :: ds => match bszC (lowC c) with
    | none => .error 3
    | some bits => if digOk bits ds then (if 256 < (cleanL ds).length then .error 5 else .ok (litV bits (cleanL ds) width)) else .error 3
def sgnT (z : List UInt8) : Bool := (z.head?.map lowC) == some 115
/-- The literal at the start of a text that is not empty: the vector, its length, or an error. -/
def prsT (t : List UInt8) : Except Int (V × Nat) :=
  let w := t.takeWhile (wordC false)
  let r := t.drop w.length
  let quote := r.head? == some 39
  if !numOk w && !(w.isEmpty && quote) then .error 3
  else if !quote then (if 2147483647 < valU w then .error 5 else .ok (⟨frN 32 (valU w), true⟩, w.length))
  else if !w.isEmpty && (decide (valU w < 1) || decide (128 < valU w)) then .error 12
  else
    let q := r.tail
    if q.isEmpty then .error 4
    else
      let z := q.takeWhile (wordC true)
      let sg := sgnT z
      match basedT (if sg then z.tail else z) (if w.isEmpty then 32 else valU w) with
      | .error e => .error e
      | .ok l => .ok (⟨l, sg⟩, w.length + 1 + z.length)
/-- Parse: the vector, the offset behind it, the error. -/
def prsV (s : List UInt8) (i : Int) : V × Int × Int :=
  if 65536 < s.length then (nilV, 0, 5)
  else if i < 0 ∨ (s.length : Int) < i then (nilV, 0, 1)
  else if i = s.length then (nilV, 0, 4)
  else match prsT (s.drop i.toNat) with
    | .error e => (nilV, 0, e)
    | .ok (v, n) => (v, i + n, 0)

/-! A sequence at the start of a text. -/
theorem tw_app {p : UInt8 → Bool} : ∀ {a b : List UInt8}, (∀ c ∈ a, p c = true) → (∀ c, b.head? = some c → p c = false) → (a ++ b).takeWhile p = a
  | [], [], _, _ => rfl
  | [], c :: b, _, h => by simp [h c rfl]
  | c :: a, b, h, h' => by
    rw [List.cons_append, List.takeWhile_cons, h c (by simp)]
    simp only [if_true]
    rw [tw_app (fun x hx => h x (by simp [hx])) h']
theorem dec_word {q : Bool} {c : UInt8} (h : decC c = true) : wordC q c = true := by unfold wordC; rw [h]; simp
theorem dec_no95 {c : UInt8} (h : decC c = true) : (c != 95) = true := by
  rw [bne_iff_ne]
  rintro rfl
  exact absurd h (by decide)
theorem filter_dec {l : List UInt8} (h : ∀ c ∈ l, decC c = true) : l.filter (· != 95) = l := List.filter_eq_self.2 fun c hc => dec_no95 (h c hc)
theorem valU_dec (n : Nat) : valU (decL n) = n := by unfold valU; rw [filter_dec (dec_all n), val_dec]
theorem numOk_dec (n : Nat) : numOk (decL n) = true := by
  unfold numOk
  have h := dec_all n
  have hl := dec_len n
  cases e : decL n with
  | nil => rw [e] at hl; simp at hl
  | cons c t =>
    rw [e] at h
    simp only [List.head?_cons, Option.map_some, Option.getD_some, h c (by simp), Bool.true_and]
    rw [List.all_eq_true]
    intro x hx
    rw [h x hx]
    rfl
theorem decL_ne (n : Nat) : (decL n).isEmpty = false := by
  have := dec_len n
  cases h : decL n with
  | nil => rw [h] at this; simp at this
  | cons c t => rfl
/-- The text of a literal with its width. -/
def litT (n : Nat) (sg : Bool) (bl : UInt8) (ds : List UInt8) : List UInt8 := decL n ++ 39 :: ((if sg then [115] else []) ++ bl :: ds)
theorem litT_len (n : Nat) (sg : Bool) (bl : UInt8) (ds : List UInt8) : (litT n sg bl ds).length = (decL n).length + 1 + ((if sg then [115] else []) ++ bl :: ds : List UInt8).length := by
  unfold litT
  rw [List.length_append, List.length_cons]
  omega
theorem base_of {bl : UInt8} {bits : Nat} (h : bszC bl = some bits) : bl = 98 ∨ bl = 111 ∨ bl = 100 ∨ bl = 104 := by
  unfold bszC at h
  split at h
  · exact .inl ‹_›
  · split at h
    · exact .inr (.inl ‹_›)
    · split at h
      · exact .inr (.inr (.inl ‹_›))
      · split at h
        · exact .inr (.inr (.inr ‹_›))
        · cases h
theorem base_low {bl : UInt8} {bits : Nat} (h : bszC bl = some bits) : lowC bl = bl ∧ bl ≠ 115 ∧ wordC true bl = true := by
  rcases base_of h with rfl | rfl | rfl | rfl <;> decide
/-- What such a text denotes, whatever follows it but a letter, digit, underscore or question mark. -/
theorem prs_lit {n : Nat} (h1 : 1 ≤ n) (h2 : n ≤ 128) (sg : Bool) {bl : UInt8} {bits : Nat} (hb : bszC bl = some bits) {ds rest : List UInt8} (hw : ∀ c ∈ ds, wordC true c = true) (hd : digOk bits ds = true) (hl : (cleanL ds).length ≤ 256) (hr : ∀ c, rest.head? = some c → wordC true c = false) :
    prsT (litT n sg bl ds ++ rest) = .ok (⟨litV bits (cleanL ds) n, sg⟩, (litT n sg bl ds).length) := by
  obtain ⟨l1, l2, l3⟩ := base_low hb
  have e0 : litT n sg bl ds ++ rest = decL n ++ 39 :: (((if sg then [115] else []) ++ bl :: ds) ++ rest) := by
    unfold litT
    rw [List.append_assoc, List.cons_append]
  have e1 : (litT n sg bl ds ++ rest).takeWhile (wordC false) = decL n := by
    rw [e0]
    exact tw_app (fun c hc => dec_word (dec_all n c hc)) (fun c hc => by
      simp at hc
      subst hc
      decide)
  have e2 : (litT n sg bl ds ++ rest).drop (decL n).length = 39 :: (((if sg then [115] else []) ++ bl :: ds) ++ rest) := by
    rw [e0, List.drop_left]
  have e3 : (((if sg then [115] else []) ++ bl :: ds) ++ rest : List UInt8).takeWhile (wordC true) = (if sg then [115] else []) ++ bl :: ds := tw_app (fun c hc => by
    rcases List.mem_append.1 hc with hc | hc
    · cases sg
      · simp at hc
      · simp at hc
        subst hc
        decide
    · rcases List.mem_cons.1 hc with rfl | hc
      · exact l3
      · exact hw c hc) hr
  have e4 : ((((if sg then [115] else []) ++ bl :: ds) ++ rest : List UInt8)).isEmpty = false := by cases sg <;> rfl
  have e5 : sgnT ((if sg then [115] else []) ++ bl :: ds) = sg := by
    unfold sgnT
    cases sg
    · simp [l1, l2]
    · rfl
  have e6 : (if sg then ((if sg then [115] else []) ++ bl :: ds : List UInt8).tail else ((if sg then [115] else []) ++ bl :: ds)) = bl :: ds := by cases sg <;> rfl
  have e7 : basedT (bl :: ds) n = .ok (litV bits (cleanL ds) n) := by
    simp only [basedT, l1, hb, hd, if_true]
    rw [if_neg (by omega)]
  unfold prsT
  simp only [e1, e2, numOk_dec, decL_ne, valU_dec, List.head?_cons, List.tail_cons, e3, e4, e5, e6]
  rw [if_neg (by simp), if_neg (by simp), if_neg (by simp; omega), if_neg (by simp)]
  simp only [Bool.false_eq_true, if_false, e7, litT_len]
/-! The text of a vector. -/
/-- The digits of a vector in base 10. -/
def digD (v : V) : List UInt8 := if knL v.l then (if v.s && neg1 v.l then 45 :: decL (2 ^ v.l.length - num v.l) else decL (num v.l)) else [grp v.l]
where neg1 (l : List Int) : Bool := nth l (l.length - 1) == 1
end Go.Proofs.YtgojnpblhfbdpaaGreatDoor

namespace Go.Proofs.YtgojnpblhfbdpaaGreatDoor
open Go Go.RowKit

/-- Bits 0, 1, x, z. -/
def bits4 (l : List Int) : Prop := ∀ i, i < l.length → 0 ≤ nth l i ∧ nth l i ≤ 3
/-- The vector of the first w bits is what the digits denote in a smaller width. -/
theorem lit_dig_w {l : List Int} {b w : Nat} (hb0 : 0 < b) (hb : b ≤ 4) (h0 : bits4 l) (hup : ∀ c ∈ digL b l, c ≠ 88 ∧ c ≠ 90) (hw : w ≤ l.length) : litL b (digL b l) w = tab w (nth l) := by
  have h := lit_dig hb0 hb h0 hup
  have hm : l.length ≤ (digL b l).length * b := by
    rw [digL_len]
    have h1 := Nat.div_add_mod (l.length + b - 1) b
    have h2 := Nat.mod_lt (l.length + b - 1) hb0
    rw [Nat.mul_comm] at h1
    omega
  unfold litL at h ⊢
  refine tab_congr fun i hi => ?_
  have := congrArg (fun l => nth l i) h
  rw [nth_tab _ (by omega)] at this
  exact this
theorem mem_dig {b : Nat} {l : List Int} {c : UInt8} (h : c ∈ digL b l) : ∃ j, j * b < l.length + b ∧ c = grp ((l.drop (j * b)).take b) := by
  unfold digL grps at h
  rw [List.mem_reverse, List.mem_map] at h
  obtain ⟨g, hg, rfl⟩ := h
  obtain ⟨j, hj, rfl⟩ := List.mem_map.1 hg
  refine ⟨j, ?_, rfl⟩
  have h1 := List.mem_range.1 hj
  by_cases hb : b = 0
  · subst hb; simp at h1
  · have h2 := (Nat.lt_div_iff_mul_lt (by omega)).1 h1
    have : j * b = b * j := Nat.mul_comm _ _
    omega
/-- A group's character: a letter for unknown bits, or a digit. -/
theorem grp_cases (g : List Int) : grp g = 120 ∨ grp g = 122 ∨ grp g = 88 ∨ grp g = 90 ∨ (grp g = dgc (num g) ∧ ∀ x ∈ g, x ≠ 2 ∧ x ≠ 3) := by
  unfold grp
  by_cases c1 : g.all (· == 2) = true
  · exact .inl (if_pos c1)
  · rw [if_neg c1]
    by_cases c2 : g.all (· == 3) = true
    · exact .inr (.inl (if_pos c2))
    · rw [if_neg c2]
      by_cases c3 : g.any (· == 2) = true
      · exact .inr (.inr (.inl (if_pos c3)))
      · rw [if_neg c3]
        by_cases c4 : g.any (· == 3) = true
        · exact .inr (.inr (.inr (.inl (if_pos c4))))
        · rw [if_neg c4]
          refine .inr (.inr (.inr (.inr ⟨rfl, fun x hx => ⟨fun e => ?_, fun e => ?_⟩⟩)))
          · exact c3 (List.any_eq_true.2 ⟨x, hx, by simpa using e⟩)
          · exact c4 (List.any_eq_true.2 ⟨x, hx, by simpa using e⟩)
/-- Characters of digits in lower case. -/
def digC (c : UInt8) : Prop := lowC c = c ∧ c ≠ 95 ∧ wordC true c = true ∧ (unkC c = true ∨ vlC c < 16)
theorem digC_dgc : ∀ n, n < 16 → lowC (dgc n) = dgc n ∧ dgc n ≠ 95 ∧ wordC true (dgc n) = true := by decide
theorem dgc_digC {n : Nat} (h : n < 16) : digC (dgc n) := ⟨(digC_dgc n h).1, (digC_dgc n h).2.1, (digC_dgc n h).2.2, .inr (by rw [vl_dgc n h]; exact h)⟩
theorem num_16 {g : List Int} (h : g.length ≤ 4) : num g < 16 := Nat.lt_of_lt_of_le (num_lt g) (Nat.le_trans (Nat.pow_le_pow_right (by decide) h) (by decide))
theorem clean_id {d : List UInt8} (h : ∀ c ∈ d, lowC c = c ∧ c ≠ 95) : cleanL d = d := by
  unfold cleanL
  rw [List.filter_eq_self.2 fun c hc => by simpa using (h c hc).2]
  have : d.map lowC = d.map id := List.map_congr_left fun c hc => (h c hc).1
  rw [this, List.map_id]
/-- Digits in the bases 2, 8 and 16 without an upper-case letter. -/
theorem digL_good {l : List Int} {b : Nat} (hb0 : 0 < b) (hb : b ≤ 4) (hl : 0 < l.length) (hup : ∀ c ∈ digL b l, c ≠ 88 ∧ c ≠ 90) :
    (∀ c ∈ digL b l, lowC c = c ∧ c ≠ 95) ∧ (∀ c ∈ digL b l, wordC true c = true) ∧ digOk b (digL b l) = true := by
  have key : ∀ c ∈ digL b l, lowC c = c ∧ c ≠ 95 ∧ wordC true c = true ∧ (unkC c || decide (vlC c < limB b)) = true := fun c hc => by
    obtain ⟨j, _, e⟩ := mem_dig hc
    have hu := hup c hc
    have hg : ((l.drop (j * b)).take b).length ≤ b := by rw [List.length_take]; omega
    rcases grp_cases ((l.drop (j * b)).take b) with h | h | h | h | ⟨h, _⟩
    · rw [e, h]; exact ⟨by decide, by decide, by decide, rfl⟩
    · rw [e, h]; exact ⟨by decide, by decide, by decide, rfl⟩
    · exact absurd (e.trans h) hu.1
    · exact absurd (e.trans h) hu.2
    · have hn : num ((l.drop (j * b)).take b) < 16 := num_16 (by omega)
      have hb2 : num ((l.drop (j * b)).take b) < 2 ^ b := Nat.lt_of_lt_of_le (num_lt _) (Nat.pow_le_pow_right (by decide) hg)
      obtain ⟨a1, a2, a3⟩ := digC_dgc _ hn
      rw [e, h]
      refine ⟨a1, a2, a3, ?_⟩
      rw [vl_dgc _ hn]
      unfold limB
      rw [if_neg (by omega), decide_eq_true hb2, Bool.or_true]
  have hc := clean_id (d := digL b l) fun c hc => ⟨(key c hc).1, (key c hc).2.1⟩
  refine ⟨fun c hc => ⟨(key c hc).1, (key c hc).2.1⟩, fun c hc => (key c hc).2.2.1, ?_⟩
  unfold digOk
  rw [hc]
  have hlen : 0 < (digL b l).length := by
    rw [digL_len]
    exact Nat.div_pos (by omega) hb0
  have h1 : (digL b l).isEmpty = false := by
    cases h : digL b l with
    | nil => rw [h] at hlen; simp at hlen
    | cons _ _ => rfl
  have h2 : ((digL b l).head? != some 95) = true := by
    cases h : digL b l with
    | nil => rfl
    | cons c t =>
      have := (key c (by rw [h]; simp)).2.1
      simpa using this
  have h3 : (digL b l).all (fun c => unkC c || decide (vlC c < limB b)) = true := List.all_eq_true.2 fun c hc => (key c hc).2.2.2
  rw [h1, h2, h3, decide_eq_true hb0]
  rfl
theorem dec_digC {c : UInt8} (h : decC c = true) : lowC c = c ∧ c ≠ 95 ∧ wordC true c = true ∧ vlC c < 10 := by
  have h1 : 48 ≤ c.toNat ∧ c.toNat ≤ 57 := by unfold decC at h; simpa using h
  refine ⟨?_, ?_, dec_word h, ?_⟩
  · unfold lowC
    rw [if_neg (by omega), if_neg (fun e => by subst e; exact absurd h1 (by decide))]
  · rintro rfl; exact absurd h1 (by decide)
  · unfold vlC
    rw [h]
    simp only [if_true]
    omega
theorem dec_noX {c : UInt8} (h : decC c = true) : unkC c = false := by
  have h1 : 48 ≤ c.toNat ∧ c.toNat ≤ 57 := by unfold decC at h; simpa using h
  unfold unkC
  have e1 : (c == 120) = false := beq_eq_false_iff_ne.2 fun e => by subst e; exact absurd h1 (by decide)
  have e2 : (c == 122) = false := beq_eq_false_iff_ne.2 fun e => by subst e; exact absurd h1 (by decide)
  rw [e1, e2]
  rfl
/-- Decimal digits. -/
theorem decL_good (n : Nat) : (∀ c ∈ decL n, lowC c = c ∧ c ≠ 95) ∧ (∀ c ∈ decL n, wordC true c = true) ∧ digOk 0 (decL n) = true := by
  have hd := dec_all n
  have hc := clean_id (d := decL n) fun c hc => ⟨(dec_digC (hd c hc)).1, (dec_digC (hd c hc)).2.1⟩
  refine ⟨fun c hc => ⟨(dec_digC (hd c hc)).1, (dec_digC (hd c hc)).2.1⟩, fun c hc => (dec_digC (hd c hc)).2.2.1, ?_⟩
  unfold digOk
  rw [hc, decL_ne]
  have h2 : ((decL n).head? != some 95) = true := by
    cases h : decL n with
    | nil => rfl
    | cons c t =>
      have := (dec_digC (hd c (by rw [h]; simp))).2.1
      simpa using this
  have h3 : (decL n).all (fun c => unkC c || decide (vlC c < limB 0)) = true := List.all_eq_true.2 fun c hc => by
    have := (dec_digC (hd c hc)).2.2.2
    have e : limB 0 = 10 := rfl
    rw [e, decide_eq_true this, Bool.or_true]
  have h4 : (decL n).all (fun c => !unkC c) = true := List.all_eq_true.2 fun c hc => by rw [dec_noX (hd c hc)]; rfl
  rw [h2, h3, h4]
  rfl
theorem litV_dec (n w : Nat) : litV 0 (decL n) w = frN w n := by
  unfold litV
  have hh : ∀ x, (decL n).head? = some x → decC x = true := fun x hx => dec_all n x (List.mem_of_mem_head? hx)
  rw [if_pos rfl, if_neg (fun e => absurd (hh _ e) (by decide)), if_neg (fun e => absurd (hh _ e) (by decide)), val_dec]
theorem litV_x (w : Nat) : litV 0 [120] w = tab w (fun _ => 2) := rfl
theorem litV_z (w : Nat) : litV 0 [122] w = tab w (fun _ => 3) := rfl
/-- Underscores after a digit change nothing. -/
theorem clean_us (a b : List UInt8) (m : Nat) : cleanL (a ++ (List.replicate m 95 ++ b)) = cleanL (a ++ b) := by
  unfold cleanL
  rw [List.filter_append, List.filter_append, List.filter_append]
  have : (List.replicate m (95 : UInt8)).filter (· != 95) = [] := List.filter_eq_nil_iff.2 fun c hc => by rw [(List.mem_replicate.1 hc).2]; decide
  rw [this, List.nil_append]
theorem digOk_us {bits : Nat} {a b : List UInt8} (m : Nat) (ha : a ≠ []) (h : digOk bits (a ++ b) = true) : digOk bits (a ++ (List.replicate m 95 ++ b)) = true := by
  unfold digOk at h ⊢
  rw [clean_us]
  cases a with
  | nil => exact absurd rfl ha
  | cons c t => exact h
theorem word_us {a b : List UInt8} (m : Nat) (h : ∀ c ∈ a ++ b, wordC true c = true) : ∀ c ∈ a ++ (List.replicate m 95 ++ b), wordC true c = true := fun c hc => by
  rcases List.mem_append.1 hc with hc | hc
  · exact h c (List.mem_append_left _ hc)
  · rcases List.mem_append.1 hc with hc | hc
    · rw [(List.mem_replicate.1 hc).2]; decide
    · exact h c (List.mem_append_right _ hc)
/-- Any literal's bits are valid. -/
theorem litV_ok {bits : Nat} {d : List UInt8} {w : Nat} (h1 : 1 ≤ w) (h2 : w ≤ 128) : okB (litV bits d w) = true ∧ (litV bits d w).length = w ∧ bits4 (litV bits d w) := by
  have hlen : (litV bits d w).length = w := by
    unfold litV litL
    split
    · split
      · exact tab_len _ _
      · split
        · exact tab_len _ _
        · exact frN_len _ _
    · exact tab_len _ _
  have hf : ∀ i, bits4 (dbits bits i) := fun c k hk => by
    rw [dbits_len] at hk
    unfold dbits
    rw [nth_tab _ hk]
    split
    · decide
    · split
      · decide
      · cases (vlC c).testBit k <;> decide
  have hb : bits4 (litV bits d w) := fun i hi => by
    rw [hlen] at hi
    unfold litV litL
    split
    · split
      · rw [nth_tab _ hi]; decide
      · split
        · rw [nth_tab _ hi]; decide
        · unfold frN; rw [nth_tab _ hi]; cases (valL d).testBit i <;> decide
    · rename_i h0
      rw [nth_tab _ hi]
      split
      · rename_i hd
        rw [flat_at (by omega) (dbits bits) (dbits_len bits) _ _ (by rw [List.length_reverse]; exact hd)]
        exact hf _ _ (by rw [dbits_len]; exact Nat.mod_lt _ (by omega))
      · split
        · decide
        · split <;> decide
  exact ⟨ok_mk (by omega) (by omega) fun i hi => (hb i hi).2, hlen, hb⟩
end Go.Proofs.YtgojnpblhfbdpaaGreatDoor

namespace Go.Proofs.YtgojnpblhfbdpaaGreatDoor
open Go Go.RowKit

/-- The digits of a vector in a base. -/
def digB (bits : Nat) (v : V) : List UInt8 := if bits = 0 then digD v else digL bits v.l
/-- No upper-case letter, no minus sign. -/
def lowL (d : List UInt8) : Prop := ∀ c ∈ d, c ≠ 88 ∧ c ≠ 90 ∧ c ≠ 45
theorem grp_unk {g : List Int} (h : knL g = false) : (grp g = 120 ∧ ∀ i, i < g.length → nth g i = 2) ∨ (grp g = 122 ∧ ∀ i, i < g.length → nth g i = 3) ∨ grp g = 88 ∨ (grp g = 90 ∨ ∃ i, i < g.length ∧ ¬ (0 ≤ nth g i ∧ nth g i ≤ 3)) := by
  have hget : ∀ {p : Int → Bool}, g.all p = true → ∀ i, i < g.length → p (nth g i) = true := fun {p} h i hi => by
    have : nth g i = g[i] := by simp [nth, List.getD_eq_getElem?_getD, hi]
    rw [this]
    exact List.all_eq_true.1 h _ (List.getElem_mem hi)
  unfold grp
  by_cases c1 : g.all (· == 2) = true
  · exact .inl ⟨if_pos c1, fun i hi => by simpa using hget c1 i hi⟩
  · rw [if_neg c1]
    by_cases c2 : g.all (· == 3) = true
    · exact .inr (.inl ⟨if_pos c2, fun i hi => by simpa using hget c2 i hi⟩)
    · rw [if_neg c2]
      by_cases c3 : g.any (· == 2) = true
      · exact .inr (.inr (.inl (if_pos c3)))
      · rw [if_neg c3]
        by_cases c4 : g.any (· == 3) = true
        · exact .inr (.inr (.inr (.inl (if_pos c4))))
        · refine .inr (.inr (.inr (.inr ?_)))
          apply Classical.byContradiction
          intro hne
          have : knL g = true := knL_iff.2 fun i hi => by
            have e : nth g i = g[i] := by simp [nth, List.getD_eq_getElem?_getD, hi]
            have h2 : ¬ nth g i = 2 := fun q => c3 (List.any_eq_true.2 ⟨g[i], List.getElem_mem hi, by rw [← e, q]; rfl⟩)
            have h3 : ¬ nth g i = 3 := fun q => c4 (List.any_eq_true.2 ⟨g[i], List.getElem_mem hi, by rw [← e, q]; rfl⟩)
            have hb : 0 ≤ nth g i ∧ nth g i ≤ 3 := Classical.byContradiction fun q => hne ⟨i, hi, q⟩
            omega
          rw [this] at h
          cases h
/-- A vector's digits: characters, validity, and what they denote in the vector's width. -/
theorem dig_good {v : V} (hok : okB v.l = true) (h0 : bits4 v.l) {bits : Nat} (hb : bits ≤ 4) (hup : lowL (digB bits v)) :
    (∀ c ∈ digB bits v, lowC c = c ∧ c ≠ 95) ∧ (∀ c ∈ digB bits v, wordC true c = true) ∧ digOk bits (digB bits v) = true ∧ (digB bits v).length ≤ 256 ∧
      ∀ w, w ≤ v.l.length → (bits ≠ 0 ∨ knL v.l = true ∨ w = v.l.length) → litV bits (digB bits v) w = tab w (nth v.l) := by
  have hl := ok_len hok
  unfold digB at hup ⊢
  by_cases c : bits = 0
  · subst c
    rw [if_pos rfl] at hup ⊢
    unfold digD at hup ⊢
    cases hk : knL v.l
    · rw [hk] at hup
      simp only [Bool.false_eq_true, if_false] at hup ⊢
      have hu := hup (grp v.l) (by simp)
      rcases grp_unk hk with ⟨e, hx⟩ | ⟨e, hx⟩ | e | e | ⟨i, hi, e⟩
      · rw [e]
        refine ⟨by decide, by decide, by decide, by decide, fun w hw _ => ?_⟩
        rw [litV_x]
        exact tab_congr fun i hi => (hx i (by omega)).symm
      · rw [e]
        refine ⟨by decide, by decide, by decide, by decide, fun w hw _ => ?_⟩
        rw [litV_z]
        exact tab_congr fun i hi => (hx i (by omega)).symm
      · exact absurd e hu.1
      · exact absurd e hu.2.1
      · exact absurd (h0 i hi) e
    · rw [hk] at hup
      simp only [if_true] at hup ⊢
      by_cases hm : (v.s && digD.neg1 v.l) = true
      · rw [if_pos hm] at hup
        exact absurd rfl (hup 45 (by simp)).2.2
      · rw [if_neg hm]
        obtain ⟨g1, g2, g3⟩ := decL_good (num v.l)
        have hn : num v.l < 10 ^ (38 + 1) := Nat.lt_of_lt_of_le (num_lt v.l) (Nat.le_trans (Nat.pow_le_pow_right (by decide) hl.2) (by decide))
        have := dec_len_le 38 _ hn
        refine ⟨g1, g2, g3, by omega, fun w hw _ => ?_⟩
        rw [litV_dec]
        unfold frN
        refine tab_congr fun i hi => ?_
        rw [num_bit]
        rcases knL_iff.1 hk i (by omega) with e | e <;> rw [e] <;> rfl
  · rw [if_neg c] at hup ⊢
    have hup' : ∀ x ∈ digL bits v.l, x ≠ 88 ∧ x ≠ 90 := fun x hx => ⟨(hup x hx).1, (hup x hx).2.1⟩
    obtain ⟨g1, g2, g3⟩ := digL_good (by omega) hb hl.1 hup'
    refine ⟨g1, g2, g3, ?_, fun w hw _ => ?_⟩
    · rw [digL_len]
      have : (v.l.length + bits - 1) / bits ≤ v.l.length := by
        have hbp : 0 < bits := by omega
        rw [Nat.div_le_iff_le_mul_add_pred hbp]
        have : v.l.length ≤ bits * v.l.length := Nat.le_mul_of_pos_left _ hbp
        omega
      omega
    · unfold litV
      rw [if_neg c]
      exact lit_dig_w (by omega) hb h0 hup' hw
theorem bits_of {bl : UInt8} {bits : Nat} (h : bszC bl = some bits) : bits ≤ 4 := by
  rcases base_of h with rfl | rfl | rfl | rfl <;> (simp only [bszC] at h; simp at h; omega)
/-- Parsing the text of a vector returns the vector and the length of the text, whatever follows but a letter, digit, underscore or question mark (P5.4, P5.7). -/
theorem prs_fmt {v : V} (hok : okB v.l = true) (h0 : bits4 v.l) {bl : UInt8} {bits : Nat} (hb : bszC bl = some bits) (hup : lowL (digB bits v)) {rest : List UInt8} (hr : ∀ c, rest.head? = some c → wordC true c = false) :
    prsT (litT v.l.length v.s bl (digB bits v) ++ rest) = .ok (v, (litT v.l.length v.s bl (digB bits v)).length) := by
  have hl := ok_len hok
  obtain ⟨g1, g2, g3, g4, g5⟩ := dig_good hok h0 (bits_of hb) hup
  have hc := clean_id g1
  have := prs_lit (n := v.l.length) hl.1 hl.2 v.s hb g2 g3 (by rw [hc]; exact g4) hr
  rw [hc, g5 _ (Nat.le_refl _) (.inr (.inr rfl)), tab_nth] at this
  exact this
/-- .. with underscores behind a digit (P5.6). -/
theorem prs_us {v : V} (hok : okB v.l = true) (h0 : bits4 v.l) {bl : UInt8} {bits : Nat} (hb : bszC bl = some bits) {a b : List UInt8} (hd : digB bits v = a ++ b) (ha : a ≠ []) (m : Nat) (hup : lowL (digB bits v)) :
    prsT (litT v.l.length v.s bl (a ++ (List.replicate m 95 ++ b))) = .ok (v, (litT v.l.length v.s bl (a ++ (List.replicate m 95 ++ b))).length) := by
  have hl := ok_len hok
  obtain ⟨g1, g2, g3, g4, g5⟩ := dig_good hok h0 (bits_of hb) hup
  have hc := clean_id g1
  rw [hd] at g2 g3 hc
  have := prs_lit (n := v.l.length) hl.1 hl.2 v.s hb (word_us m g2) (digOk_us m ha g3) (by rw [clean_us, hc, ← hd]; exact g4) (rest := []) (fun c h => by simp at h)
  rw [clean_us, hc, ← hd, g5 _ (Nat.le_refl _) (.inr (.inr rfl)), tab_nth, List.append_nil] at this
  exact this
/-- A smaller size denotes the same bits, shortened (P5.8). -/
theorem prs_size {v : V} (hok : okB v.l = true) (h0 : bits4 v.l) (hk : knL v.l = true) {bl : UInt8} {bits : Nat} (hb : bszC bl = some bits) (hup : lowL (digB bits v)) {w : Nat} (h1 : 1 ≤ w) (h2 : w ≤ v.l.length) :
    prsT (litT w false bl (digB bits v)) = .ok (⟨tab w (nth v.l), false⟩, (litT w false bl (digB bits v)).length) := by
  have hl := ok_len hok
  obtain ⟨g1, g2, g3, g4, g5⟩ := dig_good hok h0 (bits_of hb) hup
  have hc := clean_id g1
  have := prs_lit (n := w) h1 (by omega) false hb g2 g3 (by rw [hc]; exact g4) (rest := []) (fun c h => by simp at h)
  rw [hc, g5 w h2 (.inr (.inl hk)), List.append_nil] at this
  exact this
/-- In base 2 a vector's digits have no upper-case letter. -/
theorem low_2 (v : V) (h0 : bits4 v.l) : lowL (digB 1 v) := fun c hc => by
  unfold digB at hc
  rw [if_neg (by decide)] at hc
  obtain ⟨j, hj, rfl⟩ := mem_dig hc
  have hlen : ((v.l.drop (j * 1)).take 1).length ≤ 1 := by rw [List.length_take]; omega
  generalize hg : (v.l.drop (j * 1)).take 1 = g at *
  match g, hlen with
  | [], _ => decide
  | [x], _ => 
    have hx : x ∈ v.l := List.mem_of_mem_drop (List.mem_of_mem_take (by rw [hg]; simp))
    obtain ⟨i, hi, e⟩ := List.getElem_of_mem hx
    have := h0 i hi
    have e2 : nth v.l i = v.l[i] := by simp [nth, List.getD_eq_getElem?_getD, hi]
    rw [e2, e] at this
    rcases (show x = 0 ∨ x = 1 ∨ x = 2 ∨ x = 3 by omega) with rfl | rfl | rfl | rfl <;> decide
  | _ :: _ :: _, h => simp at h
end Go.Proofs.YtgojnpblhfbdpaaGreatDoor

namespace Go.Proofs.YtgojnpblhfbdpaaGreatDoor
open Go Go.RowKit

/-- Upper-case letters and the minus sign. -/
def upC (c : UInt8) : Bool := c == 45 || (decide (65 ≤ c.toNat) && decide (c.toNat ≤ 90))
theorem dgc_up : ∀ n, n < 16 → upC (dgc n) = false := by decide
theorem dec_up {c : UInt8} (h : decC c = true) : upC c = false := by
  have h1 : 48 ≤ c.toNat ∧ c.toNat ≤ 57 := by unfold decC at h; simpa using h
  unfold upC
  have e1 : (c == 45) = false := beq_eq_false_iff_ne.2 fun e => by subst e; exact absurd h1 (by decide)
  rw [e1, decide_eq_false (show ¬ 65 ≤ c.toNat ∨ False by omega |>.elim id False.elim)]
  rfl
theorem dgc_noX : ∀ n, n < 16 → dgc n ≠ 88 ∧ dgc n ≠ 90 ∧ dgc n ≠ 45 := by decide
theorem dec_ne3 {c : UInt8} (h : decC c = true) : c ≠ 88 ∧ c ≠ 90 ∧ c ≠ 45 := by
  refine ⟨?_, ?_, ?_⟩ <;> (rintro rfl; exact absurd h (by decide))
/-- Among a vector's digits the upper-case letters are X and Z. -/
theorem dig_up {v : V} (h0 : bits4 v.l) {bits : Nat} (hb : bits ≤ 4) : ∀ c ∈ digB bits v, upC c = true ↔ ¬ (c ≠ 88 ∧ c ≠ 90 ∧ c ≠ 45) := by
  have s1 : ∀ c : UInt8, c = 120 ∨ c = 122 ∨ c = 88 ∨ c = 90 ∨ c = 45 → (upC c = true ↔ ¬ (c ≠ 88 ∧ c ≠ 90 ∧ c ≠ 45)) := by
    rintro c (rfl | rfl | rfl | rfl | rfl) <;> decide
  have s2 : ∀ c : UInt8, decC c = true → (upC c = true ↔ ¬ (c ≠ 88 ∧ c ≠ 90 ∧ c ≠ 45)) := fun c h => by
    rw [dec_up h]
    exact ⟨(fun z => by cases z), fun q => absurd (dec_ne3 h) q⟩
  intro c hc
  unfold digB at hc
  split at hc
  · unfold digD at hc
    cases hk : knL v.l
    · rw [hk] at hc
      simp only [Bool.false_eq_true, if_false, List.mem_singleton] at hc
      subst hc
      rcases grp_unk hk with ⟨e, _⟩ | ⟨e, _⟩ | e | e | ⟨i, hi, e⟩
      · exact s1 _ (.inl e)
      · exact s1 _ (.inr (.inl e))
      · exact s1 _ (.inr (.inr (.inl e)))
      · exact s1 _ (.inr (.inr (.inr (.inl e))))
      · exact absurd (h0 i hi) e
    · rw [hk] at hc
      simp only [if_true] at hc
      split at hc
      · rcases List.mem_cons.1 hc with rfl | hc
        · exact s1 _ (.inr (.inr (.inr (.inr rfl))))
        · exact s2 c (dec_all _ c hc)
      · exact s2 c (dec_all _ c hc)
  · obtain ⟨j, _, rfl⟩ := mem_dig hc
    rcases grp_cases ((v.l.drop (j * bits)).take bits) with h | h | h | h | ⟨h, _⟩
    · exact s1 _ (.inl h)
    · exact s1 _ (.inr (.inl h))
    · exact s1 _ (.inr (.inr (.inl h)))
    · exact s1 _ (.inr (.inr (.inr (.inl h))))
    · have hn : num ((v.l.drop (j * bits)).take bits) < 16 := num_16 (by rw [List.length_take]; omega)
      rw [h, dgc_up _ hn]
      exact ⟨(fun z => by cases z), fun q => absurd (dgc_noX _ hn) q⟩
/-- The digit at a place. -/
theorem dig_at {b : Nat} {l : List Int} {i : Nat} (h : i < (digL b l).length) : (digL b l)[i]? = some (grp ((l.drop (((digL b l).length - 1 - i) * b)).take b)) := by
  rw [digL_len] at h ⊢
  unfold digL grps
  rw [List.getElem?_reverse (by simpa using h), List.getElem?_map, List.length_map, List.getElem?_map, List.length_map, List.length_range, List.getElem?_range (by omega)]
  rfl
/-- A group's character is a letter for unknown bits exactly if one of its bits is x or z. -/
theorem grp_known {g : List Int} (h0 : bits4 g) (hl : g.length ≤ 4) (hp : 0 < g.length) : (grp g = 120 ∨ grp g = 122 ∨ grp g = 88 ∨ grp g = 90) ↔ knL g = false := by
  constructor
  · intro h
    cases hk : knL g
    · rfl
    · exfalso
      have hnum := num_16 hl
      rcases grp_cases g with e | e | e | e | ⟨e, _⟩
      all_goals first
        | (rw [e] at h; have := dgc_low _ hnum; rcases h with h | h | h | h
           · exact this.2.2.2.1 h
           · exact this.2.2.2.2.1 h
           · exact this.1 h
           · exact this.2.1 h)
        | skip
      all_goals
        unfold grp at e
        have hne : ∀ x ∈ g, x = 0 ∨ x = 1 := fun x hx => by
          obtain ⟨i, hi, ei⟩ := List.getElem_of_mem hx
          have e2 : nth g i = g[i] := by simp [nth, List.getD_eq_getElem?_getD, hi]
          have := knL_iff.1 hk i hi
          rw [e2, ei] at this
          exact this
        have a1 : ¬ (g.all (· == 2) = true) := fun q => by
          have := List.all_eq_true.1 q _ (List.getElem_mem hp)
          rcases hne _ (List.getElem_mem hp) with z | z <;> rw [z] at this <;> cases this
        have a2 : ¬ (g.all (· == 3) = true) := fun q => by
          have := List.all_eq_true.1 q _ (List.getElem_mem hp)
          rcases hne _ (List.getElem_mem hp) with z | z <;> rw [z] at this <;> cases this
        have a3 : ¬ (g.any (· == 2) = true) := fun q => by
          obtain ⟨x, hx, z⟩ := List.any_eq_true.1 q
          rcases hne x hx with y | y <;> rw [y] at z <;> cases z
        have a4 : ¬ (g.any (· == 3) = true) := fun q => by
          obtain ⟨x, hx, z⟩ := List.any_eq_true.1 q
          rcases hne x hx with y | y <;> rw [y] at z <;> cases z
        rw [if_neg a1, if_neg a2, if_neg a3, if_neg a4] at e
        have := dgc_low _ hnum
        first
          | exact this.2.2.2.1 e
          | exact this.2.2.2.2.1 e
          | exact this.1 e
          | exact this.2.1 e
  · intro hk
    rcases grp_unk hk with ⟨e, _⟩ | ⟨e, _⟩ | e | e | ⟨i, hi, e⟩
    · exact .inl e
    · exact .inr (.inl e)
    · exact .inr (.inr (.inl e))
    · exact .inr (.inr (.inr e))
    · exact absurd (h0 i hi) e

/-! Strings. -/
/-- The bytes of a string. -/
def byt (s : ByteArray) : List UInt8 := s.data.toList
/-- The string of some bytes. -/
abbrev str (l : List UInt8) : ByteArray := ⟨l.toArray⟩
theorem byt_str (l : List UInt8) : byt (str l) = l := by simp [byt]
theorem str_byt (s : ByteArray) : str (byt s) = s := by simp [byt, str]
theorem byt_len (s : ByteArray) : (byt s).length = s.size := Array.length_toList
theorem byt_inj {s t : ByteArray} (h : byt s = byt t) : s = t := (str_byt s).symm.trans ((congrArg str h).trans (str_byt t))
theorem byt_app (s t : ByteArray) : byt (s ++ t) = byt s ++ byt t := by
  show (s ++ t).data.toList = s.data.toList ++ t.data.toList
  rw [ByteArray.data_append, Array.toList_append]
theorem str_app (l m : List UInt8) : str l ++ str m = str (l ++ m) := byt_inj (by rw [byt_app, byt_str, byt_str, byt_str])
theorem byt_ext (s : ByteArray) (a b : Nat) : byt (s.extract a b) = ((byt s).drop a).take (b - a) := by
  simp [byt]
theorem byt_at {s : ByteArray} {i : Nat} (h : i < s.size) : (byt s)[i]? = some s[i] := by
  have : i < (byt s).length := by rw [byt_len]; exact h
  rw [List.getElem?_eq_getElem this]
  rfl
end Go.Proofs.YtgojnpblhfbdpaaGreatDoor

namespace Go.Proofs.YtgojnpblhfbdpaaGreatDoor
open Go Go.RowKit

theorem frN_ok {w : Nat} (x : Nat) (h1 : 1 ≤ w) (h2 : w ≤ 128) : okB (frN w x) = true ∧ bits4 (frN w x) := by
  have hb : bits4 (frN w x) := fun i hi => by
    rw [frN_len] at hi
    unfold frN
    rw [nth_tab _ hi]
    cases x.testBit i <;> decide
  exact ⟨ok_mk (by rw [frN_len]; omega) (by rw [frN_len]; omega) fun i hi => (hb i hi).2, hb⟩
theorem numOk_len {w : List UInt8} (h : numOk w = true) : 1 ≤ w.length := by
  cases w with
  | nil => exact absurd h (by decide)
  | cons c t => simp
theorem basedT_ok {z : List UInt8} {w : Nat} {l : List Int} (h1 : 1 ≤ w) (h2 : w ≤ 128) (h : basedT z w = .ok l) : okB l = true ∧ bits4 l ∧ 1 ≤ z.length := by
  unfold basedT at h
  cases z with
  | nil => simp at h
  | cons c ds =>
    simp only at h
    cases hb : bszC (lowC c) with
    | none => rw [hb] at h; simp at h
    | some bits =>
      rw [hb] at h
      simp only at h
      split at h
      · split at h
        · cases h
        · cases h
          obtain ⟨a, _, b⟩ := litV_ok (bits := bits) (d := cleanL ds) h1 h2
          exact ⟨a, b, by simp⟩
      · cases h
/-- A parsed literal is valid and lies within the text. -/
theorem prsT_ok {t : List UInt8} {v : V} {n : Nat} (h : prsT t = .ok (v, n)) : okB v.l = true ∧ bits4 v.l ∧ 1 ≤ n ∧ n ≤ t.length := by
  have hw : (t.takeWhile (wordC false)).length ≤ t.length := (List.takeWhile_sublist _).length_le
  unfold prsT at h
  simp only at h
  split at h
  · cases h
  · rename_i g0
    split at h
    · rename_i g1
      split at h
      · cases h
      · cases h
        obtain ⟨a, b⟩ := frN_ok (w := 32) (valU (t.takeWhile (wordC false))) (by decide) (by decide)
        refine ⟨a, b, ?_, hw⟩
        have : numOk (t.takeWhile (wordC false)) = true := by
          cases hn : numOk (t.takeWhile (wordC false))
          · rw [hn] at g0
            have q : ((t.drop (t.takeWhile (wordC false)).length).head? == some 39) = false := by simpa using g1
            rw [q] at g0
            simp at g0
          · rfl
        exact numOk_len this
    · rename_i g1
      split at h
      · cases h
      · rename_i g2
        split at h
        · cases h
        · rename_i g3
          split at h
          · cases h
          · rename_i l hl
            cases h
            have hwd : 1 ≤ (if (t.takeWhile (wordC false)).isEmpty then 32 else valU (t.takeWhile (wordC false))) ∧ (if (t.takeWhile (wordC false)).isEmpty then 32 else valU (t.takeWhile (wordC false))) ≤ 128 := by
              cases he : (t.takeWhile (wordC false)).isEmpty
              · rw [he] at g2
                simp at g2
                simp only [Bool.false_eq_true, if_false]
                omega
              · simp
            obtain ⟨a, b, c⟩ := basedT_ok hwd.1 hwd.2 hl
            refine ⟨a, b, by omega, ?_⟩
            have hz : ((t.drop (t.takeWhile (wordC false)).length).tail.takeWhile (wordC true)).length ≤ (t.drop (t.takeWhile (wordC false)).length).tail.length := (List.takeWhile_sublist _).length_le
            rw [List.length_tail, List.length_drop] at hz
            have hne : 1 ≤ (t.drop (t.takeWhile (wordC false)).length).length := by
              cases hd : t.drop (t.takeWhile (wordC false)).length with
              | nil => rw [hd] at g1; simp at g1
              | cons _ _ => simp
            rw [List.length_drop] at hne
            omega
/-- A number reckoned with a bound. -/
theorem min_step (v d M : Nat) : min (10 * min v M + d) M = min (10 * v + d) M := by omega
theorem fold_min (M : Nat) (f : UInt8 → Nat) : ∀ (l : List UInt8) (a : Nat), l.foldl (fun a c => min (10 * a + f c) M) (min a M) = min (l.foldl (fun a c => 10 * a + f c) a) M
  | [], _ => rfl
  | c :: l, a => by
    rw [List.foldl_cons, List.foldl_cons, min_step, fold_min M f l]
/-- A number reckoned modulo a power of two. -/
theorem fold_mod (n : Nat) (f : UInt8 → Nat) : ∀ (l : List UInt8) (a : Nat), l.foldl (fun a c => (10 * a + f c) % 2 ^ n) (a % 2 ^ n) = (l.foldl (fun a c => 10 * a + f c) a) % 2 ^ n
  | [], _ => rfl
  | c :: l, a => by
    rw [List.foldl_cons, List.foldl_cons, ← fold_mod n f l]
    congr 1
    rw [Nat.add_mod, Nat.mul_mod, Nat.mod_mod, ← Nat.mul_mod, ← Nat.add_mod]
end Go.Proofs.YtgojnpblhfbdpaaGreatDoor

namespace Go.Proofs.YtgojnpblhfbdpaaGreatDoor
open Go Go.RowKit

def digV (v : V) (base : UInt8) : List UInt8 × Int := if chk v.l = 0 then (match bszC base with
  | none => ([], 11)
  | some bits => (digB bits v, 0)) else ([], chk v.l)
def badL (d : List UInt8) : Bool := d.any fun c => c == 88 || c == 90 || c == 45
def fmtV (v : V) (base : UInt8) : List UInt8 × Int :=
  if (digV v base).2 = 0 then (if badL (digV v base).1 then ([], 8) else (litT v.l.length v.s base (digV v base).1, 0)) else ([], (digV v base).2)
theorem badL_iff (d : List UInt8) : badL d = false ↔ lowL d := by
  unfold badL lowL
  rw [List.any_eq_false]
  constructor
  · intro h c hc
    have := h c hc
    refine ⟨?_, ?_, ?_⟩ <;> (rintro rfl; exact this (by decide))
  · intro h c hc q
    obtain ⟨a, b, e⟩ := h c hc
    simp only [Bool.or_eq_true, beq_iff_eq] at q
    rcases q with (q | q) | q
    · exact a q
    · exact b q
    · exact e q
theorem badL_up {v : V} (h0 : bits4 v.l) {bits : Nat} (hb : bits ≤ 4) : badL (digB bits v) = (digB bits v).any upC := by
  unfold badL
  rw [Bool.eq_iff_iff, List.any_eq_true, List.any_eq_true]
  constructor
  · rintro ⟨c, hc, q⟩
    refine ⟨c, hc, (dig_up h0 hb c hc).2 fun ⟨a, b, e⟩ => ?_⟩
    simp only [Bool.or_eq_true, beq_iff_eq] at q
    rcases q with (q | q) | q
    · exact a q
    · exact b q
    · exact e q
  · rintro ⟨c, hc, q⟩
    refine ⟨c, hc, ?_⟩
    have := (dig_up h0 hb c hc).1 q
    cases hq : (c == 88 || c == 90 || c == 45)
    · exfalso
      apply this
      simp only [Bool.or_eq_false_iff, beq_eq_false_iff_ne] at hq
      exact ⟨hq.1.1, hq.1.2, hq.2⟩
    · rfl
theorem litT_bd {v : V} (hok : okB v.l = true) (h0 : bits4 v.l) {bl : UInt8} {bits : Nat} (hb : bszC bl = some bits) (hup : lowL (digB bits v)) : 0 < (litT v.l.length v.s bl (digB bits v)).length ∧ (litT v.l.length v.s bl (digB bits v)).length ≤ 400 := by
  obtain ⟨_, _, _, g4, _⟩ := dig_good hok h0 (bits_of hb) hup
  have := dec_len_le 38 v.l.length (Nat.lt_of_le_of_lt (ok_len hok).2 (by decide))
  rw [litT_len, List.length_append, List.length_cons]
  have : (if v.s then [115] else [] : List UInt8).length ≤ 1 := by cases v.s <;> decide
  omega
/-- Parse at an offset. -/
theorem prsV_at {pre t : List UInt8} {v : V} {n : Nat} (h : prsT t = .ok (v, n)) (hl : pre.length + t.length ≤ 65536) : prsV (pre ++ t) pre.length = (v, (pre.length : Int) + n, 0) := by
  have hn := (prsT_ok h).2.2
  unfold prsV
  rw [List.length_append, if_neg (by omega), if_neg (by omega), if_neg (by omega), Int.toNat_natCast, List.drop_left, h]
/-- The round trip of a valid vector in a base (P5.4). -/
theorem round_pure {v : V} (hok : okB v.l = true) (hc : chk v.l = 0) (h0 : bits4 v.l) {bl : UInt8} {bits : Nat} (hb : bszC bl = some bits) :
    digV v bl = (digB bits v, 0) ∧
    ((digB bits v).any upC = true → fmtV v bl = ([], 8) ∧ bl ≠ 98) ∧
    ((digB bits v).any upC = false → fmtV v bl = (litT v.l.length v.s bl (digB bits v), 0) ∧ prsV (litT v.l.length v.s bl (digB bits v)) 0 = (v, ((litT v.l.length v.s bl (digB bits v)).length : Int), 0)) := by
  have e1 : digV v bl = (digB bits v, 0) := by unfold digV; rw [if_pos hc, hb]
  have e2 := badL_up h0 (bits_of hb)
  refine ⟨e1, fun h => ⟨?_, ?_⟩, fun h => ?_⟩
  · unfold fmtV
    rw [e1]
    simp only [if_true, e2, h]
  · rintro rfl
    have hb1 : bits = 1 := by simp [bszC] at hb; omega
    subst hb1
    rw [(badL_iff _).2 (low_2 v h0)] at e2
    rw [← e2] at h
    cases h
  · have hlow := (badL_iff _).1 (e2.trans h)
    refine ⟨?_, ?_⟩
    · unfold fmtV
      rw [e1]
      simp only [if_true, e2, h, Bool.false_eq_true, if_false]
    · have := prs_fmt hok h0 hb hlow (rest := []) (fun c h => by simp at h)
      rw [List.append_nil] at this
      have := prsV_at (pre := []) this (by have := (litT_bd hok h0 hb hlow).2; simp; omega)
      simpa using this
end Go.Proofs.YtgojnpblhfbdpaaGreatDoor

namespace Go.Proofs.YtgojnpblhfbdpaaGreatDoor
open Go Go.RowKit

/-! The first rune that is not of a class of ASCII characters. -/
def clsR (p : UInt8 → Bool) (r : Nat) : Bool := decide (r < 128) && p (UInt8.ofNat r)
theorem idx_from (p : UInt8 → Bool) (hp : ∀ c : UInt8, 128 ≤ c.toNat → p c = false) (s : ByteArray) : ∀ (f pos : Nat), pos ≤ s.size → s.size ≤ pos + f →
    Lib.idxFuncFrom (fun r => !clsR p r) true s f pos = if ((byt s).drop pos).all p then -1 else ((pos + (((byt s).drop pos).takeWhile p).length : Nat) : Int)
  | 0, pos, h, h' => by
    have e : pos = s.size := by omega
    rw [List.drop_eq_nil_of_le (by rw [byt_len]; omega)]
    simp [Lib.idxFuncFrom]
  | f + 1, pos, h, h' => by
    by_cases hl : pos < s.size
    · have hd : (byt s).drop pos = s[pos] :: (byt s).drop (pos + 1) := by
        rw [List.drop_eq_getElem_cons (by rw [byt_len]; exact hl)]
        congr 1
      unfold Lib.idxFuncFrom
      rw [if_pos hl, hd]
      by_cases ha : (s[pos]).toNat < 128
      · rw [decode_ascii s pos hl ha]
        have hc : clsR p (s[pos]).toNat = p s[pos] := by simp [clsR, ha]
        cases hq : p s[pos]
        · rw [hc, hq]
          simp [hq]
        · rw [hc, hq]
          simp only [Bool.not_true, Bool.false_eq_true, if_false]
          rw [idx_from p hp s f (pos + 1) (by omega) (by omega), List.all_cons, hq, Bool.true_and, List.takeWhile_cons, if_pos hq, List.length_cons]
          split
          · rfl
          · congr 1; omega
      · have h1 := (decode_high s pos hl (by omega)).1
        have hc : clsR p (Utf8.decode s pos).1 = false := by simp [clsR]; omega
        have hq := hp s[pos] (by omega)
        rw [hc]
        simp [hq]
    · have e : pos = s.size := by omega
      rw [List.drop_eq_nil_of_le (by rw [byt_len]; omega)]
      rw [Lib.idxFuncFrom_end _ _ _ _ _ hl]
      rfl
theorem idx_cls (p : UInt8 → Bool) (hp : ∀ c : UInt8, 128 ≤ c.toNat → p c = false) (s : ByteArray) :
    Lib.idxFunc (fun r => !clsR p r) true s = if (byt s).all p then -1 else (((byt s).takeWhile p).length : Int) := by
  have := idx_from p hp s s.size 0 (Nat.zero_le _) (by omega)
  simpa [Lib.idxFunc] using this
theorem tw_all {p : UInt8 → Bool} : ∀ {l : List UInt8}, l.all p = true → l.takeWhile p = l
  | [], _ => rfl
  | c :: l, h => by
    simp only [List.all_cons, Bool.and_eq_true] at h
    rw [List.takeWhile_cons, if_pos h.1, tw_all h.2]
theorem tw_take {p : UInt8 → Bool} : ∀ (l : List UInt8), l.take (l.takeWhile p).length = l.takeWhile p
  | [] => rfl
  | c :: l => by
    rw [List.takeWhile_cons]
    split
    · rw [List.length_cons, List.take_succ_cons, tw_take l]
    · rfl
theorem tw_len_le {p : UInt8 → Bool} (l : List UInt8) : (l.takeWhile p).length ≤ l.length := (List.takeWhile_sublist p).length_le
theorem tw_short {p : UInt8 → Bool} : ∀ {l : List UInt8}, l.all p = false → (l.takeWhile p).length < l.length
  | [], h => by simp at h
  | c :: l, h => by
    rw [List.takeWhile_cons]
    split
    · rename_i hc
      rw [List.all_cons, hc, Bool.true_and] at h
      have := tw_short h
      simp only [List.length_cons]
      omega
    · simp
theorem word_asc (q : Bool) (c : UInt8) (h : 128 ≤ c.toNat) : wordC q c = false := by
  have h1 : c ≠ 95 := by rintro rfl; revert h; decide
  have h2 : c ≠ 63 := by rintro rfl; revert h; decide
  unfold wordC letC decC
  simp [h1, h2]
  omega

/-! Texts without underscores. -/
theorem index_in (c : UInt8) : ∀ (s : List UInt8), c ∈ s → Lib.index s [c] = ((s.takeWhile (· != c)).length : Int)
  | [], h => by simp at h
  | b :: s, h => by
    unfold Lib.index
    by_cases hb : b = c
    · subst hb
      simp [List.isPrefixOf]
    · have hb' : ¬ c = b := fun e => hb e.symm
      have hm : c ∈ s := by
        rcases List.mem_cons.1 h with e | e
        · exact absurd e hb'
        · exact e
      have e := index_in c s hm
      have : ([c] : List UInt8).isPrefixOf (b :: s) = false := by simp [List.isPrefixOf, hb']
      rw [this, e]
      have h2 : ((((s.takeWhile (· != c)).length : Nat) : Int) == -1) = false := by rw [beq_eq_false_iff_ne]; omega
      have h3 : (b != c) = true := by simpa using hb
      rw [h2, List.takeWhile_cons, if_pos h3]
      simp
theorem filter_take (c : UInt8) : ∀ (s : List UInt8), s.filter (· != c) = s.takeWhile (· != c) ++ (s.drop ((s.takeWhile (· != c)).length + 1)).filter (· != c)
  | [] => rfl
  | b :: s => by
    by_cases hb : b = c
    · subst hb; simp
    · rw [List.filter_cons, if_pos (by simpa using hb), List.takeWhile_cons, if_pos (by simpa using hb), filter_take c s, List.length_cons, List.drop_succ_cons]
      rfl
theorem replaceK_one (c : UInt8) : ∀ (k : Nat) (s : List UInt8), s.count c = k → Lib.replaceK [c] [] k s = s.filter (· != c)
  | 0, s, h => by
    rw [Lib.replaceK]
    symm
    refine List.filter_eq_self.2 fun x hx => ?_
    rw [bne_iff_ne]
    rintro rfl
    exact absurd hx (List.count_eq_zero.1 h)
  | k + 1, s, h => by
    have hm : c ∈ s := List.count_pos_iff.1 (by omega)
    have hi := index_in c s hm
    rw [Lib.replaceK_hit _ _ _ _ _ hi]
    have hc := Lib.count_hit (sub := [c]) (by simp) hi
    rw [Lib.count_one, Lib.count_one, h] at hc
    rw [replaceK_one c k _ (by simp only [List.length_singleton] at hc ⊢; omega), tw_take, filter_take c s]
    simp
/-- strings.ReplaceAll(s, "_", ""). -/
theorem no_us (s : List UInt8) : Lib.replaceAll s [95] [] = s.filter (· != 95) := by
  unfold Lib.replaceAll Lib.replace Lib.replaceNum
  rw [if_neg (by decide), if_pos (.inl (by decide)), Lib.count_one]
  exact replaceK_one 95 _ s rfl
theorem replaceAll_us (s : ByteArray) : str (Lib.replaceAll (byt s) [95] []) = str ((byt s).filter (· != 95)) := by rw [no_us]

/-! Lower case. -/
theorem lower_low (c : UInt8) (h : c ≠ 63) : Lib.lowerB c = lowC c := by
  have e : Lib.isUpperB c = decide (65 ≤ c.toNat ∧ c.toNat ≤ 90) := by
    rw [Bool.eq_iff_iff]
    simp [Lib.isUpperB, UInt8.le_iff_toNat_le]
  unfold Lib.lowerB lowC
  rw [e, if_neg h]
  by_cases hc : 65 ≤ c.toNat ∧ c.toNat ≤ 90
  · rw [if_pos (by simpa using hc), if_pos hc]
  · rw [if_neg (by simpa using hc), if_neg hc]
theorem lower_63 : Lib.lowerB 63 = 63 := by decide

/-! Numbers. -/
theorem valL_cons_acc (l : List UInt8) (a : Nat) : a ≤ l.foldl (fun a c => 10 * a + vlC c) a := by
  induction l generalizing a with
  | nil => exact Nat.le_refl _
  | cons c l ih => exact Nat.le_trans (by omega) (ih (10 * a + vlC c))
theorem dec_bd {c : UInt8} (h : decC c = true) : 48 ≤ c.toNat ∧ c.toNat ≤ 57 ∧ vlC c = c.toNat - 48 := by
  have h' := h
  unfold decC at h'
  simp at h'
  refine ⟨h'.1, h'.2, ?_⟩
  unfold vlC
  rw [if_pos h]
theorem parse_M (M : Nat) (hM : M < 18446744073709551616) : ∀ (l : List UInt8) (a : Nat), (∀ c ∈ l, decC c = true) → a ≤ M →
    Lib.parseUintM M a l = if l.foldl (fun a c => 10 * a + vlC c) a ≤ M then .ok (l.foldl (fun a c => 10 * a + vlC c) a) else .range
  | [], a, _, ha => by simp [Lib.parseUintM, ha]
  | c :: l, a, h, ha => by
    obtain ⟨h1, h2, h3⟩ := dec_bd (h c (by simp))
    have hle := valL_cons_acc l (10 * a + vlC c)
    unfold Lib.parseUintM
    rw [if_pos ⟨h1, h2⟩, List.foldl_cons]
    rw [h3] at hle ⊢
    by_cases c1 : 1844674407370955162 ≤ a
    · rw [if_pos c1, if_neg (by omega)]
    · rw [if_neg c1]
      by_cases c2 : M < a * 10 + (c.toNat - 48)
      · rw [if_pos c2, if_neg (by omega)]
      · rw [if_neg c2, show a * 10 + (c.toNat - 48) = 10 * a + (c.toNat - 48) by omega, parse_M M hM l _ (fun x hx => h x (by simp [hx])) (by omega)]
theorem dec_sign {c : UInt8} (h : decC c = true) : ¬ (c.toNat = 43 ∨ c.toNat = 45) := by have := dec_bd h; omega
/-- strconv.ParseInt(s, 10, 32) at digits. -/
theorem parse32 {l : List UInt8} (h : ∀ c ∈ l, decC c = true) (hne : l ≠ []) : Lib.parseIntB 32 l = if 2147483647 < valL l then .range else .ok (valL l : Int) := by
  cases l with
  | nil => exact absurd rfl hne
  | cons c r =>
    have hd := h c (by simp)
    have hs := dec_sign hd
    have h45 : ¬ c.toNat = 45 := fun e => hs (.inr e)
    unfold Lib.parseIntB
    simp only []
    rw [if_neg hs]
    unfold Lib.parseUintB
    rw [if_neg (by simp), parse_M _ (by decide) _ 0 h (Nat.zero_le _)]
    show (match (if valL (c :: r) ≤ _ then Lib.NumEnd.ok (valL (c :: r)) else Lib.NumEnd.range) with | .syntax => _ | .range => _ | .ok u => _) = _
    generalize valL (c :: r) = v
    by_cases c1 : v ≤ 2 ^ 32 - 1
    · rw [if_pos c1]
      simp only [h45, not_false_eq_true, true_and, false_and, if_false]
      by_cases c2 : 2147483647 < v
      · rw [if_pos c2, if_pos (by omega)]
      · rw [if_neg c2, if_neg (by omega)]
    · rw [if_neg c1, if_pos (by omega)]
theorem parse10 : ∀ (l : List UInt8) (a : Nat), Lib.parseUint10 a l = Lib.parseUintM 18446744073709551615 a l
  | [], a => by simp [Lib.parseUint10, Lib.parseUintM]
  | c :: l, a => by
    unfold Lib.parseUint10 Lib.parseUintM
    simp only [parse10 l]
    split
    · split
      · rfl
      · by_cases c2 : 18446744073709551615 < a * 10 + (c.toNat - 48)
        · rw [if_pos c2, if_pos (by omega)]
        · rw [if_neg c2, if_neg (by omega)]
    · rfl
/-- strconv.Atoi at digits. -/
theorem atoi_dig {l : List UInt8} (h : ∀ c ∈ l, decC c = true) (hne : l ≠ []) : Lib.atoiAll l = if 9223372036854775807 < valL l then .range else .ok (valL l : Int) := by
  cases l with
  | nil => exact absurd rfl hne
  | cons c r =>
    have hd := h c (by simp)
    have hs := dec_sign hd
    have h45 : ¬ c.toNat = 45 := fun e => hs (.inr e)
    unfold Lib.atoiAll
    simp only []
    rw [if_neg hs]
    unfold Lib.parseMag
    rw [if_neg (by simp), parse10, parse_M _ (by decide) _ 0 h (Nat.zero_le _)]
    show (match (if valL (c :: r) ≤ _ then Lib.NumEnd.ok (valL (c :: r)) else Lib.NumEnd.range) with | .syntax => _ | .range => _ | .ok u => _) = _
    generalize valL (c :: r) = v
    by_cases c1 : v ≤ 18446744073709551615
    · rw [if_pos c1]
      simp only [h45, not_false_eq_true, true_and, false_and, if_false]
      by_cases c2 : 9223372036854775807 < v
      · rw [if_pos c2, if_pos (by omega)]
      · rw [if_neg c2, if_neg (by omega)]
    · rw [if_neg c1, if_pos (by omega)]
end Go.Proofs.YtgojnpblhfbdpaaGreatDoor

namespace Go.Proofs.YtgojnpblhfbdpaaGreatDoor
open Go Go.RowKit

theorem itoa_dec (n : Nat) : Lib.decDigits n = decL n := by
  induction n using Nat.strongRecOn with
  | _ n ih =>
    rw [Lib.decDigits]
    by_cases h : n < 10
    · rw [dif_pos h, decL_lt h, dgc, if_pos h]
    · rw [dif_neg h, decL_ge (by omega), ih (n / 10) (by omega), dgc, if_pos (by omega)]
theorem itoa_nat (n : Nat) : Lib.itoa (n : Int) = decL n := by
  unfold Lib.itoa
  rw [if_neg (by omega), Int.toNat_natCast, itoa_dec]

/-! Digits, the least significant first, doubled. -/
def dbl : List Nat → Nat → List Nat × Nat
  | [], k => ([], k)
  | d :: r, k => ((2 * d + k) % 10 :: (dbl r ((2 * d + k) / 10)).1, (dbl r ((2 * d + k) / 10)).2)
def leN (n : Nat) : List Nat := if n < 10 then [n] else n % 10 :: leN (n / 10)
termination_by n
decreasing_by omega
theorem leN_lt {n : Nat} (h : n < 10) : leN n = [n] := by rw [leN, if_pos h]
theorem leN_ge {n : Nat} (h : 10 ≤ n) : leN n = n % 10 :: leN (n / 10) := by rw [leN, if_neg (by omega)]
theorem dbl_carry : ∀ (l : List Nat) (k : Nat), (∀ d ∈ l, d < 10) → k ≤ 1 → (dbl l k).2 ≤ 1
  | [], k, _, h => h
  | d :: l, k, hd, h => by
    have := hd d (by simp)
    exact dbl_carry l _ (fun x hx => hd x (by simp [hx])) (by omega)
theorem dbl_len : ∀ (l : List Nat) (k : Nat), (dbl l k).1.length = l.length
  | [], _ => rfl
  | d :: l, k => by
    show (dbl l _).1.length + 1 = l.length + 1
    rw [dbl_len l]
theorem leN_dig (n : Nat) : ∀ d ∈ leN n, d < 10 := by
  induction n using Nat.strongRecOn with
  | _ n ih =>
    by_cases h : n < 10
    · rw [leN_lt h]
      intro d hd
      rw [List.mem_singleton.1 hd]
      exact h
    · rw [leN_ge (by omega)]
      intro d hd
      rcases List.mem_cons.1 hd with rfl | hd
      · omega
      · exact ih (n / 10) (by omega) d hd
theorem dbl_le (n : Nat) : ∀ k, k ≤ 1 → (dbl (leN n) k).1 ++ (if (dbl (leN n) k).2 = 1 then [1] else []) = leN (2 * n + k) := by
  induction n using Nat.strongRecOn with
  | _ n ih =>
    intro k hk
    by_cases h : n < 10
    · rw [leN_lt h]
      by_cases h2 : 2 * n + k < 10
      · rw [leN_lt h2]
        have e : (2 * n + k) / 10 = 0 := by omega
        simp only [dbl, e, Nat.mod_eq_of_lt h2]
        rfl
      · rw [leN_ge (by omega)]
        have e : (2 * n + k) / 10 = 1 := by omega
        simp only [dbl, e, leN_lt (show 1 < 10 by decide)]
        rfl
    · rw [leN_ge (by omega), leN_ge (show 10 ≤ 2 * n + k by omega)]
      have h1 : (2 * n + k) / 10 = 2 * (n / 10) + (2 * (n % 10) + k) / 10 := by omega
      have h2 : (2 * n + k) % 10 = (2 * (n % 10) + k) % 10 := by omega
      rw [h1, h2, ← ih (n / 10) (by omega) _ (by omega)]
      rfl
theorem dec_le (n : Nat) : decL n = ((leN n).map dgc).reverse := by
  induction n using Nat.strongRecOn with
  | _ n ih =>
    by_cases h : n < 10
    · rw [decL_lt h, leN_lt h]; rfl
    · rw [decL_ge (by omega), leN_ge (by omega), ih (n / 10) (by omega)]
      simp
/-- The first i digits are doubled. -/
theorem dbl_split : ∀ (a b : List Nat) (k : Nat), dbl (a ++ b) k = ((dbl a k).1 ++ (dbl b (dbl a k).2).1, (dbl b (dbl a k).2).2)
  | [], b, k => rfl
  | d :: a, b, k => by
    show _ = ((2 * d + k) % 10 :: (dbl a _).1 ++ _, _)
    rw [List.cons_append, dbl, dbl_split a b]
    rfl
theorem leN_len (n : Nat) : (leN n).length = (decL n).length := by rw [dec_le]; simp
/-- One bit more in front. -/
theorem num_drop {l : List Int} {i : Nat} (h : i < l.length) : num (l.drop i) = (if nth l i = 1 then 1 else 0) + 2 * num (l.drop (i + 1)) := by
  rw [List.drop_eq_getElem_cons h, num]
  have : nth l i = l[i] := by simp [nth, List.getD_eq_getElem?_getD, h]
  rw [this]

/-! Digits that are no literal's: what the text denotes is not the vector. -/
theorem nth_dbits_low {b k : Nat} {c : UInt8} (h : k < b) (h1 : c = 120) : nth (dbits b c) k = 2 := by
  subst h1
  unfold dbits
  rw [nth_tab _ h]
  rfl
theorem nth_dbits_lowz {b k : Nat} {c : UInt8} (h : k < b) (h1 : c = 122) : nth (dbits b c) k = 3 := by
  subst h1
  unfold dbits
  rw [nth_tab _ h]
  rfl
theorem grp_X {g : List Int} (h : grp g = 88) : (∃ i, i < g.length ∧ nth g i ≠ 2) := by
  by_cases c : g.all (· == 2) = true
  · unfold grp at h
    rw [if_pos c] at h
    exact absurd h (by decide)
  · rw [Bool.not_eq_true, List.all_eq_false] at c
    obtain ⟨x, hx, hn⟩ := c
    obtain ⟨i, hi, rfl⟩ := List.getElem_of_mem hx
    refine ⟨i, hi, ?_⟩
    have : nth g i = g[i] := by simp [nth, List.getD_eq_getElem?_getD, hi]
    rw [this]
    simpa using hn
theorem grp_Z {g : List Int} (h : grp g = 90) : (∃ i, i < g.length ∧ nth g i ≠ 3) := by
  by_cases c : g.all (· == 2) = true
  · unfold grp at h
    rw [if_pos c] at h
    exact absurd h (by decide)
  · by_cases c' : g.all (· == 3) = true
    · unfold grp at h
      rw [if_neg c, if_pos c'] at h
      exact absurd h (by decide)
    · rw [Bool.not_eq_true, List.all_eq_false] at c'
      obtain ⟨x, hx, hn⟩ := c'
      obtain ⟨i, hi, rfl⟩ := List.getElem_of_mem hx
      refine ⟨i, hi, ?_⟩
      have : nth g i = g[i] := by simp [nth, List.getD_eq_getElem?_getD, hi]
      rw [this]
      simpa using hn
/-- The bits that a group's digit denotes, in its place. -/
theorem lit_at {l : List Int} {b : Nat} (hb0 : 0 < b) {f : UInt8 → UInt8} {j k : Nat} (hj : j * b + k < l.length) (hk : k < b) :
    nth (litL b ((digL b l).map f) l.length) (j * b + k) = nth (dbits b (f (grp ((l.drop (j * b)).take b)))) k := by
  have hm : l.length ≤ (l.length + b - 1) / b * b := by
    have h1 := Nat.div_add_mod (l.length + b - 1) b
    have h2 := Nat.mod_lt (l.length + b - 1) hb0
    rw [Nat.mul_comm] at h1
    omega
  have hj' : j < (l.length + b - 1) / b := by
    refine Nat.lt_of_mul_lt_mul_right (a := b) ?_
    omega
  have e1 : (j * b + k) / b = j := by rw [Nat.mul_comm, Nat.mul_add_div hb0, Nat.div_eq_of_lt hk, Nat.add_zero]
  have e2 : (j * b + k) % b = k := by rw [Nat.mul_comm, Nat.mul_add_mod, Nat.mod_eq_of_lt hk]
  unfold litL
  rw [nth_tab _ hj, List.length_map, digL_len, if_pos (by omega), flat_at hb0 (dbits b) (dbits_len b) _ _ (by rw [List.length_reverse, List.length_map, digL_len]; omega), e1, e2]
  congr 2
  unfold digL grps
  rw [← List.map_reverse, List.reverse_reverse, List.getD_eq_getElem?_getD, List.getElem?_map, List.getElem?_map, List.getElem?_map, List.getElem?_range hj']
  rfl
theorem up_88 : lowC 88 = 120 := by decide
theorem up_90 : lowC 90 = 122 := by decide
theorem mem_dig' {b : Nat} {l : List Int} (hb0 : 0 < b) {c : UInt8} (h : c ∈ digL b l) : ∃ j, j * b < l.length ∧ c = grp ((l.drop (j * b)).take b) := by
  unfold digL grps at h
  rw [List.mem_reverse, List.mem_map] at h
  obtain ⟨g, hg, rfl⟩ := h
  obtain ⟨j, hj, rfl⟩ := List.mem_map.1 hg
  rw [List.mem_range] at hj
  refine ⟨j, ?_, rfl⟩
  have h1 := Nat.div_mul_le_self (l.length + b - 1) b
  have h3 : (j + 1) * b ≤ (l.length + b - 1) / b * b := Nat.mul_le_mul_right b hj
  rw [Nat.succ_mul] at h3
  omega
/-- A digit in upper case denotes bits that differ from the vector's. -/
theorem lit_bad {l : List Int} {b : Nat} (hb0 : 0 < b) (hX : ∃ c ∈ digL b l, c = 88 ∨ c = 90) : litL b ((digL b l).map lowC) l.length ≠ l := by
  obtain ⟨c, hc, hX⟩ := hX
  obtain ⟨j, hj, rfl⟩ := mem_dig' hb0 hc
  intro he
  have key : ∀ k, k < ((l.drop (j * b)).take b).length → nth (dbits b (lowC (grp ((l.drop (j * b)).take b)))) k = nth ((l.drop (j * b)).take b) k := by
    intro k hk
    have hk' : k < b ∧ j * b + k < l.length := by rw [List.length_take, List.length_drop] at hk; omega
    have := lit_at (f := lowC) hb0 hk'.2 hk'.1
    rw [he] at this
    rw [← this, take_drop_at l hk'.1 hk'.2]
  rcases hX with h | h
  · obtain ⟨i, hi, hn⟩ := grp_X h
    have := key i hi
    rw [h, up_88, nth_dbits_low (by rw [List.length_take] at hi; omega) rfl] at this
    exact hn this.symm
  · obtain ⟨i, hi, hn⟩ := grp_Z h
    have := key i hi
    rw [h, up_90, nth_dbits_lowz (by rw [List.length_take] at hi; omega) rfl] at this
    exact hn this.symm
end Go.Proofs.YtgojnpblhfbdpaaGreatDoor

namespace Go.Proofs.YtgojnpblhfbdpaaGreatDoor
open Go Go.RowKit

/-- Digits in the bases 2, 8 and 16: word characters that the base has. -/
theorem digL_any {l : List Int} {b : Nat} (hb0 : 0 < b) (hb : b ≤ 4) (hl : 0 < l.length) :
    cleanL (digL b l) = (digL b l).map lowC ∧ (∀ c ∈ digL b l, wordC true c = true) ∧ digOk b (digL b l) = true := by
  have key : ∀ c ∈ digL b l, c ≠ 95 ∧ wordC true c = true ∧ (unkC (lowC c) || decide (vlC (lowC c) < limB b)) = true := fun c hc => by
    obtain ⟨j, _, e⟩ := mem_dig hc
    have hg : ((l.drop (j * b)).take b).length ≤ b := by rw [List.length_take]; omega
    rcases grp_cases ((l.drop (j * b)).take b) with h | h | h | h | ⟨h, _⟩
    · rw [e, h]; exact ⟨by decide, by decide, rfl⟩
    · rw [e, h]; exact ⟨by decide, by decide, rfl⟩
    · rw [e, h]; exact ⟨by decide, by decide, rfl⟩
    · rw [e, h]; exact ⟨by decide, by decide, rfl⟩
    · have hn : num ((l.drop (j * b)).take b) < 16 := num_16 (by omega)
      have hb2 : num ((l.drop (j * b)).take b) < 2 ^ b := Nat.lt_of_lt_of_le (num_lt _) (Nat.pow_le_pow_right (by decide) hg)
      obtain ⟨a1, a2, a3⟩ := digC_dgc _ hn
      rw [e, h]
      refine ⟨a2, a3, ?_⟩
      rw [a1, vl_dgc _ hn]
      unfold limB
      rw [if_neg (by omega), decide_eq_true hb2, Bool.or_true]
  have hc : cleanL (digL b l) = (digL b l).map lowC := by
    unfold cleanL
    rw [List.filter_eq_self.2 fun c hc => by simpa using (key c hc).1]
  refine ⟨hc, fun c hc => (key c hc).2.1, ?_⟩
  unfold digOk
  rw [hc]
  have hlen : 0 < (digL b l).length := by
    rw [digL_len]
    exact Nat.div_pos (by omega) hb0
  have h1 : (digL b l).isEmpty = false := by
    cases h : digL b l with
    | nil => rw [h] at hlen; simp at hlen
    | cons _ _ => rfl
  have h2 : ((digL b l).head? != some 95) = true := by
    cases h : digL b l with
    | nil => rfl
    | cons c t =>
      have := (key c (by rw [h]; simp)).1
      simpa using this
  have h3 : ((digL b l).map lowC).all (fun c => unkC c || decide (vlC c < limB b)) = true := List.all_eq_true.2 fun c hc => by
    obtain ⟨x, hx, rfl⟩ := List.mem_map.1 hc
    exact (key x hx).2.2
  rw [h1, h2, h3, decide_eq_true hb0]
  rfl
theorem digL_le {l : List Int} {b : Nat} (hb0 : 0 < b) (hl : l.length ≤ 128) : (digL b l).length ≤ 256 := by
  rw [digL_len]
  by_cases h0 : l.length = 0
  · rw [h0, Nat.zero_add, Nat.div_eq_of_lt (by omega)]
    omega
  · have : (l.length + b - 1) / b ≤ l.length := by
      refine Nat.div_le_of_le_mul ?_
      obtain ⟨m, hm⟩ : ∃ m, l.length = m + 1 := ⟨l.length - 1, by omega⟩
      rw [hm, Nat.mul_succ]
      have : 1 * m ≤ b * m := Nat.mul_le_mul_right _ hb0
      omega
    omega
/-- A minus sign ends the text behind the base letter. -/
theorem prs_minus (n : Nat) (h1 : 1 ≤ n) (h2 : n ≤ 128) (sg : Bool) (ds : List UInt8) : prsT (litT n sg 100 (45 :: ds)) = .error 3 := by
  have e0 : litT n sg 100 (45 :: ds) = decL n ++ 39 :: ((if sg then [115] else []) ++ [100] ++ 45 :: ds) := by
    unfold litT
    rw [List.append_assoc]
    rfl
  have e1 : (litT n sg 100 (45 :: ds)).takeWhile (wordC false) = decL n := by
    rw [e0]
    exact tw_app (fun c hc => dec_word (dec_all n c hc)) (fun c hc => by
      simp at hc
      subst hc
      decide)
  have e2 : (litT n sg 100 (45 :: ds)).drop (decL n).length = 39 :: ((if sg then [115] else []) ++ [100] ++ 45 :: ds) := by
    rw [e0, List.drop_left]
  have e3 : ((if sg then [115] else []) ++ [100] ++ 45 :: ds : List UInt8).takeWhile (wordC true) = (if sg then [115] else []) ++ [100] := tw_app (fun c hc => by
    cases sg
    · simp at hc
      subst hc
      decide
    · simp at hc
      rcases hc with rfl | rfl <;> decide) (fun c hc => by
    simp at hc
    subst hc
    decide)
  have e4 : ((if sg then [115] else []) ++ [100] ++ 45 :: ds : List UInt8).isEmpty = false := by cases sg <;> rfl
  have e5 : sgnT ((if sg then [115] else []) ++ [100]) = sg := by cases sg <;> decide
  have e6 : (if sg then ((if sg then [115] else []) ++ [100] : List UInt8).tail else ((if sg then [115] else []) ++ [100])) = [100] := by cases sg <;> rfl
  have e7 : basedT [100] n = .error 3 := by
    have : digOk 0 [] = false := by decide
    simp [basedT, show lowC 100 = 100 by decide, show bszC 100 = some 0 by decide, this]
  unfold prsT
  simp only [e1, e2, numOk_dec, decL_ne, valU_dec, List.head?_cons, List.tail_cons, e3, e4, e5, e6]
  rw [if_neg (by simp), if_neg (by simp), if_neg (by simp; omega), if_neg (by simp)]
  simp only [Bool.false_eq_true, if_false, e7]
theorem low_unk : lowC 88 = 120 ∧ lowC 90 = 122 := by decide
/-- Where the digits are no literal's, the text denotes something else or nothing. -/
theorem prs_bad {v : V} (hok : okB v.l = true) (h0 : bits4 v.l) {bl : UInt8} {bits : Nat} (hb : bszC bl = some bits) (hup : badL (digB bits v) = true) (u : V) (n : Nat)
    (h : prsT (litT v.l.length v.s bl (digB bits v)) = .ok (u, n)) : u ≠ v := by
  have hl := ok_len hok
  have hb4 := bits_of hb
  unfold badL at hup
  rw [List.any_eq_true] at hup
  obtain ⟨c, hc, hX⟩ := hup
  simp only [Bool.or_eq_true, beq_iff_eq] at hX
  rintro rfl
  by_cases hz : bits = 0
  · subst hz
    have hbl : bl = 100 := by
      rcases base_of hb with rfl | rfl | rfl | rfl
      · exact absurd hb (by decide)
      · exact absurd hb (by decide)
      · rfl
      · exact absurd hb (by decide)
    subst hbl
    have e : digB 0 u = digD u := rfl
    rw [e] at hc h
    unfold digD at hc h
    by_cases hk : knL u.l = true
    · rw [if_pos hk] at hc h
      by_cases hs : (u.s && digD.neg1 u.l) = true
      · rw [if_pos hs] at h
        rw [prs_minus _ hl.1 hl.2] at h
        cases h
      · rw [if_neg hs] at hc
        have := dec_ne3 (dec_all _ c hc)
        rcases hX with (hX | hX) | hX
        · exact this.1 hX
        · exact this.2.1 hX
        · exact this.2.2 hX
    · rw [if_neg hk] at hc h
      rw [List.mem_singleton] at hc
      have gX : grp u.l = 88 ∨ grp u.l = 90 := by
        rcases grp_unk (Bool.eq_false_iff.2 hk) with ⟨q, _⟩ | ⟨q, _⟩ | q | (q | ⟨i, hi, q⟩)
        · rw [hc, q] at hX; exact absurd hX (by decide)
        · rw [hc, q] at hX; exact absurd hX (by decide)
        · exact .inl q
        · exact .inr q
        · exact absurd (h0 i hi) q
      have hw : ∀ c ∈ [grp u.l], wordC true c = true := fun c hc => by
        rw [List.mem_singleton.1 hc]
        rcases gX with g | g <;> rw [g] <;> decide
      have hd : digOk 0 [grp u.l] = true := by rcases gX with g | g <;> rw [g] <;> decide
      have hcl : cleanL [grp u.l] = [lowC (grp u.l)] := by rcases gX with g | g <;> rw [g] <;> decide
      have := prs_lit (n := u.l.length) hl.1 hl.2 u.s hb (ds := [grp u.l]) (rest := []) hw hd (by rw [hcl, List.length_singleton]; decide) (fun c h => by simp at h)
      rw [List.append_nil, h, hcl] at this
      have hu := congrArg V.l (Prod.mk.inj (Except.ok.inj this)).1
      simp only at hu
      rcases gX with g | g
      · obtain ⟨i, hi, hn⟩ := grp_X g
        rw [g, low_unk.1, litV_x] at hu
        rw [hu, nth_tab _ hi] at hn
        exact hn rfl
      · obtain ⟨i, hi, hn⟩ := grp_Z g
        rw [g, low_unk.2, litV_z] at hu
        rw [hu, nth_tab _ hi] at hn
        exact hn rfl
  · have e : digB bits u = digL bits u.l := by unfold digB; rw [if_neg hz]
    rw [e] at hc h
    obtain ⟨d1, d2, d3⟩ := digL_any (b := bits) (l := u.l) (by omega) hb4 hl.1
    have := prs_lit (n := u.l.length) hl.1 hl.2 u.s hb (ds := digL bits u.l) (rest := []) d2 d3 (by rw [d1, List.length_map]; exact digL_le (by omega) hl.2) (fun c h => by simp at h)
    rw [List.append_nil, h, d1] at this
    have hu := congrArg V.l (Prod.mk.inj (Except.ok.inj this)).1
    simp only at hu
    unfold litV at hu
    rw [if_neg hz] at hu
    refine lit_bad (l := u.l) (b := bits) (by omega) ⟨c, hc, ?_⟩ hu.symm
    rcases hX with (hX | hX) | hX
    · exact .inl hX
    · exact .inr hX
    · subst hX
      exact absurd (d2 45 hc) (by decide)
/-- The length of a formatted text. -/
theorem litT_short {v : V} (hok : okB v.l = true) {bl : UInt8} {bits : Nat} (hb : bszC bl = some bits) : (litT v.l.length v.s bl (digB bits v)).length ≤ 400 := by
  have hl := ok_len hok
  have hb4 := bits_of hb
  have h1 := dec_len_le 38 v.l.length (Nat.lt_of_le_of_lt hl.2 (by decide))
  have h3 : (digB bits v).length ≤ 256 := by
    by_cases hz : bits = 0
    · subst hz
      have e : digB 0 v = digD v := rfl
      rw [e]
      unfold digD
      have hp : 2 ^ v.l.length ≤ 2 ^ 128 := Nat.pow_le_pow_right (by decide) hl.2
      have hq : (2 : Nat) ^ 128 < 10 ^ (38 + 1) := by decide
      split
      · split
        · have := dec_len_le 38 (2 ^ v.l.length - num v.l) (by omega)
          simp only [List.length_cons]
          omega
        · have := dec_len_le 38 (num v.l) (by have := num_lt v.l; omega)
          omega
      · simp
    · unfold digB
      rw [if_neg hz]
      exact digL_le (by omega) hl.2
  rw [litT_len, List.length_append, List.length_cons]
  have : (if v.s then [115] else [] : List UInt8).length ≤ 1 := by cases v.s <;> decide
  omega
/-- Format, as the program has it: the text is parsed again. -/
theorem fmt_again {v : V} (hok : okB v.l = true) (hc : chk v.l = 0) (h0 : bits4 v.l) {bl : UInt8} {bits : Nat} (hb : bszC bl = some bits) :
    fmtV v bl = if (prsV (litT v.l.length v.s bl (digB bits v)) 0).2.2 = 0 ∧ sameV (prsV (litT v.l.length v.s bl (digB bits v)) 0).1 v = true then (litT v.l.length v.s bl (digB bits v), 0) else ([], 8) := by
  have e1 : digV v bl = (digB bits v, 0) := by unfold digV; rw [if_pos hc, hb]
  have hsh := litT_short hok hb
  have hpos : 0 < (litT v.l.length v.s bl (digB bits v)).length := by rw [litT_len]; omega
  cases hbad : badL (digB bits v)
  · have hlow := (badL_iff _).1 hbad
    have := prs_fmt hok h0 hb hlow (rest := []) (fun c h => by simp at h)
    rw [List.append_nil] at this
    have := prsV_at (pre := []) this (by simp; omega)
    simp only [List.nil_append, List.length_nil] at this
    have this : prsV (litT v.l.length v.s bl (digB bits v)) 0 = _ := this
    rw [this, if_pos ⟨rfl, by simp [sameV]⟩]
    unfold fmtV
    rw [e1]
    simp only [if_true, hbad, Bool.false_eq_true, if_false]
  · unfold fmtV
    rw [e1]
    simp only [if_true, hbad]
    rw [if_neg]
    rintro ⟨h1, h2⟩
    generalize ht : litT v.l.length v.s bl (digB bits v) = t at h1 h2 hsh hpos
    unfold prsV at h1 h2
    rw [if_neg (by omega), if_neg (by omega), if_neg (by omega)] at h1 h2
    simp only [Int.toNat_zero, List.drop_zero] at h1 h2
    cases hp : prsT t with
    | error e =>
      rw [hp] at h1 h2
      simp only at h1 h2
      simp only [sameV, nilV, Bool.and_eq_true] at h2
      have := (ok_len hok).1
      rw [← of_decide_eq_true h2.2] at this
      simp at this
    | ok r =>
      obtain ⟨u, n⟩ := r
      rw [hp] at h1 h2
      simp only at h1 h2
      rw [← ht] at hp
      refine prs_bad hok h0 hb hbad u n hp ?_
      simp only [sameV, Bool.and_eq_true] at h2
      exact V.ext' (of_decide_eq_true h2.2) (by simpa using h2.1)
end Go.Proofs.YtgojnpblhfbdpaaGreatDoor

