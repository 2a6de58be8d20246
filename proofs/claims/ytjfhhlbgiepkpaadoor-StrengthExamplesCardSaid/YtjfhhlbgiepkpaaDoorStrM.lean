/-
  The plain mathematics of layer 2 (package strength): intervals of levels as pairs of integers, their combination, and what it contains. No conditions; nothing of the program.
-/
namespace Go.Proofs.YtjfhhlbgiepkpaaDoor

def limI (n : Int) : Int := max (-7) (min n 7)
def nLo (lo hi : Int) : Int := min (limI lo) (limI hi)
def nHi (lo hi : Int) : Int := max (limI lo) (limI hi)
def wk (lo hi : Int) : Int := max 0 (max lo (-hi))
def c1Lo (a0 a1 b0 _b1 : Int) : Int := if b0 ≤ -(wk a0 a1) then min a0 b0 else a0
def c1Hi (a0 a1 _b0 b1 : Int) : Int := if wk a0 a1 ≤ b1 then max a1 b1 else a1
def cLo (a0 a1 b0 b1 : Int) : Int := if wk a0 a1 < wk b0 b1 then c1Lo b0 b1 a0 a1 else c1Lo a0 a1 b0 b1
def cHi (a0 a1 b0 b1 : Int) : Int := if wk a0 a1 < wk b0 b1 then c1Hi b0 b1 a0 a1 else c1Hi a0 a1 b0 b1

/-- A normalized interval. -/
class Nm (lo hi : Int) : Prop where
  low : -7 ≤ lo
  le : lo ≤ hi
  high : hi ≤ 7

theorem limI_bd (n : Int) : -7 ≤ limI n ∧ limI n ≤ 7 := by unfold limI; omega
theorem limI_of (n : Int) (h0 : -7 ≤ n) (h1 : n ≤ 7) : limI n = n := by unfold limI; omega
instance (lo hi : Int) : Nm (nLo lo hi) (nHi lo hi) := by
  have := limI_bd lo; have := limI_bd hi
  exact ⟨by unfold nLo; omega, by unfold nLo nHi; omega, by unfold nHi; omega⟩
theorem norm_of {lo hi : Int} (h : Nm lo hi) : nLo lo hi = lo ∧ nHi lo hi = hi := by
  obtain ⟨a, b, c⟩ := h
  unfold nLo nHi limI; omega

/-- The level n results from combining the levels m and k. -/
def lvl (n m k : Int) : Prop := (m = -k ∧ min m k ≤ n ∧ n ≤ max m k) ∨ (m ≠ -k ∧ max k (-k) ≤ max m (-m) ∧ n = m) ∨ (m ≠ -k ∧ max m (-m) < max k (-k) ∧ n = k)

theorem lvl_symm (n m k : Int) : lvl n m k ↔ lvl n k m := by unfold lvl; omega

theorem mem_c1 {a0 a1 b0 b1 : Int} (ha : a0 ≤ a1) (hb : b0 ≤ b1) (hw : wk b0 b1 ≤ wk a0 a1) (n : Int) :
    (c1Lo a0 a1 b0 b1 ≤ n ∧ n ≤ c1Hi a0 a1 b0 b1) ↔ ∃ m k : Int, a0 ≤ m ∧ m ≤ a1 ∧ b0 ≤ k ∧ k ≤ b1 ∧ lvl n m k := by
  obtain ⟨wa, wa0, wa1, hwa⟩ : ∃ x, a0 ≤ x ∧ x ≤ a1 ∧ max x (-x) = wk a0 a1 := by
    unfold wk
    by_cases h : 0 < a0
    · exact ⟨a0, by omega⟩
    · by_cases h : a1 < 0
      · exact ⟨a1, by omega⟩
      · exact ⟨0, by omega⟩
  obtain ⟨wb, wb0, wb1, hwb⟩ : ∃ x, b0 ≤ x ∧ x ≤ b1 ∧ max x (-x) = wk b0 b1 := by
    unfold wk
    by_cases h : 0 < b0
    · exact ⟨b0, by omega⟩
    · by_cases h : b1 < 0
      · exact ⟨b1, by omega⟩
      · exact ⟨0, by omega⟩
  have hA : ∀ m, a0 ≤ m → m ≤ a1 → wk a0 a1 ≤ max m (-m) := fun m h0 h1 => by unfold wk; omega
  have hB : ∀ m, b0 ≤ m → m ≤ b1 → wk b0 b1 ≤ max m (-m) := fun m h0 h1 => by unfold wk; omega
  have e1 : wk a0 a1 = a0 ∨ wk a0 a1 = -a1 ∨ wk a0 a1 = 0 := by unfold wk; omega
  have e2 : 0 ≤ wk a0 a1 ∧ a0 ≤ wk a0 a1 ∧ -a1 ≤ wk a0 a1 := by unfold wk; omega
  have e3 : 0 ≤ wk b0 b1 ∧ b0 ≤ wk b0 b1 ∧ -b1 ≤ wk b0 b1 := by unfold wk; omega
  unfold c1Lo c1Hi
  generalize wk a0 a1 = W at *
  generalize wk b0 b1 = V at *
  constructor
  · intro ⟨h0, h1⟩
    by_cases hn : a0 ≤ n ∧ n ≤ a1
    · refine ⟨n, wb, by omega, by omega, wb0, wb1, ?_⟩
      have := hA n hn.1 hn.2
      unfold lvl; omega
    · by_cases hs : max n (-n) < W
      · by_cases ha0 : 0 < a0
        · refine ⟨W, -W, by omega, by omega, ?_, by omega, by unfold lvl; omega⟩
          split at h0 <;> split at h1 <;> omega
        · refine ⟨-W, W, by omega, by omega, by omega, ?_, by unfold lvl; omega⟩
          split at h0 <;> split at h1 <;> omega
      · refine ⟨wa, n, wa0, wa1, ?_, ?_, ?_⟩
        · split at h0 <;> split at h1 <;> omega
        · split at h0 <;> split at h1 <;> omega
        · have := hA wa wa0 wa1
          unfold lvl; split at h0 <;> split at h1 <;> omega
  · rintro ⟨m, k, m0, m1, k0, k1, hl⟩
    have := hA m m0 m1
    have := hB k k0 k1
    unfold lvl at hl
    constructor <;> split <;> omega

theorem mem_comb {a0 a1 b0 b1 : Int} (ha : a0 ≤ a1) (hb : b0 ≤ b1) (n : Int) :
    (cLo a0 a1 b0 b1 ≤ n ∧ n ≤ cHi a0 a1 b0 b1) ↔ ∃ m k : Int, a0 ≤ m ∧ m ≤ a1 ∧ b0 ≤ k ∧ k ≤ b1 ∧ lvl n m k := by
  unfold cLo cHi
  by_cases h : wk a0 a1 < wk b0 b1
  · rw [if_pos h, if_pos h, mem_c1 hb ha (by omega)]
    constructor
    · rintro ⟨m, k, h⟩; exact ⟨k, m, h.2.2.1, h.2.2.2.1, h.1, h.2.1, (lvl_symm _ _ _).1 h.2.2.2.2⟩
    · rintro ⟨m, k, h⟩; exact ⟨k, m, h.2.2.1, h.2.2.2.1, h.1, h.2.1, (lvl_symm _ _ _).1 h.2.2.2.2⟩
  · rw [if_neg h, if_neg h, mem_c1 ha hb (by omega)]

theorem lvl_bd (n m k : Int) (hm : -7 ≤ m ∧ m ≤ 7) (hk : -7 ≤ k ∧ k ≤ 7) (h : lvl n m k) : -7 ≤ n ∧ n ≤ 7 := by unfold lvl at h; omega
theorem lvl_some (m k : Int) : ∃ n, lvl n m k := by
  unfold lvl
  by_cases h : max k (-k) ≤ max m (-m)
  · exact ⟨m, by omega⟩
  · exact ⟨k, by omega⟩

theorem comb_le {a0 a1 b0 b1 : Int} (ha : a0 ≤ a1) (hb : b0 ≤ b1) : cLo a0 a1 b0 b1 ≤ cHi a0 a1 b0 b1 := by
  obtain ⟨n, hn⟩ := lvl_some a0 b0
  have := (mem_comb ha hb n).2 ⟨a0, b0, by omega, ha, by omega, hb, hn⟩
  omega
instance (a0 a1 b0 b1 : Int) [A : Nm a0 a1] [B : Nm b0 b1] : Nm (cLo a0 a1 b0 b1) (cHi a0 a1 b0 b1) := by
  obtain ⟨p, q, r⟩ := A
  obtain ⟨s, t, u⟩ := B
  have hle := comb_le q t
  obtain ⟨m, k, h⟩ := (mem_comb q t _).1 ⟨Int.le_refl _, hle⟩
  obtain ⟨m', k', h'⟩ := (mem_comb q t _).1 ⟨hle, Int.le_refl _⟩
  have h1 := lvl_bd _ m k (by omega) (by omega) h.2.2.2.2
  have h2 := lvl_bd _ m' k' (by omega) (by omega) h'.2.2.2.2
  exact ⟨h1.1, hle, h2.2⟩

/-- Two intervals with the same levels are the same. -/
theorem ext2 {a0 a1 b0 b1 : Int} (ha : a0 ≤ a1) (hb : b0 ≤ b1) (h : ∀ n : Int, (a0 ≤ n ∧ n ≤ a1) ↔ (b0 ≤ n ∧ n ≤ b1)) : a0 = b0 ∧ a1 = b1 := by
  have h1 := (h a0).1 ⟨by omega, ha⟩
  have h2 := (h a1).1 ⟨ha, by omega⟩
  have h3 := (h b0).2 ⟨by omega, hb⟩
  have h4 := (h b1).2 ⟨hb, by omega⟩
  omega

theorem comb_comm {a0 a1 b0 b1 : Int} (ha : a0 ≤ a1) (hb : b0 ≤ b1) : cLo a0 a1 b0 b1 = cLo b0 b1 a0 a1 ∧ cHi a0 a1 b0 b1 = cHi b0 b1 a0 a1 :=
  ext2 (comb_le ha hb) (comb_le hb ha) fun n => by
    rw [mem_comb ha hb, mem_comb hb ha]
    constructor
    · rintro ⟨m, k, h⟩; exact ⟨k, m, h.2.2.1, h.2.2.2.1, h.1, h.2.1, (lvl_symm _ _ _).1 h.2.2.2.2⟩
    · rintro ⟨m, k, h⟩; exact ⟨k, m, h.2.2.1, h.2.2.2.1, h.1, h.2.1, (lvl_symm _ _ _).1 h.2.2.2.2⟩

set_option maxHeartbeats 2000000 in
/-- Grouping, level by level: one way. -/
theorem lvl_assoc (n m k l p : Int) (hp : lvl p m k) (hn : lvl n p l) : ∃ q, lvl q k l ∧ lvl n m q := by
  unfold lvl at *
  by_cases h1 : max k (-k) < max l (-l)
  · exact ⟨l, by omega, by omega⟩
  · by_cases h2 : k = -l
    · by_cases h3 : max m (-m) < max k (-k)
      · by_cases h5 : max m (-m) < max n (-n)
        · exact ⟨n, by omega, by omega⟩
        · exact ⟨-m, by omega, by omega⟩
      · by_cases h4 : m = -k
        · exact ⟨k, by omega, by omega⟩
        · exact ⟨l, by omega, by omega⟩
    · exact ⟨k, by omega, by omega⟩

theorem comb_assoc {a0 a1 b0 b1 d0 d1 : Int} (ha : a0 ≤ a1) (hb : b0 ≤ b1) (hd : d0 ≤ d1) :
    cLo (cLo a0 a1 b0 b1) (cHi a0 a1 b0 b1) d0 d1 = cLo a0 a1 (cLo b0 b1 d0 d1) (cHi b0 b1 d0 d1) ∧ cHi (cLo a0 a1 b0 b1) (cHi a0 a1 b0 b1) d0 d1 = cHi a0 a1 (cLo b0 b1 d0 d1) (cHi b0 b1 d0 d1) :=
  ext2 (comb_le (comb_le ha hb) hd) (comb_le ha (comb_le hb hd)) fun n => by
    rw [mem_comb (comb_le ha hb) hd, mem_comb ha (comb_le hb hd)]
    constructor
    · rintro ⟨p, l, p0, p1, l0, l1, hn⟩
      obtain ⟨m, k, m0, m1, k0, k1, hp⟩ := (mem_comb ha hb p).1 ⟨p0, p1⟩
      obtain ⟨q, hq, hn'⟩ := lvl_assoc n m k l p hp hn
      have := (mem_comb hb hd q).2 ⟨k, l, k0, k1, l0, l1, hq⟩
      exact ⟨m, q, m0, m1, this.1, this.2, hn'⟩
    · rintro ⟨m, q, m0, m1, q0, q1, hn⟩
      obtain ⟨k, l, k0, k1, l0, l1, hq⟩ := (mem_comb hb hd q).1 ⟨q0, q1⟩
      obtain ⟨p, hp, hn'⟩ := lvl_assoc n l k m q ((lvl_symm _ _ _).1 hq) ((lvl_symm _ _ _).1 hn)
      have := (mem_comb ha hb p).2 ⟨m, k, m0, m1, k0, k1, (lvl_symm _ _ _).1 hp⟩
      exact ⟨p, l, this.1, this.2, l0, l1, (lvl_symm _ _ _).1 hn'⟩

theorem comb_zero {a0 a1 : Int} (_ha : a0 ≤ a1) : cLo a0 a1 0 0 = a0 ∧ cHi a0 a1 0 0 = a1 := by
  have : wk 0 0 = 0 := rfl
  have h : 0 ≤ wk a0 a1 ∧ a0 ≤ wk a0 a1 ∧ -a1 ≤ wk a0 a1 := by unfold wk; omega
  have h' : wk a0 a1 = 0 ∨ wk a0 a1 = a0 ∨ wk a0 a1 = -a1 := by unfold wk; omega
  unfold cLo cHi
  rw [this, if_neg (by omega), if_neg (by omega)]
  unfold c1Lo c1Hi
  constructor <;> split <;> omega
theorem comb_zero' {a0 a1 : Int} (ha : a0 ≤ a1) : cLo 0 0 a0 a1 = a0 ∧ cHi 0 0 a0 a1 = a1 := by
  have h := comb_comm (a0 := 0) (a1 := 0) (by omega) ha
  have := comb_zero ha
  omega
set_option maxHeartbeats 400000 in
/-- The stronger interval stays. -/
theorem comb_dom {a0 a1 b0 b1 : Int} (ha : a0 ≤ a1) (hb : b0 ≤ b1) (_h : ¬ (a0 ≤ 0 ∧ 0 ≤ a1)) (hd : max b1 (-b0) < min (max a0 (-a0)) (max a1 (-a1))) : cLo a0 a1 b0 b1 = a0 ∧ cHi a0 a1 b0 b1 = a1 :=
  ext2 (comb_le ha hb) ha fun n => by
    rw [mem_comb ha hb]
    unfold lvl
    constructor
    · rintro ⟨m, k, h⟩; omega
    · intro h; exact ⟨n, b0, by omega⟩
set_option maxHeartbeats 400000 in
theorem comb_mono {a0 a1 b0 b1 p0 p1 q0 q1 : Int} (hp : p0 ≤ p1) (hq : q0 ≤ q1) (h1 : a0 ≤ p0 ∧ p1 ≤ a1) (h2 : b0 ≤ q0 ∧ q1 ≤ b1) : cLo a0 a1 b0 b1 ≤ cLo p0 p1 q0 q1 ∧ cHi p0 p1 q0 q1 ≤ cHi a0 a1 b0 b1 := by
  have hle := comb_le hp hq
  obtain ⟨m, k, h⟩ := (mem_comb hp hq _).1 ⟨Int.le_refl _, hle⟩
  obtain ⟨m', k', h'⟩ := (mem_comb hp hq _).1 ⟨hle, Int.le_refl _⟩
  have := (mem_comb (a0 := a0) (a1 := a1) (b0 := b0) (b1 := b1) (by omega) (by omega) _).2 ⟨m, k, by omega, by omega, by omega, by omega, h.2.2.2.2⟩
  have := (mem_comb (a0 := a0) (a1 := a1) (b0 := b0) (b1 := b1) (by omega) (by omega) _).2 ⟨m', k', by omega, by omega, by omega, by omega, h'.2.2.2.2⟩
  omega
end Go.Proofs.YtjfhhlbgiepkpaaDoor
