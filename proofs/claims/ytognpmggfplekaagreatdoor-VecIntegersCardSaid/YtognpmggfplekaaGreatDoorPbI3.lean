/-
  The bits of integers of 64 bits, and of vectors. Mathematics, no conditions.
-/
import Derived.Test.YtognpmggfplekaaGreatDoorPbI2
set_option maxRecDepth 100000
namespace Go.Proofs.YtognpmggfplekaaGreatDoor
open Go Go.RowKit

theorem emod_pow {n m : Nat} (h : n ≤ m) (z : Int) : z % (2 : Int) ^ m % (2 : Int) ^ n = z % (2 : Int) ^ n := by
  refine Int.emod_emod_of_dvd z ⟨(2 : Int) ^ (m - n), ?_⟩
  rw [← Int.pow_add]
  congr 1
  omega
theorem fi_wrap {n : Nat} (h : n ≤ 64) (z : Int) : B.fi (IntKind.i64.wrap z) n = B.fi z n := by
  have e : IntKind.i64.wrap z = z % (2 : Int) ^ 64 ∨ IntKind.i64.wrap z = z % (2 : Int) ^ 64 - (2 : Int) ^ 64 := by
    unfold IntKind.wrap
    exact (Decidable.em _).symm.imp (fun h => if_neg h) (fun h => if_pos h)
  have d : (2 : Int) ^ 64 % (2 : Int) ^ n = 0 := Int.emod_eq_zero_of_dvd ⟨(2 : Int) ^ (64 - n), by rw [← Int.pow_add]; congr 1; omega⟩
  unfold B.fi
  rcases e with e | e
  · rw [e, emod_pow h]
  · rw [e, Int.sub_emod, d, Int.sub_zero, Int.emod_emod, emod_pow h]
theorem ofInt_nat (z : Int) : (BitVec.ofInt 64 z).toNat = B.fi z 64 := by
  rw [BitVec.toNat_ofInt]
  unfold B.fi
  congr 1
theorem fi_mod {n : Nat} (h : n ≤ 64) (z : Int) : B.fi z 64 % 2 ^ n = B.fi z n := by
  refine fi_of (Nat.mod_lt _ (pow_p n)) ?_
  rw [Int.natCast_emod, fi_cast, p2i, emod_pow h, Int.emod_emod]
theorem fi_natm {n : Nat} (x : Nat) : B.fi (x : Int) n = x % 2 ^ n := by
  symm
  refine fi_of (Nat.mod_lt _ (pow_p n)) ?_
  rw [Int.natCast_emod, p2i, Int.emod_emod]
theorem fi_and {n : Nat} (h : n ≤ 64) (i k : Int) : B.fi (bits .and .i64 i k) n = B.fi i n &&& B.fi k n := by
  show B.fi (IntKind.i64.wrap ((BitVec.ofInt 64 i &&& BitVec.ofInt 64 k).toNat : Int)) n = _
  rw [fi_wrap h, fi_natm, BitVec.toNat_and, ofInt_nat, ofInt_nat, Nat.and_mod_two_pow, fi_mod h, fi_mod h]
theorem fi_or {n : Nat} (h : n ≤ 64) (i k : Int) : B.fi (bits .or .i64 i k) n = B.fi i n ||| B.fi k n := by
  show B.fi (IntKind.i64.wrap ((BitVec.ofInt 64 i ||| BitVec.ofInt 64 k).toNat : Int)) n = _
  rw [fi_wrap h, fi_natm, BitVec.toNat_or, ofInt_nat, ofInt_nat, Nat.or_mod_two_pow, fi_mod h, fi_mod h]
theorem fi_xor {n : Nat} (h : n ≤ 64) (i k : Int) : B.fi (bits .xor .i64 i k) n = B.fi i n ^^^ B.fi k n := by
  show B.fi (IntKind.i64.wrap ((BitVec.ofInt 64 i ^^^ BitVec.ofInt 64 k).toNat : Int)) n = _
  rw [fi_wrap h, fi_natm, BitVec.toNat_xor, ofInt_nat, ofInt_nat, Nat.xor_mod_two_pow, fi_mod h, fi_mod h]
theorem fi_m1 (n : Nat) : B.fi (-1) n = 2 ^ n - 1 := by
  symm
  have hp := pow_p n
  refine fi_of (by omega) ?_
  have : ((2 ^ n - 1 : Nat) : Int) = -1 + (2 : Int) ^ n := by rw [← p2i]; omega
  rw [this, Int.add_emod_right]
theorem bw_int {f : Int → Int → Int} {g : Bool → Bool → Bool} {G : Nat → Nat → Nat} (hf : ∀ p q : Bool, f (fromI p) (fromI q) = fromI (g p q)) {a b : V}
    (hG : ∀ x y j, j < balN a b → (G x y).testBit j = g (x.testBit j) (y.testBit j))
     (ha : okB a.l = true) (hb : okB b.l = true) (ka : knL a.l = true) (kb : knL b.l = true) :
    bwV f a b = ⟨frN (balN a b) (G (B.fi (bvl (a.s && b.s) a.l) (balN a b)) (B.fi (bvl (a.s && b.s) b.l) (balN a b))), a.s && b.s⟩ := by
  obtain ⟨e1, _, k1, k2, n1, n2⟩ := bal_nums ha hb ka kb
  obtain ⟨_, _, _, _, l1, l2⟩ := bal_vals ha hb
  unfold bwV
  rw [e1]
  congr 1
  unfold frN
  refine tab_congr fun j hj => ?_
  rw [← n1, ← n2, hG _ _ j hj, num_bit, num_bit, ← hf]
  have t1 : ∀ {l : List Int}, knL l = true → j < l.length → nth l j = fromI (nth l j == 1) := fun {l} h hl => by
    rcases knL_iff.1 h j hl with e | e <;> rw [e] <;> rfl
  rw [← t1 k1 (by omega), ← t1 k2 (by omega)]
theorem and_int {a b : V} (ha : okB a.l = true) (hb : okB b.l = true) (ka : knL a.l = true) (kb : knL b.l = true) (h : balN a b ≤ 64) :
    bwV andI a b = ⟨frN (balN a b) (B.fi (bits .and .i64 (bvl (a.s && b.s) a.l) (bvl (a.s && b.s) b.l)) (balN a b)), a.s && b.s⟩ := by
  rw [fi_and h]
  exact bw_int (g := fun p q => p && q) (G := fun x y => x &&& y) (by decide) (fun x y j _ => Nat.testBit_and x y j) ha hb ka kb
theorem or_int {a b : V} (ha : okB a.l = true) (hb : okB b.l = true) (ka : knL a.l = true) (kb : knL b.l = true) (h : balN a b ≤ 64) :
    bwV orI a b = ⟨frN (balN a b) (B.fi (bits .or .i64 (bvl (a.s && b.s) a.l) (bvl (a.s && b.s) b.l)) (balN a b)), a.s && b.s⟩ := by
  rw [fi_or h]
  exact bw_int (g := fun p q => p || q) (G := fun x y => x ||| y) (by decide) (fun x y j _ => Nat.testBit_or x y j) ha hb ka kb
theorem xor_int {a b : V} (ha : okB a.l = true) (hb : okB b.l = true) (ka : knL a.l = true) (kb : knL b.l = true) (h : balN a b ≤ 64) :
    bwV xorI a b = ⟨frN (balN a b) (B.fi (bits .xor .i64 (bvl (a.s && b.s) a.l) (bvl (a.s && b.s) b.l)) (balN a b)), a.s && b.s⟩ := by
  rw [fi_xor h]
  exact bw_int (g := fun p q => p != q) (G := fun x y => x ^^^ y) (by decide) (fun x y j _ => Nat.testBit_xor x y j) ha hb ka kb
theorem xnor_int {a b : V} (ha : okB a.l = true) (hb : okB b.l = true) (ka : knL a.l = true) (kb : knL b.l = true) (h : balN a b ≤ 64) :
    bwV eqI a b = ⟨frN (balN a b) (B.fi (bits .xor .i64 (-1) (bits .xor .i64 (bvl (a.s && b.s) a.l) (bvl (a.s && b.s) b.l))) (balN a b)), a.s && b.s⟩ := by
  rw [fi_xor h, fi_xor h, fi_m1]
  refine (bw_int (g := fun p q => p == q) (G := fun x y => (2 ^ balN a b - 1) ^^^ (x ^^^ y)) (by decide) (fun x y j hj => ?_) ha hb ka kb)
  rw [Nat.testBit_xor, Nat.testBit_xor, Nat.testBit_two_pow_sub_one, decide_eq_true hj]
  cases x.testBit j <;> cases y.testBit j <;> rfl
end Go.Proofs.YtognpmggfplekaaGreatDoor
