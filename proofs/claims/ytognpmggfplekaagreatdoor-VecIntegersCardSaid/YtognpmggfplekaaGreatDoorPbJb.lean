/-
  The calls of VecIntegers by the operands' integers. Conditions: those of 'Two': two known vectors of at most 31 bits.
-/
import Derived.Test.YtognpmggfplekaaGreatDoorPbI9
set_option maxRecDepth 100000
namespace Go.Proofs.YtognpmggfplekaaGreatDoor
open Go Go.RowKit

structure Two (sa sb S : Bool) (la lb : List Int) (na nb W : Nat) (i k own : Int) (am : Nat) : Prop where
  ha : okB la = true
  hb : okB lb = true
  ka : knL la = true
  kb : knL lb = true
  ea : la.length = na
  eb : lb.length = nb
  a1 : 1 ≤ na
  a2 : na ≤ 31
  b1 : 1 ≤ nb
  b2 : nb ≤ 31
  eS : (sa && sb) = S
  eW : max na nb = W
  ei : bvl S la = i
  ek : bvl S lb = k
  eo : bvl sa la = own
  em : bvl false lb = am
section
variable {sa sb S : Bool} {la lb : List Int} {na nb W : Nat} {i k own : Int} {am : Nat}
theorem Two.bal (T : Two sa sb S la lb na nb W i k own am) : balN ⟨la, sa⟩ ⟨lb, sb⟩ = W := by
  have := (bal_nums (a := ⟨la, sa⟩) (b := ⟨lb, sb⟩) T.ha T.hb T.ka T.kb).2.1
  rw [this, ← T.eW]
  show max la.length lb.length = _
  rw [T.ea, T.eb]
theorem Two.wle (T : Two sa sb S la lb na nb W i k own am) : 1 ≤ W ∧ W ≤ 31 := by
  have := T.eW; have := T.a1; have := T.a2; have := T.b1; have := T.b2
  omega
theorem Two.bds (T : Two sa sb S la lb na nb W i k own am) : (-2147483648 ≤ i ∧ i < 2147483648) ∧ (-2147483648 ≤ k ∧ k < 2147483648) ∧ (-2147483648 ≤ own ∧ own < 2147483648) ∧ am < 2147483648 := by
  have e1 := bvl_bd (l := la) S (by rw [T.ea]; exact T.a2)
  have e2 := bvl_bd (l := lb) S (by rw [T.eb]; exact T.b2)
  have e3 := bvl_bd (l := la) sa (by rw [T.ea]; exact T.a2)
  have e4 := bvl_bd (l := lb) false (by rw [T.eb]; exact T.b2)
  rw [T.ei] at e1
  rw [T.ek] at e2
  rw [T.eo] at e3
  rw [T.em] at e4
  exact ⟨e1, e2, e3, by omega⟩
theorem Two.seven (T : Two sa sb S la lb na nb W i k own am) :
    arV fAdd ⟨la, sa⟩ ⟨lb, sb⟩ = wI W S (i + k) ∧ arV fSub ⟨la, sa⟩ ⟨lb, sb⟩ = wI W S (i - k) ∧ arV fMul ⟨la, sa⟩ ⟨lb, sb⟩ = wI W S (i * k) ∧
    bwV andI ⟨la, sa⟩ ⟨lb, sb⟩ = wI W S (bits .and .i64 i k) ∧ bwV orI ⟨la, sa⟩ ⟨lb, sb⟩ = wI W S (bits .or .i64 i k) ∧
    bwV xorI ⟨la, sa⟩ ⟨lb, sb⟩ = wI W S (bits .xor .i64 i k) ∧ bwV eqI ⟨la, sa⟩ ⟨lb, sb⟩ = wI W S (bits .xor .i64 (-1) (bits .xor .i64 i k)) := by
  have h := Go.Proofs.YtognpmggfplekaaGreatDoor.seven (a := ⟨la, sa⟩) (b := ⟨lb, sb⟩) T.ha T.hb T.ka T.kb (by rw [T.bal]; have := T.wle; omega) (i := i) (k := k) (by rw [← T.ei, ← T.eS]) (by rw [← T.ek, ← T.eS])
  rw [T.bal] at h
  have e : (((⟨la, sa⟩ : V).s && (⟨lb, sb⟩ : V).s)) = S := T.eS
  rw [e] at h
  exact h
theorem Two.ten (T : Two sa sb S la lb na nb W i k own am) :
    cmpV pLt ⟨la, sa⟩ ⟨lb, sb⟩ = fromI (decide (i < k)) ∧ cmpV pLe ⟨la, sa⟩ ⟨lb, sb⟩ = fromI (decide (i ≤ k)) ∧ cmpV pGt ⟨la, sa⟩ ⟨lb, sb⟩ = fromI (decide (k < i)) ∧ cmpV pGe ⟨la, sa⟩ ⟨lb, sb⟩ = fromI (decide (k ≤ i)) ∧
    eqV ⟨la, sa⟩ ⟨lb, sb⟩ = fromI (decide (i = k)) ∧ notI (eqV ⟨la, sa⟩ ⟨lb, sb⟩) = fromI (!decide (i = k)) ∧ fromI (mtB noW ⟨la, sa⟩ ⟨lb, sb⟩) = fromI (decide (i = k)) ∧
    andI (truth ⟨la, sa⟩) (truth ⟨lb, sb⟩) = fromI (!decide (i = 0) && !decide (k = 0)) ∧ orI (truth ⟨la, sa⟩) (truth ⟨lb, sb⟩) = fromI (!decide (i = 0) || !decide (k = 0)) ∧ notI (truth ⟨la, sa⟩) = fromI (decide (i = 0)) :=
  Go.Proofs.YtognpmggfplekaaGreatDoor.ten (a := ⟨la, sa⟩) (b := ⟨lb, sb⟩) T.ha T.hb T.ka T.kb (by rw [← T.ei, ← T.eS]) (by rw [← T.ek, ← T.eS])
theorem Two.quo (T : Two sa sb S la lb na nb W i k own am) (hk : k ≠ 0) : divV true ⟨la, sa⟩ ⟨lb, sb⟩ = wI W S (i.tdiv k) ∧ divV false ⟨la, sa⟩ ⟨lb, sb⟩ = wI W S (i.tmod k) := by
  have e : (((⟨la, sa⟩ : V).s && (⟨lb, sb⟩ : V).s)) = S := T.eS
  have h := div_int (a := ⟨la, sa⟩) (b := ⟨lb, sb⟩) T.ha T.hb T.ka T.kb (by rw [e, T.ek]; exact hk)
  rw [T.bal, e, T.ei, T.ek] at h
  exact h
theorem Two.zero (T : Two sa sb S la lb na nb W i k own am) (hk : k = 0) (f : Bool) : divV f ⟨la, sa⟩ ⟨lb, sb⟩ = allV 2 W S := by
  have e : (((⟨la, sa⟩ : V).s && (⟨lb, sb⟩ : V).s)) = S := T.eS
  have h := div_zero (a := ⟨la, sa⟩) (b := ⟨lb, sb⟩) T.ha T.hb T.ka T.kb (by rw [e, T.ek]; exact hk) f
  rw [T.bal, e] at h
  exact h
theorem Two.numb (T : Two sa sb S la lb na nb W i k own am) : num lb = am := by
  have := T.em
  unfold bvl zvS at this
  simp only [Bool.false_eq_true, if_false] at this
  omega
theorem Two.shl_eq (T : Two sa sb S la lb na nb W i k own am) : shV frL 0 ⟨la, sa⟩ ⟨lb, sb⟩ = wI na sa (IntKind.i64.wrap (own * ((2 ^ am : Nat) : Int))) := by
  have h := shl_int (a := ⟨la, sa⟩) (b := ⟨lb, sb⟩) T.ha T.hb T.ka T.kb (by show la.length ≤ 64; rw [T.ea]; have := T.a2; omega)
  rw [h]
  simp only [T.ea, T.eo, T.numb]
  rfl
theorem Two.shr_eq (T : Two sa sb S la lb na nb W i k own am) : shV frR (fill (nrm ⟨la, sa⟩)) ⟨la, sa⟩ ⟨lb, sb⟩ = wI na sa (own / (2 : Int) ^ am) := by
  have h := shr_int (a := ⟨la, sa⟩) (b := ⟨lb, sb⟩) T.ha T.hb T.ka T.kb
  rw [h]
  simp only [T.ea, T.eo, T.numb]
  rfl
theorem Two.neg_eq (T : Two sa sb S la lb na nb W i k own am) : negV ⟨la, sa⟩ = wI na sa (-own) := by
  have h := neg_int (v := ⟨la, sa⟩) T.ha T.ka
  rw [h]
  simp only [T.ea, T.eo]
  rfl
theorem Two.add (T : Two sa sb S la lb na nb W i k own am) (A Y : Option Addr) (c d : Nat) (u : World) (h : Rb u A na la) (h' : Rb u Y nb lb) (_TT : Tabs u) (_hc : na ≤ c) (_hd : nb ≤ d) : Calls Tryz.prog 56 #[.agg #[.slice A na c, .bool sa], .agg #[.slice Y nb d, .bool sb]] u (RetW u (wI W S (i + k))) := by
  have := vAdd_any_w A Y na nb c d sa sb la lb u h h'
  rw [T.seven.1] at this
  exact this
theorem Two.sub (T : Two sa sb S la lb na nb W i k own am) (A Y : Option Addr) (c d : Nat) (u : World) (h : Rb u A na la) (h' : Rb u Y nb lb) (_TT : Tabs u) (_hc : na ≤ c) (_hd : nb ≤ d) : Calls Tryz.prog 86 #[.agg #[.slice A na c, .bool sa], .agg #[.slice Y nb d, .bool sb]] u (RetW u (wI W S (i - k))) := by
  have := vSub_any_w A Y na nb c d sa sb la lb u h h'
  rw [T.seven.2.1] at this
  exact this
theorem Two.mul (T : Two sa sb S la lb na nb W i k own am) (A Y : Option Addr) (c d : Nat) (u : World) (h : Rb u A na la) (h' : Rb u Y nb lb) (_TT : Tabs u) (_hc : na ≤ c) (_hd : nb ≤ d) : Calls Tryz.prog 87 #[.agg #[.slice A na c, .bool sa], .agg #[.slice Y nb d, .bool sb]] u (RetW u (wI W S (i * k))) := by
  have := vMul_any_w A Y na nb c d sa sb la lb u h h'
  rw [T.seven.2.2.1] at this
  exact this
theorem Two.and (T : Two sa sb S la lb na nb W i k own am) (A Y : Option Addr) (c d : Nat) (u : World) (h : Rb u A na la) (h' : Rb u Y nb lb) (TT : Tabs u) (_hc : na ≤ c) (_hd : nb ≤ d) : Calls Tryz.prog 88 #[.agg #[.slice A na c, .bool sa], .agg #[.slice Y nb d, .bool sb]] u (RetW u (wI W S (bits .and .i64 i k))) := by
  have := vAnd_any_w A Y na nb c d sa sb la lb u h h' TT
  rw [T.seven.2.2.2.1] at this
  exact this
theorem Two.or (T : Two sa sb S la lb na nb W i k own am) (A Y : Option Addr) (c d : Nat) (u : World) (h : Rb u A na la) (h' : Rb u Y nb lb) (TT : Tabs u) (_hc : na ≤ c) (_hd : nb ≤ d) : Calls Tryz.prog 57 #[.agg #[.slice A na c, .bool sa], .agg #[.slice Y nb d, .bool sb]] u (RetW u (wI W S (bits .or .i64 i k))) := by
  have := vOr_any_w A Y na nb c d sa sb la lb u h h' TT
  rw [T.seven.2.2.2.2.1] at this
  exact this
theorem Two.xor (T : Two sa sb S la lb na nb W i k own am) (A Y : Option Addr) (c d : Nat) (u : World) (h : Rb u A na la) (h' : Rb u Y nb lb) (TT : Tabs u) (_hc : na ≤ c) (_hd : nb ≤ d) : Calls Tryz.prog 89 #[.agg #[.slice A na c, .bool sa], .agg #[.slice Y nb d, .bool sb]] u (RetW u (wI W S (bits .xor .i64 i k))) := by
  have := vXor_any_w A Y na nb c d sa sb la lb u h h' TT
  rw [T.seven.2.2.2.2.2.1] at this
  exact this
theorem Two.xnor (T : Two sa sb S la lb na nb W i k own am) (A Y : Option Addr) (c d : Nat) (u : World) (h : Rb u A na la) (h' : Rb u Y nb lb) (TT : Tabs u) (_hc : na ≤ c) (_hd : nb ≤ d) : Calls Tryz.prog 90 #[.agg #[.slice A na c, .bool sa], .agg #[.slice Y nb d, .bool sb]] u (RetW u (wI W S (bits .xor .i64 (-1) (bits .xor .i64 i k)))) := by
  have := vXnor_any_w A Y na nb c d sa sb la lb u h h' TT
  rw [T.seven.2.2.2.2.2.2] at this
  exact this
theorem Two.div (T : Two sa sb S la lb na nb W i k own am) (hk : k ≠ 0) (A Y : Option Addr) (c d : Nat) (u : World) (h : Rb u A na la) (h' : Rb u Y nb lb) (_TT : Tabs u) (_hc : na ≤ c) (_hd : nb ≤ d) : Calls Tryz.prog 58 #[.agg #[.slice A na c, .bool sa], .agg #[.slice Y nb d, .bool sb]] u (RetW u (wI W S (i.tdiv k))) := by
  have := vDiv_any_w A Y na nb c d sa sb la lb u h h'
  rw [(T.quo hk).1] at this
  exact this
theorem Two.mod (T : Two sa sb S la lb na nb W i k own am) (hk : k ≠ 0) (A Y : Option Addr) (c d : Nat) (u : World) (h : Rb u A na la) (h' : Rb u Y nb lb) (_TT : Tabs u) (_hc : na ≤ c) (_hd : nb ≤ d) : Calls Tryz.prog 60 #[.agg #[.slice A na c, .bool sa], .agg #[.slice Y nb d, .bool sb]] u (RetW u (wI W S (i.tmod k))) := by
  have := vMod_any_w A Y na nb c d sa sb la lb u h h'
  rw [(T.quo hk).2] at this
  exact this
theorem Two.div0 (T : Two sa sb S la lb na nb W i k own am) (hk : k = 0) (A Y : Option Addr) (c d : Nat) (u : World) (h : Rb u A na la) (h' : Rb u Y nb lb) (_TT : Tabs u) (_hc : na ≤ c) (_hd : nb ≤ d) : Calls Tryz.prog 58 #[.agg #[.slice A na c, .bool sa], .agg #[.slice Y nb d, .bool sb]] u (RetW u (allV 2 W S)) := by
  have := vDiv_any_w A Y na nb c d sa sb la lb u h h'
  rw [T.zero hk true] at this
  exact this
theorem Two.mod0 (T : Two sa sb S la lb na nb W i k own am) (hk : k = 0) (A Y : Option Addr) (c d : Nat) (u : World) (h : Rb u A na la) (h' : Rb u Y nb lb) (_TT : Tabs u) (_hc : na ≤ c) (_hd : nb ≤ d) : Calls Tryz.prog 60 #[.agg #[.slice A na c, .bool sa], .agg #[.slice Y nb d, .bool sb]] u (RetW u (allV 2 W S)) := by
  have := vMod_any_w A Y na nb c d sa sb la lb u h h'
  rw [T.zero hk false] at this
  exact this
theorem Two.lt (T : Two sa sb S la lb na nb W i k own am) (A Y : Option Addr) (c d : Nat) (u : World) (h : Rb u A na la) (h' : Rb u Y nb lb) (_TT : Tabs u) (_hc : na ≤ c) (_hd : nb ≤ d) : Calls Tryz.prog 76 #[.agg #[.slice A na c, .bool sa], .agg #[.slice Y nb d, .bool sb]] u (RetW u (one1 (fromI (decide (i < k))))) := by
  have := vLt_any_w A Y na nb c d sa sb la lb u h h'
  rw [T.ten.1] at this
  exact this
theorem Two.le (T : Two sa sb S la lb na nb W i k own am) (A Y : Option Addr) (c d : Nat) (u : World) (h : Rb u A na la) (h' : Rb u Y nb lb) (_TT : Tabs u) (_hc : na ≤ c) (_hd : nb ≤ d) : Calls Tryz.prog 78 #[.agg #[.slice A na c, .bool sa], .agg #[.slice Y nb d, .bool sb]] u (RetW u (one1 (fromI (decide (i ≤ k))))) := by
  have := vLe_any_w A Y na nb c d sa sb la lb u h h'
  rw [T.ten.2.1] at this
  exact this
theorem Two.gt (T : Two sa sb S la lb na nb W i k own am) (A Y : Option Addr) (c d : Nat) (u : World) (h : Rb u A na la) (h' : Rb u Y nb lb) (_TT : Tabs u) (_hc : na ≤ c) (_hd : nb ≤ d) : Calls Tryz.prog 79 #[.agg #[.slice A na c, .bool sa], .agg #[.slice Y nb d, .bool sb]] u (RetW u (one1 (fromI (decide (k < i))))) := by
  have := vGt_any_w A Y na nb c d sa sb la lb u h h'
  rw [T.ten.2.2.1] at this
  exact this
theorem Two.ge (T : Two sa sb S la lb na nb W i k own am) (A Y : Option Addr) (c d : Nat) (u : World) (h : Rb u A na la) (h' : Rb u Y nb lb) (_TT : Tabs u) (_hc : na ≤ c) (_hd : nb ≤ d) : Calls Tryz.prog 77 #[.agg #[.slice A na c, .bool sa], .agg #[.slice Y nb d, .bool sb]] u (RetW u (one1 (fromI (decide (k ≤ i))))) := by
  have := vGe_any_w A Y na nb c d sa sb la lb u h h'
  rw [T.ten.2.2.2.1] at this
  exact this
theorem Two.eq (T : Two sa sb S la lb na nb W i k own am) (A Y : Option Addr) (c d : Nat) (u : World) (h : Rb u A na la) (h' : Rb u Y nb lb) (TT : Tabs u) (_hc : na ≤ c) (_hd : nb ≤ d) : Calls Tryz.prog 91 #[.agg #[.slice A na c, .bool sa], .agg #[.slice Y nb d, .bool sb]] u (RetW u (one1 (fromI (decide (i = k))))) := by
  have := eq_v_w A Y na nb c d sa sb la lb u h h' TT
  rw [T.ten.2.2.2.2.1] at this
  exact this
theorem Two.ne (T : Two sa sb S la lb na nb W i k own am) (A Y : Option Addr) (c d : Nat) (u : World) (h : Rb u A na la) (h' : Rb u Y nb lb) (TT : Tabs u) (_hc : na ≤ c) (_hd : nb ≤ d) : Calls Tryz.prog 80 #[.agg #[.slice A na c, .bool sa], .agg #[.slice Y nb d, .bool sb]] u (RetW u (one1 (fromI (!decide (i = k))))) := by
  have := ne_v_w A Y na nb c d sa sb la lb u h h' TT
  rw [T.ten.2.2.2.2.2.1] at this
  exact this
theorem Two.ceq (T : Two sa sb S la lb na nb W i k own am) (A Y : Option Addr) (c d : Nat) (u : World) (h : Rb u A na la) (h' : Rb u Y nb lb) (_TT : Tabs u) (_hc : na ≤ c) (_hd : nb ≤ d) : Calls Tryz.prog 81 #[.agg #[.slice A na c, .bool sa], .agg #[.slice Y nb d, .bool sb]] u (RetW u (one1 (fromI (decide (i = k))))) := by
  have := caseEq_any_w A Y na nb c d sa sb la lb u h h'
  rw [T.ten.2.2.2.2.2.2.1] at this
  exact this
theorem Two.land (T : Two sa sb S la lb na nb W i k own am) (A Y : Option Addr) (c d : Nat) (u : World) (h : Rb u A na la) (h' : Rb u Y nb lb) (TT : Tabs u) (hc : na ≤ c) (hd : nb ≤ d) : Calls Tryz.prog 73 #[.agg #[.slice A na c, .bool sa], .agg #[.slice Y nb d, .bool sb]] u (RetW u (one1 (fromI (!decide (i = 0) && !decide (k = 0))))) := by
  have := LAnd_any_w A Y na nb c d sa sb la lb u h h' hc hd TT
  rw [T.ten.2.2.2.2.2.2.2.1] at this
  exact this
theorem Two.lor (T : Two sa sb S la lb na nb W i k own am) (A Y : Option Addr) (c d : Nat) (u : World) (h : Rb u A na la) (h' : Rb u Y nb lb) (TT : Tabs u) (hc : na ≤ c) (hd : nb ≤ d) : Calls Tryz.prog 74 #[.agg #[.slice A na c, .bool sa], .agg #[.slice Y nb d, .bool sb]] u (RetW u (one1 (fromI (!decide (i = 0) || !decide (k = 0))))) := by
  have := LOr_any_w A Y na nb c d sa sb la lb u h h' hc hd TT
  rw [T.ten.2.2.2.2.2.2.2.2.1] at this
  exact this
theorem Two.shl (T : Two sa sb S la lb na nb W i k own am) (A Y : Option Addr) (c d : Nat) (u : World) (h : Rb u A na la) (h' : Rb u Y nb lb) (_TT : Tabs u) (_hc : na ≤ c) (_hd : nb ≤ d) : Calls Tryz.prog 62 #[.agg #[.slice A na c, .bool sa], .agg #[.slice Y nb d, .bool sb]] u (RetW u (wI na sa (IntKind.i64.wrap (own * ((2 ^ am : Nat) : Int))))) := by
  have := vShl_any_w A Y na nb c d sa sb la lb u h h'
  rw [T.shl_eq] at this
  exact this
theorem Two.ashr (T : Two sa sb S la lb na nb W i k own am) (A Y : Option Addr) (c d : Nat) (u : World) (h : Rb u A na la) (h' : Rb u Y nb lb) (_TT : Tabs u) (_hc : na ≤ c) (_hd : nb ≤ d) : Calls Tryz.prog 64 #[.agg #[.slice A na c, .bool sa], .agg #[.slice Y nb d, .bool sb]] u (RetW u (wI na sa (own / (2 : Int) ^ am))) := by
  have := vAShr_any_w A Y na nb c d sa sb la lb u h h'
  rw [T.shr_eq] at this
  exact this
theorem Two.lnot (T : Two sa sb S la lb na nb W i k own am) (A : Option Addr) (c : Nat) (u : World) (h : Rb u A na la) (TT : Tabs u) (hc : na ≤ c) : Calls Tryz.prog 72 #[.agg #[.slice A na c, .bool sa]] u (RetW u (one1 (fromI (decide (i = 0))))) := by
  have := lnot_any_w A na c sa la u h hc TT
  rw [T.ten.2.2.2.2.2.2.2.2.2] at this
  exact this
theorem Two.neg (T : Two sa sb S la lb na nb W i k own am) (A : Option Addr) (c : Nat) (u : World) (h : Rb u A na la) : Calls Tryz.prog 75 #[.agg #[.slice A na c, .bool sa]] u (RetW u (wI na sa (-own))) := by
  have := neg_v_w A na c sa la u h
  rw [T.neg_eq] at this
  exact this
theorem Two.wa (T : Two sa sb S la lb na nb W i k own am) (A : Option Addr) (c : Nat) (u : World) (h : Rb u A na la) : Calls Tryz.prog 26 #[.agg #[.slice A na c, .bool sa], .bool S] u (RetW u ⟨la, S⟩) := by
  have := withSign_any_w A na c sa S la u h
  rw [nrm_of (show okB (V.mk la sa).l = true from T.ha)] at this
  exact this
theorem Two.wb (T : Two sa sb S la lb na nb W i k own am) (A : Option Addr) (c : Nat) (u : World) (h : Rb u A nb lb) : Calls Tryz.prog 26 #[.agg #[.slice A nb c, .bool sb], .bool S] u (RetW u ⟨lb, S⟩) := by
  have := withSign_any_w A nb c sb S lb u h
  rw [nrm_of (show okB (V.mk lb sb).l = true from T.hb)] at this
  exact this
theorem Two.wu (T : Two sa sb S la lb na nb W i k own am) (A : Option Addr) (c : Nat) (u : World) (h : Rb u A nb lb) : Calls Tryz.prog 26 #[.agg #[.slice A nb c, .bool sb], .bool false] u (RetW u ⟨lb, false⟩) := by
  have := withSign_any_w A nb c sb false lb u h
  rw [nrm_of (show okB (V.mk lb sb).l = true from T.hb)] at this
  exact this
theorem Two.ia (T : Two sa sb S la lb na nb W i k own am) (A : Option Addr) (c : Nat) (u : World) (h : Rb u A na la) : Calls Tryz.prog 24 #[.agg #[.slice A na c, .bool S]] u fun e w' => e = .returned (.tuple #[.int .i64 i, .bool true]) ∧ Below u.heap.size u w' := by
  have := int_v A na c S la u h
  obtain ⟨e1, e2⟩ := int_short S T.ha T.ka (by rw [T.ea]; exact T.a2)
  rw [e1, e2, T.ei] at this
  exact this
theorem Two.ib (T : Two sa sb S la lb na nb W i k own am) (A : Option Addr) (c : Nat) (u : World) (h : Rb u A nb lb) : Calls Tryz.prog 24 #[.agg #[.slice A nb c, .bool S]] u fun e w' => e = .returned (.tuple #[.int .i64 k, .bool true]) ∧ Below u.heap.size u w' := by
  have := int_v A nb c S lb u h
  obtain ⟨e1, e2⟩ := int_short S T.hb T.kb (by rw [T.eb]; exact T.b2)
  rw [e1, e2, T.ek] at this
  exact this
theorem Two.io (T : Two sa sb S la lb na nb W i k own am) (A : Option Addr) (c : Nat) (u : World) (h : Rb u A na la) : Calls Tryz.prog 24 #[.agg #[.slice A na c, .bool sa]] u fun e w' => e = .returned (.tuple #[.int .i64 own, .bool true]) ∧ Below u.heap.size u w' := by
  have := int_v A na c sa la u h
  obtain ⟨e1, e2⟩ := int_short sa T.ha T.ka (by rw [T.ea]; exact T.a2)
  rw [e1, e2, T.eo] at this
  exact this
theorem Two.iu (T : Two sa sb S la lb na nb W i k own am) (A : Option Addr) (c : Nat) (u : World) (h : Rb u A nb lb) : Calls Tryz.prog 24 #[.agg #[.slice A nb c, .bool false]] u fun e w' => e = .returned (.tuple #[.int .i64 (am : Int), .bool true]) ∧ Below u.heap.size u w' := by
  have := int_v A nb c false lb u h
  obtain ⟨e1, e2⟩ := int_short false T.hb T.kb (by rw [T.eb]; exact T.b2)
  rw [e1, e2, T.em] at this
  exact this
theorem fromI_any (n : Nat) (s : Bool) (h1 : 1 ≤ n) (h2 : n ≤ 31) (z : Int) (hz : -9223372036854775808 ≤ z ∧ z ≤ 9223372036854775807) (u : World) : Calls Tryz.prog 37 #[.int .i64 z, .int .i64 n, .bool s] u (RetX u ⟨(wI n s z).l, s⟩ 0) := by
  have := fromInt_v_w z n s u hz
  obtain ⟨e1, e2⟩ := from_ok (z := z) (m := (n : Int)) s rfl h1 (by omega)
  rw [e1, e2] at this
  exact this
theorem known0 (A : Option Addr) (W c : Nat) (S : Bool) (h1 : 1 ≤ W) (h2 : W ≤ 128) (u : World) (n : Nat) (h : Rb u A n (allV 2 W S).l) : Calls Tryz.prog 31 #[.agg #[.slice A n c, .bool S]] u fun e w' => e = .returned (.bool false) ∧ Below u.heap.size u w' := by
  have := known_v A n c S (allV 2 W S).l u h
  have ok : okB (allV 2 W S).l = true := ok_mk (by rw [len_all]; exact h1) (by rw [len_all]; exact h2) fun i hi => by
    rw [len_all] at hi
    unfold allV
    rw [nth_tab _ hi]; decide
  have e : kn ⟨(allV 2 W S).l, S⟩ = false := by
    unfold kn
    rw [nrm_of (show okB (V.mk (allV 2 W S).l S).l = true from ok)]
    show knL (allV 2 W S).l = false
    cases hk : knL (allV 2 W S).l
    · rfl
    · have := knL_iff.1 hk 0 (by rw [len_all]; exact h1)
      unfold allV at this
      rw [nth_tab _ (by omega)] at this
      rcases this with h | h <;> cases h
  rw [e] at this
  exact this
end
end Go.Proofs.YtognpmggfplekaaGreatDoor
