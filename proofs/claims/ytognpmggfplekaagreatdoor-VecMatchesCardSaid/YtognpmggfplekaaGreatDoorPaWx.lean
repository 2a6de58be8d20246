/-
  The tables of operators of the statements, and what each entry's function returns. Conditions: the tables of package bit read as the program lays them.
-/
import Derived.Test.YtognpmggfplekaaGreatDoorPaW9
import Derived.Laws.EntriesVeiled
set_option maxRecDepth 100000
namespace Go.Proofs.YtognpmggfplekaaGreatDoor
open Go Go.RowKit

def oneOp (i : Nat) : Int := [14, 12, 13, 15, 16, 17, 18, 19, 20].getD i 0
def oneFn (i : Nat) : Nat := [55, 75, 72, 66, 67, 68, 69, 70, 71].getD i 0
def oneV (i : Nat) (a : V) : V := match i with
  | 0 => notV a
  | 1 => negV a
  | 2 => one1 (notI (truth a))
  | 3 => one1 (red andI a)
  | 4 => one1 (red orI a)
  | 5 => one1 (red xorI a)
  | 6 => one1 (notI (red andI a))
  | 7 => one1 (notI (red orI a))
  | 8 => one1 (notI (red xorI a))
  | _ => a
def oneRow : Array Value := #[.int .u8 14, .func (.func 55) #[] #[], .int .u8 12, .func (.func 75) #[] #[], .int .u8 13, .func (.func 72) #[] #[], .int .u8 15, .func (.func 66) #[] #[], .int .u8 16, .func (.func 67) #[] #[], .int .u8 17, .func (.func 68) #[] #[], .int .u8 18, .func (.func 69) #[] #[], .int .u8 19, .func (.func 70) #[] #[], .int .u8 20, .func (.func 71) #[] #[]]
theorem one_row : ∀ i, i < 9 → oneRow[i * 2]? = some (.int .u8 (oneOp i)) ∧ oneRow[i * 2 + 1]? = some (.func (.func (oneFn i)) #[] #[]) := fun i hi => by
  rcases (show i = 0 ∨ i = 1 ∨ i = 2 ∨ i = 3 ∨ i = 4 ∨ i = 5 ∨ i = 6 ∨ i = 7 ∨ i = 8 by omega) with rfl | rfl | rfl | rfl | rfl | rfl | rfl | rfl | rfl
  all_goals exact ⟨rfl, rfl⟩
set_option maxHeartbeats 2000000 in
theorem ones_any (w : World) : Calls Tryz.prog 15 #[] w fun e w' => e = .returned (.slice (some ⟨w.heap.size, 0, none⟩) 9 9) ∧ w' = w.alloc (.cells oneRow 31) := by
  unfold oneRow
  go_enter Tryz.func15, Tryz.ntmps15
  go_wp2
  go_ret
  exact ⟨rfl, rfl⟩
theorem one_fn (i : Nat) (hi : i < 9) : Ent (oneFn i) ∧ ∀ (A : Option Addr) (n c : Nat) (s : Bool) (l : List Int) (w : World), Rb w A n l → n ≤ c → Tabs w → Calls Tryz.prog (oneFn i) #[.agg #[.slice A n c, .bool s]] w (RetW w (oneV i ⟨l, s⟩)) := by
  rcases (show i = 0 ∨ i = 1 ∨ i = 2 ∨ i = 3 ∨ i = 4 ∨ i = 5 ∨ i = 6 ∨ i = 7 ∨ i = 8 by omega) with rfl | rfl | rfl | rfl | rfl | rfl | rfl | rfl | rfl
  · exact ⟨enters_of Tryz.func55 (by kernel_rfl) rfl, fun A n c s l w h hc TT => by first | exact not_v_w A n c s l w h hc TT | exact not_v_w A n c s l w h TT | exact not_v_w A n c s l w h⟩
  · exact ⟨enters_of Tryz.func75 (by kernel_rfl) rfl, fun A n c s l w h hc TT => by first | exact neg_v_w A n c s l w h hc TT | exact neg_v_w A n c s l w h TT | exact neg_v_w A n c s l w h⟩
  · exact ⟨enters_of Tryz.func72 (by kernel_rfl) rfl, fun A n c s l w h hc TT => by first | exact lnot_any_w A n c s l w h hc TT | exact lnot_any_w A n c s l w h TT | exact lnot_any_w A n c s l w h⟩
  · exact ⟨enters_of Tryz.func66 (by kernel_rfl) rfl, fun A n c s l w h hc TT => by first | exact RedAnd_any_w A n c s l w h hc TT | exact RedAnd_any_w A n c s l w h TT | exact RedAnd_any_w A n c s l w h⟩
  · exact ⟨enters_of Tryz.func67 (by kernel_rfl) rfl, fun A n c s l w h hc TT => by first | exact RedOr_any_w A n c s l w h hc TT | exact RedOr_any_w A n c s l w h TT | exact RedOr_any_w A n c s l w h⟩
  · exact ⟨enters_of Tryz.func68 (by kernel_rfl) rfl, fun A n c s l w h hc TT => by first | exact RedXor_any_w A n c s l w h hc TT | exact RedXor_any_w A n c s l w h TT | exact RedXor_any_w A n c s l w h⟩
  · exact ⟨enters_of Tryz.func69 (by kernel_rfl) rfl, fun A n c s l w h hc TT => by first | exact RedNand_any_w A n c s l w h hc TT | exact RedNand_any_w A n c s l w h TT | exact RedNand_any_w A n c s l w h⟩
  · exact ⟨enters_of Tryz.func70 (by kernel_rfl) rfl, fun A n c s l w h hc TT => by first | exact RedNor_any_w A n c s l w h hc TT | exact RedNor_any_w A n c s l w h TT | exact RedNor_any_w A n c s l w h⟩
  · exact ⟨enters_of Tryz.func71 (by kernel_rfl) rfl, fun A n c s l w h hc TT => by first | exact RedXnor_any_w A n c s l w h hc TT | exact RedXnor_any_w A n c s l w h TT | exact RedXnor_any_w A n c s l w h⟩
def twoOp (i : Nat) : Int := [37, 38, 39, 40, 21, 22, 23, 24, 25, 26, 27, 28, 31, 32, 33, 34, 35, 36, 41, 42, 43, 44, 29, 30].getD i 0
def twoFn (i : Nat) : Nat := [88, 57, 89, 90, 56, 86, 87, 58, 60, 61, 91, 80, 76, 78, 79, 77, 73, 74, 62, 63, 65, 64, 81, 82].getD i 0
def twoV (i : Nat) (a b : V) : V := match i with
  | 0 => bwV andI a b
  | 1 => bwV orI a b
  | 2 => bwV xorI a b
  | 3 => bwV eqI a b
  | 4 => arV fAdd a b
  | 5 => arV fSub a b
  | 6 => arV fMul a b
  | 7 => divV true a b
  | 8 => divV false a b
  | 9 => powV a b
  | 10 => one1 (eqV a b)
  | 11 => one1 (notI (eqV a b))
  | 12 => one1 (cmpV pLt a b)
  | 13 => one1 (cmpV pLe a b)
  | 14 => one1 (cmpV pGt a b)
  | 15 => one1 (cmpV pGe a b)
  | 16 => one1 (andI (truth a) (truth b))
  | 17 => one1 (orI (truth a) (truth b))
  | 18 => shV frL 0 a b
  | 19 => shV frR 0 a b
  | 20 => shV frL 0 a b
  | 21 => shV frR (fill (nrm a)) a b
  | 22 => one1 (fromI (mtB noW a b))
  | 23 => one1 (notI (fromI (mtB noW a b)))
  | _ => a
def twoRow : Array Value := #[.int .u8 37, .func (.func 88) #[] #[], .int .u8 38, .func (.func 57) #[] #[], .int .u8 39, .func (.func 89) #[] #[], .int .u8 40, .func (.func 90) #[] #[], .int .u8 21, .func (.func 56) #[] #[], .int .u8 22, .func (.func 86) #[] #[], .int .u8 23, .func (.func 87) #[] #[], .int .u8 24, .func (.func 58) #[] #[], .int .u8 25, .func (.func 60) #[] #[], .int .u8 26, .func (.func 61) #[] #[], .int .u8 27, .func (.func 91) #[] #[], .int .u8 28, .func (.func 80) #[] #[], .int .u8 31, .func (.func 76) #[] #[], .int .u8 32, .func (.func 78) #[] #[], .int .u8 33, .func (.func 79) #[] #[], .int .u8 34, .func (.func 77) #[] #[], .int .u8 35, .func (.func 73) #[] #[], .int .u8 36, .func (.func 74) #[] #[], .int .u8 41, .func (.func 62) #[] #[], .int .u8 42, .func (.func 63) #[] #[], .int .u8 43, .func (.func 65) #[] #[], .int .u8 44, .func (.func 64) #[] #[], .int .u8 29, .func (.func 81) #[] #[], .int .u8 30, .func (.func 82) #[] #[]]
theorem two_row : ∀ i, i < 24 → twoRow[i * 2]? = some (.int .u8 (twoOp i)) ∧ twoRow[i * 2 + 1]? = some (.func (.func (twoFn i)) #[] #[]) := fun i hi => by
  rcases (show i = 0 ∨ i = 1 ∨ i = 2 ∨ i = 3 ∨ i = 4 ∨ i = 5 ∨ i = 6 ∨ i = 7 ∨ i = 8 ∨ i = 9 ∨ i = 10 ∨ i = 11 ∨ i = 12 ∨ i = 13 ∨ i = 14 ∨ i = 15 ∨ i = 16 ∨ i = 17 ∨ i = 18 ∨ i = 19 ∨ i = 20 ∨ i = 21 ∨ i = 22 ∨ i = 23 by omega) with rfl | rfl | rfl | rfl | rfl | rfl | rfl | rfl | rfl | rfl | rfl | rfl | rfl | rfl | rfl | rfl | rfl | rfl | rfl | rfl | rfl | rfl | rfl | rfl
  all_goals exact ⟨rfl, rfl⟩
set_option maxHeartbeats 2000000 in
theorem twos_any (w : World) : Calls Tryz.prog 19 #[] w fun e w' => e = .returned (.slice (some ⟨w.heap.size, 0, none⟩) 24 24) ∧ w' = w.alloc (.cells twoRow 39) := by
  unfold twoRow
  go_enter Tryz.func19, Tryz.ntmps19
  go_wp2
  go_ret
  exact ⟨rfl, rfl⟩
theorem two_fn (i : Nat) (hi : i < 24) : Ent (twoFn i) ∧ ∀ (A Y : Option Addr) (n m c d : Nat) (s t : Bool) (l k : List Int) (w : World), Rb w A n l → Rb w Y m k → n ≤ c → m ≤ d → Tabs w → Calls Tryz.prog (twoFn i) #[.agg #[.slice A n c, .bool s], .agg #[.slice Y m d, .bool t]] w (RetW w (twoV i ⟨l, s⟩ ⟨k, t⟩)) := by
  rcases (show i = 0 ∨ i = 1 ∨ i = 2 ∨ i = 3 ∨ i = 4 ∨ i = 5 ∨ i = 6 ∨ i = 7 ∨ i = 8 ∨ i = 9 ∨ i = 10 ∨ i = 11 ∨ i = 12 ∨ i = 13 ∨ i = 14 ∨ i = 15 ∨ i = 16 ∨ i = 17 ∨ i = 18 ∨ i = 19 ∨ i = 20 ∨ i = 21 ∨ i = 22 ∨ i = 23 by omega) with rfl | rfl | rfl | rfl | rfl | rfl | rfl | rfl | rfl | rfl | rfl | rfl | rfl | rfl | rfl | rfl | rfl | rfl | rfl | rfl | rfl | rfl | rfl | rfl
  · exact ⟨enters_of Tryz.func88 (by kernel_rfl) rfl, fun A Y n m c d s t l k w h h' hc hd TT => by first | exact vAnd_any_w A Y n m c d s t l k w h h' hc hd TT | exact vAnd_any_w A Y n m c d s t l k w h h' TT | exact vAnd_any_w A Y n m c d s t l k w h h'⟩
  · exact ⟨enters_of Tryz.func57 (by kernel_rfl) rfl, fun A Y n m c d s t l k w h h' hc hd TT => by first | exact vOr_any_w A Y n m c d s t l k w h h' hc hd TT | exact vOr_any_w A Y n m c d s t l k w h h' TT | exact vOr_any_w A Y n m c d s t l k w h h'⟩
  · exact ⟨enters_of Tryz.func89 (by kernel_rfl) rfl, fun A Y n m c d s t l k w h h' hc hd TT => by first | exact vXor_any_w A Y n m c d s t l k w h h' hc hd TT | exact vXor_any_w A Y n m c d s t l k w h h' TT | exact vXor_any_w A Y n m c d s t l k w h h'⟩
  · exact ⟨enters_of Tryz.func90 (by kernel_rfl) rfl, fun A Y n m c d s t l k w h h' hc hd TT => by first | exact vXnor_any_w A Y n m c d s t l k w h h' hc hd TT | exact vXnor_any_w A Y n m c d s t l k w h h' TT | exact vXnor_any_w A Y n m c d s t l k w h h'⟩
  · exact ⟨enters_of Tryz.func56 (by kernel_rfl) rfl, fun A Y n m c d s t l k w h h' hc hd TT => by first | exact vAdd_any_w A Y n m c d s t l k w h h' hc hd TT | exact vAdd_any_w A Y n m c d s t l k w h h' TT | exact vAdd_any_w A Y n m c d s t l k w h h'⟩
  · exact ⟨enters_of Tryz.func86 (by kernel_rfl) rfl, fun A Y n m c d s t l k w h h' hc hd TT => by first | exact vSub_any_w A Y n m c d s t l k w h h' hc hd TT | exact vSub_any_w A Y n m c d s t l k w h h' TT | exact vSub_any_w A Y n m c d s t l k w h h'⟩
  · exact ⟨enters_of Tryz.func87 (by kernel_rfl) rfl, fun A Y n m c d s t l k w h h' hc hd TT => by first | exact vMul_any_w A Y n m c d s t l k w h h' hc hd TT | exact vMul_any_w A Y n m c d s t l k w h h' TT | exact vMul_any_w A Y n m c d s t l k w h h'⟩
  · exact ⟨enters_of Tryz.func58 (by kernel_rfl) rfl, fun A Y n m c d s t l k w h h' hc hd TT => by first | exact vDiv_any_w A Y n m c d s t l k w h h' hc hd TT | exact vDiv_any_w A Y n m c d s t l k w h h' TT | exact vDiv_any_w A Y n m c d s t l k w h h'⟩
  · exact ⟨enters_of Tryz.func60 (by kernel_rfl) rfl, fun A Y n m c d s t l k w h h' hc hd TT => by first | exact vMod_any_w A Y n m c d s t l k w h h' hc hd TT | exact vMod_any_w A Y n m c d s t l k w h h' TT | exact vMod_any_w A Y n m c d s t l k w h h'⟩
  · exact ⟨enters_of Tryz.func61 (by kernel_rfl) rfl, fun A Y n m c d s t l k w h h' hc hd TT => by first | exact pow_v_w A Y n m c d s t l k w h h' hc hd TT | exact pow_v_w A Y n m c d s t l k w h h' TT | exact pow_v_w A Y n m c d s t l k w h h'⟩
  · exact ⟨enters_of Tryz.func91 (by kernel_rfl) rfl, fun A Y n m c d s t l k w h h' hc hd TT => by first | exact eq_v_w A Y n m c d s t l k w h h' hc hd TT | exact eq_v_w A Y n m c d s t l k w h h' TT | exact eq_v_w A Y n m c d s t l k w h h'⟩
  · exact ⟨enters_of Tryz.func80 (by kernel_rfl) rfl, fun A Y n m c d s t l k w h h' hc hd TT => by first | exact ne_v_w A Y n m c d s t l k w h h' hc hd TT | exact ne_v_w A Y n m c d s t l k w h h' TT | exact ne_v_w A Y n m c d s t l k w h h'⟩
  · exact ⟨enters_of Tryz.func76 (by kernel_rfl) rfl, fun A Y n m c d s t l k w h h' hc hd TT => by first | exact vLt_any_w A Y n m c d s t l k w h h' hc hd TT | exact vLt_any_w A Y n m c d s t l k w h h' TT | exact vLt_any_w A Y n m c d s t l k w h h'⟩
  · exact ⟨enters_of Tryz.func78 (by kernel_rfl) rfl, fun A Y n m c d s t l k w h h' hc hd TT => by first | exact vLe_any_w A Y n m c d s t l k w h h' hc hd TT | exact vLe_any_w A Y n m c d s t l k w h h' TT | exact vLe_any_w A Y n m c d s t l k w h h'⟩
  · exact ⟨enters_of Tryz.func79 (by kernel_rfl) rfl, fun A Y n m c d s t l k w h h' hc hd TT => by first | exact vGt_any_w A Y n m c d s t l k w h h' hc hd TT | exact vGt_any_w A Y n m c d s t l k w h h' TT | exact vGt_any_w A Y n m c d s t l k w h h'⟩
  · exact ⟨enters_of Tryz.func77 (by kernel_rfl) rfl, fun A Y n m c d s t l k w h h' hc hd TT => by first | exact vGe_any_w A Y n m c d s t l k w h h' hc hd TT | exact vGe_any_w A Y n m c d s t l k w h h' TT | exact vGe_any_w A Y n m c d s t l k w h h'⟩
  · exact ⟨enters_of Tryz.func73 (by kernel_rfl) rfl, fun A Y n m c d s t l k w h h' hc hd TT => by first | exact LAnd_any_w A Y n m c d s t l k w h h' hc hd TT | exact LAnd_any_w A Y n m c d s t l k w h h' TT | exact LAnd_any_w A Y n m c d s t l k w h h'⟩
  · exact ⟨enters_of Tryz.func74 (by kernel_rfl) rfl, fun A Y n m c d s t l k w h h' hc hd TT => by first | exact LOr_any_w A Y n m c d s t l k w h h' hc hd TT | exact LOr_any_w A Y n m c d s t l k w h h' TT | exact LOr_any_w A Y n m c d s t l k w h h'⟩
  · exact ⟨enters_of Tryz.func62 (by kernel_rfl) rfl, fun A Y n m c d s t l k w h h' hc hd TT => by first | exact vShl_any_w A Y n m c d s t l k w h h' hc hd TT | exact vShl_any_w A Y n m c d s t l k w h h' TT | exact vShl_any_w A Y n m c d s t l k w h h'⟩
  · exact ⟨enters_of Tryz.func63 (by kernel_rfl) rfl, fun A Y n m c d s t l k w h h' hc hd TT => by first | exact vShr_any_w A Y n m c d s t l k w h h' hc hd TT | exact vShr_any_w A Y n m c d s t l k w h h' TT | exact vShr_any_w A Y n m c d s t l k w h h'⟩
  · exact ⟨enters_of Tryz.func65 (by kernel_rfl) rfl, fun A Y n m c d s t l k w h h' hc hd TT => by first | exact vAShl_any_w A Y n m c d s t l k w h h' hc hd TT | exact vAShl_any_w A Y n m c d s t l k w h h' TT | exact vAShl_any_w A Y n m c d s t l k w h h'⟩
  · exact ⟨enters_of Tryz.func64 (by kernel_rfl) rfl, fun A Y n m c d s t l k w h h' hc hd TT => by first | exact vAShr_any_w A Y n m c d s t l k w h h' hc hd TT | exact vAShr_any_w A Y n m c d s t l k w h h' TT | exact vAShr_any_w A Y n m c d s t l k w h h'⟩
  · exact ⟨enters_of Tryz.func81 (by kernel_rfl) rfl, fun A Y n m c d s t l k w h h' hc hd TT => by first | exact caseEq_any_w A Y n m c d s t l k w h h' hc hd TT | exact caseEq_any_w A Y n m c d s t l k w h h' TT | exact caseEq_any_w A Y n m c d s t l k w h h'⟩
  · exact ⟨enters_of Tryz.func82 (by kernel_rfl) rfl, fun A Y n m c d s t l k w h h' hc hd TT => by first | exact caseNe_any_w A Y n m c d s t l k w h h' hc hd TT | exact caseNe_any_w A Y n m c d s t l k w h h' TT | exact caseNe_any_w A Y n m c d s t l k w h h'⟩
end Go.Proofs.YtognpmggfplekaaGreatDoor
