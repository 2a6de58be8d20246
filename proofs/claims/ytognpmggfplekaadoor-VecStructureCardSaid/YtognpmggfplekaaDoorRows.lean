/-
  NARROWER THAN 'FOR EVERY INPUT', by the rows' own cells (each row's printed sentence says how): VecStructure: laid · VecCases: laid.
  DERIVED. THE GIVEN ROWS OF THIS SEAT. 2 by the template 'for every input the law returns true; each argument reads behind the call as it read before'; 0 by the template 'total and deterministic' (their statements: YtognpmggfplekaaDoorTotals.lean).
  GIVEN WITH THE SEED: the statements are not yours to turn. If you find one false, say at which input.
  Laid BY PROGRAM, IN A SANDBOX (cutbox-rows.mjs): the forced cells as the released guide's own fill.sh prints them over the translation 21eb1454753fa0ca… (all of the seat's roots in one cut). By AI agents, Wed Nov 11 2026. No macro, syntax, notation, axiom, sorry.
-/
import Derived.Test.YtognpmggfplekaaDoorChecked
import GoSem.Claim
import GoSem.ClaimJoined
import GoSem.ClaimMapViews
import Derived.JoinedTies
import Derived.KernelRfl
namespace Go.Proofs.YtognpmggfplekaaDoor
/- THE CELL 'sum', in the pinned program and in every row, IS THE sha256 OF THE DUMP (.gsa) THAT YtognpmggfplekaaDoorProg.lean LOADS. Nothing in Lean hashes anything: it is a label: what it is worth is what the hold of that sum in a sandbox is worth. -/
noncomputable def Tryd.pinned : Pinned := { name := "ytognpmggfplekaadoor", sum := "21eb1454753fa0ca05f24dcb5e4899932eb1c71e29113413d1037b6f2d79b85d", checked := Tryd.checked }
namespace Rows
def none {H : Type} : Left H := { results := [], args := [] }

/- WHAT THE LISTED PACKAGE-LEVEL VARIABLES READ AS WHEN THE CALL BEGINS. Each datum BY PROGRAM (the guide's laid-datum.mjs) off the statement by which the dump's own 'gosem.cut.vars' lays the variable. In a bare row this is a premise. The card (YtognpmggfplekaaDoorCards.lean) ties it to the program's text. -/
def laid_netlab_bit_notTable {H : Type} : DataW H := .agg [.lit (.int .u8 1), .lit (.int .u8 0), .lit (.int .u8 2), .lit (.int .u8 2)]
def laid_netlab_bit_bufTable {H : Type} : DataW H := .agg [.lit (.int .u8 0), .lit (.int .u8 1), .lit (.int .u8 2), .lit (.int .u8 2)]
def laid_netlab_bit_andTable {H : Type} : DataW H := .agg [.agg [.lit (.int .u8 0), .lit (.int .u8 0), .lit (.int .u8 0), .lit (.int .u8 0)], .agg [.lit (.int .u8 0), .lit (.int .u8 1), .lit (.int .u8 2), .lit (.int .u8 2)], .agg [.lit (.int .u8 0), .lit (.int .u8 2), .lit (.int .u8 2), .lit (.int .u8 2)], .agg [.lit (.int .u8 0), .lit (.int .u8 2), .lit (.int .u8 2), .lit (.int .u8 2)]]
def laid_netlab_bit_orTable {H : Type} : DataW H := .agg [.agg [.lit (.int .u8 0), .lit (.int .u8 1), .lit (.int .u8 2), .lit (.int .u8 2)], .agg [.lit (.int .u8 1), .lit (.int .u8 1), .lit (.int .u8 1), .lit (.int .u8 1)], .agg [.lit (.int .u8 2), .lit (.int .u8 1), .lit (.int .u8 2), .lit (.int .u8 2)], .agg [.lit (.int .u8 2), .lit (.int .u8 1), .lit (.int .u8 2), .lit (.int .u8 2)]]
def laid_netlab_bit_xorTable {H : Type} : DataW H := .agg [.agg [.lit (.int .u8 0), .lit (.int .u8 1), .lit (.int .u8 2), .lit (.int .u8 2)], .agg [.lit (.int .u8 1), .lit (.int .u8 0), .lit (.int .u8 2), .lit (.int .u8 2)], .agg [.lit (.int .u8 2), .lit (.int .u8 2), .lit (.int .u8 2), .lit (.int .u8 2)], .agg [.lit (.int .u8 2), .lit (.int .u8 2), .lit (.int .u8 2), .lit (.int .u8 2)]]
def laid_netlab_bit_commonTable {H : Type} : DataW H := .agg [.agg [.lit (.int .u8 0), .lit (.int .u8 2), .lit (.int .u8 2), .lit (.int .u8 2)], .agg [.lit (.int .u8 2), .lit (.int .u8 1), .lit (.int .u8 2), .lit (.int .u8 2)], .agg [.lit (.int .u8 2), .lit (.int .u8 2), .lit (.int .u8 2), .lit (.int .u8 2)], .agg [.lit (.int .u8 2), .lit (.int .u8 2), .lit (.int .u8 2), .lit (.int .u8 2)]]

/-- 'netlablaw04.VecStructure': WHATEVER THE INPUT: true; the input reads as it did. -/
def vecStructureSpec : ChangeSpec := { name := "vecStructure", fn := fun _ => fun
  | [d1, d2, d3, d4] => { results := [.lit (.bool true)], args := [d1, d2, d3, d4] }
  | _ => none }
def vecStructureRow : OpenClaim := { program := "ytognpmggfplekaadoor", sum := "21eb1454753fa0ca05f24dcb5e4899932eb1c71e29113413d1037b6f2d79b85d", func := "netlab/netlablaw04.VecStructure", spec := "vecStructure", unfollowed := true, recurses := true, named := ["netlab/bit.andTable", "netlab/bit.xorTable", "netlab/bit.notTable", "netlab/bit.bufTable", "netlab/bit.orTable", "netlab/bit.commonTable"], apart := false, laid := [("netlab/bit.notTable", laid_netlab_bit_notTable), ("netlab/bit.bufTable", laid_netlab_bit_bufTable), ("netlab/bit.andTable", laid_netlab_bit_andTable), ("netlab/bit.orTable", laid_netlab_bit_orTable), ("netlab/bit.xorTable", laid_netlab_bit_xorTable), ("netlab/bit.commonTable", laid_netlab_bit_commonTable)] }
def VecStructureSaid : Prop := vecStructureRow.holds Tryd.pinned (OpenSpec.ofChange vecStructureSpec)

/-- ITS FALSE NEIGHBOUR: 'it returns false'. Refute it at one input. -/
def vecStructureWrong : ChangeSpec := { name := "vecStructure", fn := fun _ => fun
  | [d1, d2, d3, d4] => { results := [.lit (.bool false)], args := [d1, d2, d3, d4] }
  | _ => none }
def VecStructureWrongFalsely : Prop := vecStructureRow.holds Tryd.pinned (OpenSpec.ofChange vecStructureWrong)

/-- 'netlablaw04.VecCases': WHATEVER THE INPUT: true; the input reads as it did. -/
def vecCasesSpec : ChangeSpec := { name := "vecCases", fn := fun _ => fun
  | [d1, d2] => { results := [.lit (.bool true)], args := [d1, d2] }
  | _ => none }
def vecCasesRow : OpenClaim := { program := "ytognpmggfplekaadoor", sum := "21eb1454753fa0ca05f24dcb5e4899932eb1c71e29113413d1037b6f2d79b85d", func := "netlab/netlablaw04.VecCases", spec := "vecCases", unfollowed := true, recurses := true, named := ["netlab/bit.andTable", "netlab/bit.xorTable", "netlab/bit.notTable", "netlab/bit.bufTable", "netlab/bit.orTable", "netlab/bit.commonTable"], apart := false, laid := [("netlab/bit.notTable", laid_netlab_bit_notTable), ("netlab/bit.bufTable", laid_netlab_bit_bufTable), ("netlab/bit.andTable", laid_netlab_bit_andTable), ("netlab/bit.orTable", laid_netlab_bit_orTable), ("netlab/bit.xorTable", laid_netlab_bit_xorTable), ("netlab/bit.commonTable", laid_netlab_bit_commonTable)] }
def VecCasesSaid : Prop := vecCasesRow.holds Tryd.pinned (OpenSpec.ofChange vecCasesSpec)

/-- ITS FALSE NEIGHBOUR: 'it returns false'. Refute it at one input. -/
def vecCasesWrong : ChangeSpec := { name := "vecCases", fn := fun _ => fun
  | [d1, d2] => { results := [.lit (.bool false)], args := [d1, d2] }
  | _ => none }
def VecCasesWrongFalsely : Prop := vecCasesRow.holds Tryd.pinned (OpenSpec.ofChange vecCasesWrong)

/- THE SECOND FORM. 'bulk': how many values and letters a reading holds, each counted each time it is reached (what is shared counts as often as it is met; a slice's spare places count too). A statement '..UptoSaid' is the law's where the arguments, and the package variables that the reading takes, are together of bulk at most 1048576: NARROWER than '..Said'. Prove '..Said' where nothing that the law and all that it calls make is longer than what came in: it says more and counts as full. Else prove '..UptoSaid'. A law counts once. -/
mutual
def uptoBulk {H : Type} : DataW H → Nat
  | .lit (.string bytes) => bytes.length + 1
  | .lit _ => 1
  | .nil => 1
  | .ptr d => uptoBulk d + 1
  | .slice elems spare => uptoBulkAll elems + uptoBulkAll spare + 1
  | .agg parts => uptoBulkAll parts + 1
  | .iface _ d => uptoBulk d + 1
  | .map entries => uptoBulkEntries entries + 1
  | .held _ => 1
def uptoBulkAll {H : Type} : List (DataW H) → Nat
  | [] => 0
  | d :: r => uptoBulk d + uptoBulkAll r
def uptoBulkEntries {H : Type} : List (Lit × DataW H) → Nat
  | [] => 0
  | x :: r => uptoBulkEntry x + uptoBulkEntries r
def uptoBulkEntry {H : Type} : Lit × DataW H → Nat
  | (.string bytes, d) => bytes.length + uptoBulk d + 1
  | (_, d) => uptoBulk d + 1
 end
def uptoSmall : (H : Type) → List (DataW H) → Bool := fun _ ds => decide (uptoBulkAll ds ≤ 1048576)
def OpenSpec.upto (s : _root_.Go.ChangeSpec) : _root_.Go.OpenSpec := { _root_.Go.OpenSpec.ofChange s with cond := some uptoSmall }

/-- 'netlablaw04.VecStructure', WHERE WHAT IT READS IS OF BULK AT MOST 1048576: true; the input reads as it did. -/
def vecStructureUptoRow : OpenClaim := { program := "ytognpmggfplekaadoor", sum := "21eb1454753fa0ca05f24dcb5e4899932eb1c71e29113413d1037b6f2d79b85d", func := "netlab/netlablaw04.VecStructure", spec := "vecStructure", unfollowed := true, recurses := true, named := ["netlab/bit.andTable", "netlab/bit.xorTable", "netlab/bit.notTable", "netlab/bit.bufTable", "netlab/bit.orTable", "netlab/bit.commonTable"], apart := false, laid := [("netlab/bit.notTable", laid_netlab_bit_notTable), ("netlab/bit.bufTable", laid_netlab_bit_bufTable), ("netlab/bit.andTable", laid_netlab_bit_andTable), ("netlab/bit.orTable", laid_netlab_bit_orTable), ("netlab/bit.xorTable", laid_netlab_bit_xorTable), ("netlab/bit.commonTable", laid_netlab_bit_commonTable)], narrowed := true }
def VecStructureUptoSaid : Prop := vecStructureUptoRow.holds Tryd.pinned (OpenSpec.upto vecStructureSpec)

/-- 'netlablaw04.VecCases', WHERE WHAT IT READS IS OF BULK AT MOST 1048576: true; the input reads as it did. -/
def vecCasesUptoRow : OpenClaim := { program := "ytognpmggfplekaadoor", sum := "21eb1454753fa0ca05f24dcb5e4899932eb1c71e29113413d1037b6f2d79b85d", func := "netlab/netlablaw04.VecCases", spec := "vecCases", unfollowed := true, recurses := true, named := ["netlab/bit.andTable", "netlab/bit.xorTable", "netlab/bit.notTable", "netlab/bit.bufTable", "netlab/bit.orTable", "netlab/bit.commonTable"], apart := false, laid := [("netlab/bit.notTable", laid_netlab_bit_notTable), ("netlab/bit.bufTable", laid_netlab_bit_bufTable), ("netlab/bit.andTable", laid_netlab_bit_andTable), ("netlab/bit.orTable", laid_netlab_bit_orTable), ("netlab/bit.xorTable", laid_netlab_bit_xorTable), ("netlab/bit.commonTable", laid_netlab_bit_commonTable)], narrowed := true }
def VecCasesUptoSaid : Prop := vecCasesUptoRow.holds Tryd.pinned (OpenSpec.upto vecCasesSpec)

end Rows
end Go.Proofs.YtognpmggfplekaaDoor
