/-
  Tables of rows of a vector and a plain value, made in a region of open order. No conditions.
-/
import Derived.Test.YtognpmggfplekaaGreatDoorPcW7
set_option maxRecDepth 100000
namespace Go.Proofs.YtognpmggfplekaaGreatDoor
open Go Go.RowKit

section
variable {u u' : World} {g T n : Nat} {f : Nat → Cv} {v : Nat → V} {x : Nat → Value}
end
section
variable {o : Oper} {a : Act} {w : World} {K : Act → World → Prop} {Q : Exit → Act → World → Prop}

theorem wp_mvc {v : Value} (ho : o.op = .move (.const v)) (h : K (a.put o.dst v) w) : o.wp Tryz.prog a w K Q := by
  refine wp_val ?_ h
  unfold execOp
  simp only [ho]
  rfl
end
end Go.Proofs.YtognpmggfplekaaGreatDoor
