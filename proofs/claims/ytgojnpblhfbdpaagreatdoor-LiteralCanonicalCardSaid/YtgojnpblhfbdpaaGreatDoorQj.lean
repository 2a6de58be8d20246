/-
  Contracts of the program's arithmetic. No conditions.
  Contracts of the program's sums, products, quotients. No conditions.
  Contracts of the program's conditional operator. No conditions.
-/
import Derived.Test.YtgojnpblhfbdpaaGreatDoorQi
import Derived.Test.YtgojnpblhfbdpaaGreatDoorQf
import Derived.WalkSpells
import Derived.Laws.EntriesVeiled

namespace Go.Proofs.YtgojnpblhfbdpaaGreatDoor
open Go Go.RowKit

/-- What a function on numbers leaves that may have no result. -/
def ArP (W : World) (N : Nat) (r : Option Nat) (e : Ending) (w' : World) : Prop := match r with
  | some z => B.RetN W N z e w'
  | none => e = .returned (.slice none 0 0) ∧ Below W.heap.size W w'
def Fa (w : World) (g : Nat) (lb : Array Value) (F : Nat → Nat → Nat → Option Nat) : Prop := ∀ (W : World) (N : Nat) (X Y : Option Addr) (cx cy x y : Nat), Below w.heap.size w W → 0 < N → N ≤ 128 → B.Rd W X N x → B.Rd W Y N y →
  Calls Tryz.prog g (#[.slice X N cx, .slice Y N cy] ++ lb) W (ArP W N (F N x y))
set_option maxRecDepth 100000 in
theorem Fa.step {w u : World} {g : Nat} {lb : Array Value} {F : Nat → Nat → Nat → Option Nat} (h : Fa w g lb F) (hb : Below w.heap.size w u) : Fa u g lb F := fun W N X Y cx cy x y hW => h W N X Y cx cy x y (below_step hb hW)
set_option maxRecDepth 100000 in
theorem neq_nil (W : World) (a : Option Addr) (n c : Nat) : (binOp .neq 75 (.slice a n c) (.slice none 0 0)).run Tryz.prog W = .ok (.bool (!a.isNone)) W := run_neq_slice_nil_any W 75 4 a n c 0 0 Tryz.underlying75
end Go.Proofs.YtgojnpblhfbdpaaGreatDoor

namespace Go.Proofs.YtgojnpblhfbdpaaGreatDoor
open Go Go.RowKit

def fAdd (n x y : Nat) : Option Nat := some ((x + y) % 2 ^ n)
set_option maxRecDepth 100000 in
theorem fa_Add (w : World) : Fa w 159 #[] fAdd := fun W N X Y cx cy x y _ _ hN rx ry => B.add_any X Y N cx x N cy y W rx ry (by omega) (by omega)
def fSub (n x y : Nat) : Option Nat := some (B.subv n x y)
set_option maxRecDepth 100000 in
theorem fa_Sub (w : World) : Fa w 145 #[] fSub := fun W N X Y cx cy x y _ _ hN rx ry => B.sub_any X Y N cx x N cy y W rx ry (by omega) (by omega)
def fMul (n x y : Nat) : Option Nat := some ((x * y) % 2 ^ n)
set_option maxRecDepth 100000 in
theorem fa_Mul (w : World) : Fa w 160 #[] fMul := fun W N X Y cx cy x y _ _ hN rx ry => B.mul_any X Y N cx x N cy y W rx ry (by omega) (by omega)
/-- What a function that divides leaves. -/
def Gd (G : Nat) (q r : Nat → Nat → Nat → Nat) : Prop := ∀ (W : World) (N : Nat) (X Y : Option Addr) (cx cy x y : Nat), 0 < N → N ≤ 128 → B.Rd W X N x → B.Rd W Y N y →
  Calls Tryz.prog G (#[.slice X N cx, .slice Y N cy] ++ #[]) W fun e w' => if y = 0 then e = .returned (.tuple #[.slice none 0 0, .slice none 0 0, .int .i64 7]) ∧ Below W.heap.size W w' else B.RetD W N (q N x y) (r N x y) e w'
/-- What a function that takes one of two leaves. -/
def Pk (p : Nat) (first : Bool) : Prop := ∀ (W : World) (u v : Value), Calls Tryz.prog p (#[u, v] ++ #[]) W fun e w' => e = .returned (if first then u else v) ∧ w' = W
def dvF (first : Bool) (q r : Nat → Nat → Nat → Nat) (n x y : Nat) : Option Nat := if y = 0 then none else some (if first then q n x y else r n x y)
set_option maxRecDepth 100000 in
theorem field1 (A : Option Addr) (n c : Nat) (b : Bool) (W : World) : (Instr.field 26 (.agg #[.slice A n c, .bool b]) 1).run Tryz.prog W = .ok (.bool b) W := by kernel_rfl
def divU (first : Bool) (n x y : Nat) : Option Nat := dvF first (fun _ x y => x / y) (fun _ x y => x % y) n x y
def divS (first : Bool) (n x y : Nat) : Option Nat := dvF first (fun n x y => B.sq n x n y) (fun n x y => B.sr n x n y) n x y
def divV (first : Bool) (a b : V) : V := arV (if balS a b then divS first else divU first) a b
end Go.Proofs.YtgojnpblhfbdpaaGreatDoor

namespace Go.Proofs.YtgojnpblhfbdpaaGreatDoor
open Go Go.RowKit

def cdF (z x y : Int) : Int := if z = 1 then x else if z = 0 then y else muxI 2 x y
set_option maxRecDepth 100000 in
theorem cdF_nn (z a b : Int) (h0 : 0 ≤ a) (h1 : 0 ≤ b) : 0 ≤ cdF z a b := by
  unfold cdF; split; exact h0; (split; exact h1; exact (muxI_bd _ _ _).1)
def condV (sel a b : V) : V := bwV (cdF (truth sel)) a b
end Go.Proofs.YtgojnpblhfbdpaaGreatDoor
