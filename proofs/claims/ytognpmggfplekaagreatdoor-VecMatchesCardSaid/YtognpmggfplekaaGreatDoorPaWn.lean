/-
  Facts for regions of open order: new vectors, stores of them, numbers. No conditions.
-/
import Derived.Test.YtognpmggfplekaaGreatDoorPaWm
set_option maxRecDepth 100000
namespace Go.Proofs.YtognpmggfplekaaGreatDoor
open Go Go.RowKit

def isNX (B : Nat) (v : V) : Value → World → Prop := fun q u => ∃ A n c, q = .agg #[.slice A n c, .bool v.s] ∧ n ≤ c ∧ n ≤ 1000 ∧ Nb u B A n c v.l
instance (B : Nat) (v : V) : StV (isNX B v) := ⟨fun _ _ _ hb ⟨A, n, c, h1, h2, h3, h4⟩ => ⟨A, n, c, h1, h2, h3, h4.step hb⟩⟩
instance (g B : Nat) (v : V) : SsV g (isNX B v) := ⟨fun _ _ _ _ _ _ _ O ⟨A, n, c, h1, h2, h3, h4⟩ => ⟨A, n, c, h1, h2, h3, h4.row O⟩⟩
def didX (B g : Nat) (v : V) : Value → World → Prop := fun _ u => ∃ A n c, Own u g 24 #[.slice A n c, .bool v.s] ∧ n ≤ c ∧ n ≤ 1000 ∧ Nb u B A n c v.l
instance (B g : Nat) (v : V) : StV (didX B g v) := ⟨fun _ _ _ hb ⟨A, n, c, h1, h2, h3, h4⟩ => ⟨A, n, c, h1.step hb, h2, h3, h4.step hb⟩⟩
instance (g B h : Nat) (v : V) [A : Apart g h] : SsV g (didX B h v) := ⟨fun _ _ _ _ _ _ _ O ⟨X, n, c, h1, h2, h3, h4⟩ => ⟨X, n, c, h1.rowFar A.ne, h2, h3, h4.row O⟩⟩
def nws (X : Option Addr) (n c x : Nat) : World → Prop := fun u => B.Nw u 0 X n c x
instance (X : Option Addr) (n c x : Nat) : Stb (nws X n c x) := ⟨fun _ _ hb h => B.Nw.step h hb⟩
instance (g : Nat) (X : Option Addr) (n c x : Nat) : Sst g (nws X n c x) := ⟨fun _ _ _ _ _ _ O h => nw_row h O⟩
theorem wp_lenB {o : Oper} {a : Act} {w : World} {K : Act → World → Prop} {Q : Exit → Act → World → Prop} (x : Operand) (ho : o.op = .call { callee := .builtin .len, args := #[x], argTypes := #[90] }) {A : Option Addr} {n c : Nat} (hx : a.eval x = .slice A n c) (h : K (a.put o.dst (.int .i64 n)) w) : o.wp Tryz.prog a w K Q := by
  refine wp_val ?_ h
  unfold execOp
  simp only [ho, resolve, invoke, builtin, Sem.run_bind, Sem.run_pure, Result.andThen_ok, List.map_toArray, List.map_cons, List.map_nil, hx]
  simp [go_sem]
theorem rFill_w (b m : Int) (s : Bool) (w : World) (hb : 0 ≤ b) (hm : m ≤ 1000) : Calls Tryz.prog 53 #[.int .u8 b, .int .i64 m, .bool s] w (RetV w (allV b m.toNat s)) := rFill_any b m s w hb (by omega)
theorem rFromBools_w (A : Option Addr) (n c x : Nat) (s : Bool) (w : World) (h : B.Rd w A n x) (hn : n ≤ 128) :
    Calls Tryz.prog 132 #[.slice A n c, .bool s] w (RetW w ⟨frN n x, s⟩) := (rFromBools_any A n c x s w h (by omega)).mono fun _ _ h => h.w (by rw [frN_len]; exact hn)
end Go.Proofs.YtognpmggfplekaaGreatDoor
