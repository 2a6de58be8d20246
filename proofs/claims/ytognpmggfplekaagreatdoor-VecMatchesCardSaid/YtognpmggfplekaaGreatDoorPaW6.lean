/-
  Words that the walks of the statements share. No conditions.
-/
import Derived.Test.YtognpmggfplekaaGreatDoorPaW5
set_option maxRecDepth 100000
namespace Go.Proofs.YtognpmggfplekaaGreatDoor
open Go Go.RowKit

theorem sameV_self (a : V) : sameV a a = true := by unfold sameV; simp
theorem spo1 {W u : World} {A : Option Addr} {n c : Nat} {s : Bool} {l : List Int} (hb : Below W.heap.size W u) (hN : Nb u W.heap.size A n c l) (hn : n ≤ 1000) : Spo W (u.alloc (.cells #[.slice A n c, .bool s] 24)) u.heap.size #[.slice A n c, .bool s] 1 :=
  ⟨below_new hb _, Own.new u 24 _, fun i hi => by
    have e : i = 0 := by omega
    subst e
    exact ⟨A, n, c, l, rfl, by omega, hN.alloc _⟩⟩
theorem spoil1 {W u : World} {A : Option Addr} {n c : Nat} {s : Bool} {l : List Int} (hb : Below W.heap.size W u) (hN : Nb u W.heap.size A n c l) (hn : n ≤ 1000) (H : Nat) (hH : u.heap.size = H) :
    Calls Tryz.prog 18 #[.slice (some ⟨H, 0, none⟩) 1 1] (u.alloc (.cells #[.slice A n c, .bool s] 24)) fun e w' => e = .returned (.tuple #[]) ∧ Below W.heap.size W w' :=
  hH ▸ spoil_any W _ _ 1 _ (spo1 hb hN hn) (by decide)
theorem long2_b (p : Bool) (A0 A1 : Option Addr) (n0 c0 n1 c1 : Nat) (s0 s1 : Bool) (hp : lngB [n0, n1] = p) (w : World) (H : Nat) (hH : w.heap.size = H) :
    Calls Tryz.prog 12 #[.slice (some ⟨H, 0, none⟩) 2 2] (w.alloc (.cells #[.slice A0 n0 c0, .bool s0, .slice A1 n1 c1, .bool s1] 24)) fun e w' => e = .returned (.bool p) ∧ w.alloc (.cells #[.slice A0 n0 c0, .bool s0, .slice A1 n1 c1, .bool s1] 24) = w' := hH ▸ hp ▸ long2 A0 A1 n0 c0 n1 c1 s0 s1 w
end Go.Proofs.YtognpmggfplekaaGreatDoor
