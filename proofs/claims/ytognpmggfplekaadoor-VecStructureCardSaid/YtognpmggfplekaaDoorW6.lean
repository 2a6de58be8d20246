/-
  Words that the walks of the statements share. No conditions.
-/
import Derived.Test.YtognpmggfplekaaDoorW5
namespace Go.Proofs.YtognpmggfplekaaDoor
open Go Go.RowKit

set_option maxRecDepth 100000 in
theorem sameV_self (a : V) : sameV a a = true := by unfold sameV; simp
set_option maxRecDepth 100000 in
theorem sameV_iff (a b : V) : sameV a b = true ↔ a = b := by
  unfold sameV
  rw [Bool.and_eq_true, beq_iff_eq, decide_eq_true_eq]
  exact ⟨fun ⟨h1, h2⟩ => V.ext' h2 h1, fun h => by rw [h]; exact ⟨rfl, rfl⟩⟩
set_option maxRecDepth 100000 in
theorem spo1 {W u : World} {A : Option Addr} {n c : Nat} {s : Bool} {l : List Int} (hb : Below W.heap.size W u) (hN : Nb u W.heap.size A n c l) (hn : n ≤ 1000) : Spo W (u.alloc (.cells #[.slice A n c, .bool s] 24)) u.heap.size #[.slice A n c, .bool s] 1 :=
  ⟨below_new hb _, Own.new u 24 _, fun i hi => by
    have e : i = 0 := by omega
    subst e
    exact ⟨A, n, c, l, rfl, by omega, hN.alloc _⟩⟩
set_option maxRecDepth 100000 in
theorem long2_b (p : Bool) (A0 A1 : Option Addr) (n0 c0 n1 c1 : Nat) (s0 s1 : Bool) (hp : lngB [n0, n1] = p) (w : World) (H : Nat) (hH : w.heap.size = H) :
    Calls Tryd.prog 5 #[.slice (some ⟨H, 0, none⟩) 2 2] (w.alloc (.cells #[.slice A0 n0 c0, .bool s0, .slice A1 n1 c1, .bool s1] 24)) fun e w' => e = .returned (.bool p) ∧ w.alloc (.cells #[.slice A0 n0 c0, .bool s0, .slice A1 n1 c1, .bool s1] 24) = w' := hH ▸ hp ▸ long2 A0 A1 n0 c0 n1 c1 s0 s1 w
set_option maxRecDepth 100000 in
theorem long3_b (p : Bool) (A0 A1 A2 : Option Addr) (n0 c0 n1 c1 n2 c2 : Nat) (s0 s1 s2 : Bool) (hp : lngB [n0, n1, n2] = p) (w : World) (H : Nat) (hH : w.heap.size = H) :
    Calls Tryd.prog 5 #[.slice (some ⟨H, 0, none⟩) 3 3] (w.alloc (.cells #[.slice A0 n0 c0, .bool s0, .slice A1 n1 c1, .bool s1, .slice A2 n2 c2, .bool s2] 24)) fun e w' => e = .returned (.bool p) ∧ w.alloc (.cells #[.slice A0 n0 c0, .bool s0, .slice A1 n1 c1, .bool s1, .slice A2 n2 c2, .bool s2] 24) = w' := hH ▸ hp ▸ long3 A0 A1 A2 n0 c0 n1 c1 n2 c2 s0 s1 s2 w
set_option maxRecDepth 100000 in
theorem long4_b (p : Bool) (A0 A1 A2 A3 : Option Addr) (n0 c0 n1 c1 n2 c2 n3 c3 : Nat) (s0 s1 s2 s3 : Bool) (hp : lngB [n0, n1, n2, n3] = p) (w : World) (H : Nat) (hH : w.heap.size = H) :
    Calls Tryd.prog 5 #[.slice (some ⟨H, 0, none⟩) 4 4] (w.alloc (.cells #[.slice A0 n0 c0, .bool s0, .slice A1 n1 c1, .bool s1, .slice A2 n2 c2, .bool s2, .slice A3 n3 c3, .bool s3] 24)) fun e w' => e = .returned (.bool p) ∧ w.alloc (.cells #[.slice A0 n0 c0, .bool s0, .slice A1 n1 c1, .bool s1, .slice A2 n2 c2, .bool s2, .slice A3 n3 c3, .bool s3] 24) = w' := hH ▸ hp ▸ long4 A0 A1 A2 A3 n0 c0 n1 c1 n2 c2 n3 c3 s0 s1 s2 s3 w
set_option maxRecDepth 100000 in
theorem long6_b (p : Bool) (A0 A1 A2 A3 A4 A5 : Option Addr) (n0 c0 n1 c1 n2 c2 n3 c3 n4 c4 n5 c5 : Nat) (s0 s1 s2 s3 s4 s5 : Bool) (hp : lngB [n0, n1, n2, n3, n4, n5] = p) (w : World) (H : Nat) (hH : w.heap.size = H) :
    Calls Tryd.prog 5 #[.slice (some ⟨H, 0, none⟩) 6 6] (w.alloc (.cells #[.slice A0 n0 c0, .bool s0, .slice A1 n1 c1, .bool s1, .slice A2 n2 c2, .bool s2, .slice A3 n3 c3, .bool s3, .slice A4 n4 c4, .bool s4, .slice A5 n5 c5, .bool s5] 24)) fun e w' => e = .returned (.bool p) ∧ w.alloc (.cells #[.slice A0 n0 c0, .bool s0, .slice A1 n1 c1, .bool s1, .slice A2 n2 c2, .bool s2, .slice A3 n3 c3, .bool s3, .slice A4 n4 c4, .bool s4, .slice A5 n5 c5, .bool s5] 24) = w' := hH ▸ hp ▸ long6 A0 A1 A2 A3 A4 A5 n0 c0 n1 c1 n2 c2 n3 c3 n4 c4 n5 c5 s0 s1 s2 s3 s4 s5 w
end Go.Proofs.YtognpmggfplekaaDoor
