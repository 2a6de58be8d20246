/-
  The seven tables of package bit, read off the condition that they are laid as listed.
-/
import Derived.Test.YtkcjgchieieffaaDoorLaid
import Derived.Test.YtkcjgchieieffaaDoorBitA
import Derived.Test.YtkcjgchieieffaaDoorRows
namespace Go.Proofs.YtkcjgchieieffaaDoor
open Go
set_option maxRecDepth 100000
theorem tNot_of {L : List (String × DataW Unit)} (hx : L.find? (fun x => x.1 == "netlab/bit.notTable") = some ("netlab/bit.notTable", Rows.laid_netlab_bit_notTable)) {W : World} (hL : laidMetH Tryd.prog L W) : TNot W := ⟨fun k hk => by
  rw [laid_cells hL "netlab/bit.notTable" Rows.laid_netlab_bit_notTable 0 41 24 [.int .u8 1, .int .u8 0, .int .u8 2, .int .u8 2] hx rfl (by kernel_rfl) (by kernel_rfl) (by kernel_rfl) k]
  obtain rfl | rfl | rfl | rfl : k = 0 ∨ k = 1 ∨ k = 2 ∨ k = 3 := by omega
  all_goals rfl⟩
theorem tBuf_of {L : List (String × DataW Unit)} (hx : L.find? (fun x => x.1 == "netlab/bit.bufTable") = some ("netlab/bit.bufTable", Rows.laid_netlab_bit_bufTable)) {W : World} (hL : laidMetH Tryd.prog L W) : TBuf W := ⟨fun k hk => by
  rw [laid_cells hL "netlab/bit.bufTable" Rows.laid_netlab_bit_bufTable 1 41 24 [.int .u8 0, .int .u8 1, .int .u8 2, .int .u8 2] hx rfl (by kernel_rfl) (by kernel_rfl) (by kernel_rfl) k]
  obtain rfl | rfl | rfl | rfl : k = 0 ∨ k = 1 ∨ k = 2 ∨ k = 3 := by omega
  all_goals rfl⟩
theorem tChr_of {L : List (String × DataW Unit)} (hx : L.find? (fun x => x.1 == "netlab/bit.charTable") = some ("netlab/bit.charTable", Rows.laid_netlab_bit_charTable)) {W : World} (hL : laidMetH Tryd.prog L W) : TChr W := ⟨fun k hk => by
  rw [laid_cells hL "netlab/bit.charTable" Rows.laid_netlab_bit_charTable 2 42 24 [.int .u8 48, .int .u8 49, .int .u8 120, .int .u8 122] hx rfl (by kernel_rfl) (by kernel_rfl) (by kernel_rfl) k]
  obtain rfl | rfl | rfl | rfl : k = 0 ∨ k = 1 ∨ k = 2 ∨ k = 3 := by omega
  all_goals rfl⟩
theorem tAnd_of {L : List (String × DataW Unit)} (hx : L.find? (fun x => x.1 == "netlab/bit.andTable") = some ("netlab/bit.andTable", Rows.laid_netlab_bit_andTable)) {W : World} (hL : laidMetH Tryd.prog L W) : TAnd W := ⟨fun k hk => by
  rw [laid_cells hL "netlab/bit.andTable" Rows.laid_netlab_bit_andTable 3 43 24 [.int .u8 0, .int .u8 0, .int .u8 0, .int .u8 0, .int .u8 0, .int .u8 1, .int .u8 2, .int .u8 2, .int .u8 0, .int .u8 2, .int .u8 2, .int .u8 2, .int .u8 0, .int .u8 2, .int .u8 2, .int .u8 2] hx rfl (by kernel_rfl) (by kernel_rfl) (by kernel_rfl) k]
  obtain rfl | rfl | rfl | rfl | rfl | rfl | rfl | rfl | rfl | rfl | rfl | rfl | rfl | rfl | rfl | rfl : k = 0 ∨ k = 1 ∨ k = 2 ∨ k = 3 ∨ k = 4 ∨ k = 5 ∨ k = 6 ∨ k = 7 ∨ k = 8 ∨ k = 9 ∨ k = 10 ∨ k = 11 ∨ k = 12 ∨ k = 13 ∨ k = 14 ∨ k = 15 := by omega
  all_goals rfl⟩
theorem tOr_of {L : List (String × DataW Unit)} (hx : L.find? (fun x => x.1 == "netlab/bit.orTable") = some ("netlab/bit.orTable", Rows.laid_netlab_bit_orTable)) {W : World} (hL : laidMetH Tryd.prog L W) : TOr W := ⟨fun k hk => by
  rw [laid_cells hL "netlab/bit.orTable" Rows.laid_netlab_bit_orTable 4 43 24 [.int .u8 0, .int .u8 1, .int .u8 2, .int .u8 2, .int .u8 1, .int .u8 1, .int .u8 1, .int .u8 1, .int .u8 2, .int .u8 1, .int .u8 2, .int .u8 2, .int .u8 2, .int .u8 1, .int .u8 2, .int .u8 2] hx rfl (by kernel_rfl) (by kernel_rfl) (by kernel_rfl) k]
  obtain rfl | rfl | rfl | rfl | rfl | rfl | rfl | rfl | rfl | rfl | rfl | rfl | rfl | rfl | rfl | rfl : k = 0 ∨ k = 1 ∨ k = 2 ∨ k = 3 ∨ k = 4 ∨ k = 5 ∨ k = 6 ∨ k = 7 ∨ k = 8 ∨ k = 9 ∨ k = 10 ∨ k = 11 ∨ k = 12 ∨ k = 13 ∨ k = 14 ∨ k = 15 := by omega
  all_goals rfl⟩
theorem tXor_of {L : List (String × DataW Unit)} (hx : L.find? (fun x => x.1 == "netlab/bit.xorTable") = some ("netlab/bit.xorTable", Rows.laid_netlab_bit_xorTable)) {W : World} (hL : laidMetH Tryd.prog L W) : TXor W := ⟨fun k hk => by
  rw [laid_cells hL "netlab/bit.xorTable" Rows.laid_netlab_bit_xorTable 5 43 24 [.int .u8 0, .int .u8 1, .int .u8 2, .int .u8 2, .int .u8 1, .int .u8 0, .int .u8 2, .int .u8 2, .int .u8 2, .int .u8 2, .int .u8 2, .int .u8 2, .int .u8 2, .int .u8 2, .int .u8 2, .int .u8 2] hx rfl (by kernel_rfl) (by kernel_rfl) (by kernel_rfl) k]
  obtain rfl | rfl | rfl | rfl | rfl | rfl | rfl | rfl | rfl | rfl | rfl | rfl | rfl | rfl | rfl | rfl : k = 0 ∨ k = 1 ∨ k = 2 ∨ k = 3 ∨ k = 4 ∨ k = 5 ∨ k = 6 ∨ k = 7 ∨ k = 8 ∨ k = 9 ∨ k = 10 ∨ k = 11 ∨ k = 12 ∨ k = 13 ∨ k = 14 ∨ k = 15 := by omega
  all_goals rfl⟩
theorem tCom_of {L : List (String × DataW Unit)} (hx : L.find? (fun x => x.1 == "netlab/bit.commonTable") = some ("netlab/bit.commonTable", Rows.laid_netlab_bit_commonTable)) {W : World} (hL : laidMetH Tryd.prog L W) : TCom W := ⟨fun k hk => by
  rw [laid_cells hL "netlab/bit.commonTable" Rows.laid_netlab_bit_commonTable 6 43 24 [.int .u8 0, .int .u8 2, .int .u8 2, .int .u8 2, .int .u8 2, .int .u8 1, .int .u8 2, .int .u8 2, .int .u8 2, .int .u8 2, .int .u8 2, .int .u8 2, .int .u8 2, .int .u8 2, .int .u8 2, .int .u8 2] hx rfl (by kernel_rfl) (by kernel_rfl) (by kernel_rfl) k]
  obtain rfl | rfl | rfl | rfl | rfl | rfl | rfl | rfl | rfl | rfl | rfl | rfl | rfl | rfl | rfl | rfl : k = 0 ∨ k = 1 ∨ k = 2 ∨ k = 3 ∨ k = 4 ∨ k = 5 ∨ k = 6 ∨ k = 7 ∨ k = 8 ∨ k = 9 ∨ k = 10 ∨ k = 11 ∨ k = 12 ∨ k = 13 ∨ k = 14 ∨ k = 15 := by omega
  all_goals rfl⟩
end Go.Proofs.YtkcjgchieieffaaDoor
