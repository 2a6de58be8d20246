/-
  The six tables of package bit, read off the condition that they are laid as listed.
-/
import Derived.Test.YtognpmggfplekaaGreatDoorPcLaid
import Derived.Test.YtognpmggfplekaaGreatDoorPcQb
import Derived.Test.YtognpmggfplekaaGreatDoorRows
set_option maxRecDepth 100000
namespace Go.Proofs.YtognpmggfplekaaGreatDoor
open Go
set_option maxRecDepth 100000
theorem tNot_of {L : List (String × DataW Unit)} (hx : L.find? (fun x => x.1 == "netlab/bit.notTable") = some ("netlab/bit.notTable", Rows.laid_netlab_bit_notTable)) {W : World} (hL : laidMetH Tryz.prog L W) : TNot W := ⟨fun k hk => by
  rw [laid_cells hL "netlab/bit.notTable" Rows.laid_netlab_bit_notTable 2 129 24 [.int .u8 1, .int .u8 0, .int .u8 2, .int .u8 2] hx rfl (by kernel_rfl) (by kernel_rfl) (by kernel_rfl) k]
  obtain rfl | rfl | rfl | rfl : k = 0 ∨ k = 1 ∨ k = 2 ∨ k = 3 := by omega
  all_goals rfl⟩
theorem tBuf_of {L : List (String × DataW Unit)} (hx : L.find? (fun x => x.1 == "netlab/bit.bufTable") = some ("netlab/bit.bufTable", Rows.laid_netlab_bit_bufTable)) {W : World} (hL : laidMetH Tryz.prog L W) : TBuf W := ⟨fun k hk => by
  rw [laid_cells hL "netlab/bit.bufTable" Rows.laid_netlab_bit_bufTable 5 129 24 [.int .u8 0, .int .u8 1, .int .u8 2, .int .u8 2] hx rfl (by kernel_rfl) (by kernel_rfl) (by kernel_rfl) k]
  obtain rfl | rfl | rfl | rfl : k = 0 ∨ k = 1 ∨ k = 2 ∨ k = 3 := by omega
  all_goals rfl⟩
theorem tAnd_of {L : List (String × DataW Unit)} (hx : L.find? (fun x => x.1 == "netlab/bit.andTable") = some ("netlab/bit.andTable", Rows.laid_netlab_bit_andTable)) {W : World} (hL : laidMetH Tryz.prog L W) : TAnd W := ⟨fun k hk => by
  rw [laid_cells hL "netlab/bit.andTable" Rows.laid_netlab_bit_andTable 3 130 24 [.int .u8 0, .int .u8 0, .int .u8 0, .int .u8 0, .int .u8 0, .int .u8 1, .int .u8 2, .int .u8 2, .int .u8 0, .int .u8 2, .int .u8 2, .int .u8 2, .int .u8 0, .int .u8 2, .int .u8 2, .int .u8 2] hx rfl (by kernel_rfl) (by kernel_rfl) (by kernel_rfl) k]
  obtain rfl | rfl | rfl | rfl | rfl | rfl | rfl | rfl | rfl | rfl | rfl | rfl | rfl | rfl | rfl | rfl : k = 0 ∨ k = 1 ∨ k = 2 ∨ k = 3 ∨ k = 4 ∨ k = 5 ∨ k = 6 ∨ k = 7 ∨ k = 8 ∨ k = 9 ∨ k = 10 ∨ k = 11 ∨ k = 12 ∨ k = 13 ∨ k = 14 ∨ k = 15 := by omega
  all_goals rfl⟩
theorem tOr_of {L : List (String × DataW Unit)} (hx : L.find? (fun x => x.1 == "netlab/bit.orTable") = some ("netlab/bit.orTable", Rows.laid_netlab_bit_orTable)) {W : World} (hL : laidMetH Tryz.prog L W) : TOr W := ⟨fun k hk => by
  rw [laid_cells hL "netlab/bit.orTable" Rows.laid_netlab_bit_orTable 0 130 24 [.int .u8 0, .int .u8 1, .int .u8 2, .int .u8 2, .int .u8 1, .int .u8 1, .int .u8 1, .int .u8 1, .int .u8 2, .int .u8 1, .int .u8 2, .int .u8 2, .int .u8 2, .int .u8 1, .int .u8 2, .int .u8 2] hx rfl (by kernel_rfl) (by kernel_rfl) (by kernel_rfl) k]
  obtain rfl | rfl | rfl | rfl | rfl | rfl | rfl | rfl | rfl | rfl | rfl | rfl | rfl | rfl | rfl | rfl : k = 0 ∨ k = 1 ∨ k = 2 ∨ k = 3 ∨ k = 4 ∨ k = 5 ∨ k = 6 ∨ k = 7 ∨ k = 8 ∨ k = 9 ∨ k = 10 ∨ k = 11 ∨ k = 12 ∨ k = 13 ∨ k = 14 ∨ k = 15 := by omega
  all_goals rfl⟩
theorem tXor_of {L : List (String × DataW Unit)} (hx : L.find? (fun x => x.1 == "netlab/bit.xorTable") = some ("netlab/bit.xorTable", Rows.laid_netlab_bit_xorTable)) {W : World} (hL : laidMetH Tryz.prog L W) : TXor W := ⟨fun k hk => by
  rw [laid_cells hL "netlab/bit.xorTable" Rows.laid_netlab_bit_xorTable 4 130 24 [.int .u8 0, .int .u8 1, .int .u8 2, .int .u8 2, .int .u8 1, .int .u8 0, .int .u8 2, .int .u8 2, .int .u8 2, .int .u8 2, .int .u8 2, .int .u8 2, .int .u8 2, .int .u8 2, .int .u8 2, .int .u8 2] hx rfl (by kernel_rfl) (by kernel_rfl) (by kernel_rfl) k]
  obtain rfl | rfl | rfl | rfl | rfl | rfl | rfl | rfl | rfl | rfl | rfl | rfl | rfl | rfl | rfl | rfl : k = 0 ∨ k = 1 ∨ k = 2 ∨ k = 3 ∨ k = 4 ∨ k = 5 ∨ k = 6 ∨ k = 7 ∨ k = 8 ∨ k = 9 ∨ k = 10 ∨ k = 11 ∨ k = 12 ∨ k = 13 ∨ k = 14 ∨ k = 15 := by omega
  all_goals rfl⟩
theorem tCom_of {L : List (String × DataW Unit)} (hx : L.find? (fun x => x.1 == "netlab/bit.commonTable") = some ("netlab/bit.commonTable", Rows.laid_netlab_bit_commonTable)) {W : World} (hL : laidMetH Tryz.prog L W) : TCom W := ⟨fun k hk => by
  rw [laid_cells hL "netlab/bit.commonTable" Rows.laid_netlab_bit_commonTable 1 130 24 [.int .u8 0, .int .u8 2, .int .u8 2, .int .u8 2, .int .u8 2, .int .u8 1, .int .u8 2, .int .u8 2, .int .u8 2, .int .u8 2, .int .u8 2, .int .u8 2, .int .u8 2, .int .u8 2, .int .u8 2, .int .u8 2] hx rfl (by kernel_rfl) (by kernel_rfl) (by kernel_rfl) k]
  obtain rfl | rfl | rfl | rfl | rfl | rfl | rfl | rfl | rfl | rfl | rfl | rfl | rfl | rfl | rfl | rfl : k = 0 ∨ k = 1 ∨ k = 2 ∨ k = 3 ∨ k = 4 ∨ k = 5 ∨ k = 6 ∨ k = 7 ∨ k = 8 ∨ k = 9 ∨ k = 10 ∨ k = 11 ∨ k = 12 ∨ k = 13 ∨ k = 14 ∨ k = 15 := by omega
  all_goals rfl⟩
theorem tabs_of {L : List (String × DataW Unit)} (h1 : L.find? (fun x => x.1 == "netlab/bit.notTable") = some ("netlab/bit.notTable", Rows.laid_netlab_bit_notTable)) (h2 : L.find? (fun x => x.1 == "netlab/bit.bufTable") = some ("netlab/bit.bufTable", Rows.laid_netlab_bit_bufTable))
    (h3 : L.find? (fun x => x.1 == "netlab/bit.andTable") = some ("netlab/bit.andTable", Rows.laid_netlab_bit_andTable)) (h4 : L.find? (fun x => x.1 == "netlab/bit.orTable") = some ("netlab/bit.orTable", Rows.laid_netlab_bit_orTable)) (h5 : L.find? (fun x => x.1 == "netlab/bit.xorTable") = some ("netlab/bit.xorTable", Rows.laid_netlab_bit_xorTable))
    (h6 : L.find? (fun x => x.1 == "netlab/bit.commonTable") = some ("netlab/bit.commonTable", Rows.laid_netlab_bit_commonTable)) {W : World} (hL : laidMetH Tryz.prog L W) : Tabs W := ⟨tNot_of h1 hL, tBuf_of h2 hL, tAnd_of h3 hL, tOr_of h4 hL, tXor_of h5 hL, tCom_of h6 hL⟩
end Go.Proofs.YtognpmggfplekaaGreatDoor
