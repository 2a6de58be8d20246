/-
  The two tables of packages strength and bit, read off the condition that they are laid as listed.
-/
import Derived.Test.YtjfhhlbgiepkpaaDoorLaid
import Derived.Test.YtjfhhlbgiepkpaaDoorLift
import Derived.Test.YtjfhhlbgiepkpaaDoorStrD
import Derived.Test.YtjfhhlbgiepkpaaDoorRows
namespace Go.Proofs.YtjfhhlbgiepkpaaDoor
open Go
set_option maxRecDepth 100000
theorem tb_of {L : List (String × DataW Unit)} (hn : L.find? (fun x => x.1 == "netlab/strength.names") = some ("netlab/strength.names", Rows.laid_netlab_strength_names)) (hc : L.find? (fun x => x.1 == "netlab/bit.charTable") = some ("netlab/bit.charTable", Rows.laid_netlab_bit_charTable)) {W : World} (hL : laidMetH Tryd.prog L W) : Tb W :=
  ⟨fun i => by
    rw [laid_cells hL "netlab/strength.names" Rows.laid_netlab_strength_names 0 64 24 namArr.toList hn rfl (by kernel_rfl) (by kernel_rfl) (by kernel_rfl) i]
    simp,
   fun i => by
    rw [laid_cells hL "netlab/bit.charTable" Rows.laid_netlab_bit_charTable 1 73 24 chrArr.toList hc rfl (by kernel_rfl) (by kernel_rfl) (by kernel_rfl) i]
    simp⟩
end Go.Proofs.YtjfhhlbgiepkpaaDoor
