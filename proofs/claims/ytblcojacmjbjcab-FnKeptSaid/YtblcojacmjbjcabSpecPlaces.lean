/-
  The contracts of the reference's l8Places and PlacementsOf: all placements on a board.
-/
import Derived.Test.YtblcojacmjbjcabTripKit
namespace Go.Proofs.Ytblcojacmjbjcab
open Go.RowKit Plain
attribute [local go_sem] store_new
set_option linter.unusedVariables false
set_option linter.unusedSimpArgs false

end Go.Proofs.Ytblcojacmjbjcab
