/-
  The contract of the program's WorstTile, for every board.
-/
import Derived.Test.YtblcojacmjbjcabLeastR
import Derived.Test.YtblcojacmjbjcabImplDead
namespace Go.Proofs.Ytblcojacmjbjcab
open Go.RowKit Plain
attribute [local go_sem] store_new
set_option linter.unusedVariables false
set_option linter.unusedSimpArgs false
end Go.Proofs.Ytblcojacmjbjcab
