/-
  The contracts of the program's countMoves and DeadPlaces, for every board.
-/
import Derived.Test.YtblcojacmjbjcabOverR
import Derived.Test.YtblcojacmjbjcabOver
namespace Go.Proofs.Ytblcojacmjbjcab
open Go.RowKit Go.Shelf Plain
attribute [local go_sem] store_new Oper.semAt_some
set_option linter.unusedVariables false
set_option linter.unusedSimpArgs false

end Go.Proofs.Ytblcojacmjbjcab
