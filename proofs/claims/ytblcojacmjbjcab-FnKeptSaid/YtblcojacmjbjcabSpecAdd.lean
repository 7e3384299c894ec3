/-
  The contract of the reference's l3Add: a board put to its place in a row of boards.
-/
import Derived.Test.YtblcojacmjbjcabRowsKit
import Derived.Test.YtblcojacmjbjcabBefore
namespace Go.Proofs.Ytblcojacmjbjcab
open Go.RowKit Plain
attribute [local go_sem] Oper.semAt_some
set_option linter.unusedVariables false
set_option linter.unusedSimpArgs false

end Go.Proofs.Ytblcojacmjbjcab
