/-
  The contract of the program's PutTile, for every board, every cell and every number.
-/
import Derived.Test.YtblcojacmjbjcabBaseA
import Derived.Test.YtblcojacmjbjcabPlainA
namespace Go.Proofs.Ytblcojacmjbjcab
open Go.RowKit Plain
attribute [local go_sem] store_new
set_option linter.unusedSimpArgs false

end Go.Proofs.Ytblcojacmjbjcab
