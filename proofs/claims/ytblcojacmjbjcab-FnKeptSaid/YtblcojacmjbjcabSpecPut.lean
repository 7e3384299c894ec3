/-
  The contracts of the reference's PutTile and TakeTile, for every board, every cell and every number.
-/
import Derived.Test.YtblcojacmjbjcabSpecLine
import Derived.Test.YtblcojacmjbjcabBaseA
import Derived.Test.YtblcojacmjbjcabPlainA
namespace Go.Proofs.Ytblcojacmjbjcab
open Go.RowKit Plain
attribute [local go_sem] store_new

end Go.Proofs.Ytblcojacmjbjcab
