/-
  The contract of l2Before: whether a board comes before another one.
-/
import Derived.Test.YtblcojacmjbjcabLess
import Derived.Test.YtblcojacmjbjcabBaseA
import Derived.Test.YtblcojacmjbjcabPlainA
import Derived.Deep.QuietTactic
import Derived.BigQuiet
import Derived.Deep.RegionHeld3
namespace Go.Proofs.Ytblcojacmjbjcab
open Go.RowKit Plain
attribute [local go_sem] store_new

end Go.Proofs.Ytblcojacmjbjcab
