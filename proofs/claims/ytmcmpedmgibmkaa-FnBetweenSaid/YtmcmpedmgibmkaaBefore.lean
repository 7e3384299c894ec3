/-
  The contract of l2Before: whether a board comes before another one.
-/
import Derived.Test.YtmcmpedmgibmkaaLess
import Derived.Test.YtmcmpedmgibmkaaBaseA
import Derived.Test.YtmcmpedmgibmkaaPlainA
import Derived.Deep.QuietTactic
import Derived.BigQuiet
import Derived.Deep.RegionHeld3
namespace Go.Proofs.Ytmcmpedmgibmkaa
open Go.RowKit Plain
attribute [local go_sem] store_new

end Go.Proofs.Ytmcmpedmgibmkaa
