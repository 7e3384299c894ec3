/-
  The contract of l2Before: whether a board comes before another one.
-/
import Derived.Test.YtkocfpldgjfpeaaLess
import Derived.Test.YtkocfpldgjfpeaaBaseA
import Derived.Test.YtkocfpldgjfpeaaPlainA
import Derived.Deep.QuietTactic
import Derived.BigQuiet
import Derived.Deep.RegionHeld3
namespace Go.Proofs.Ytkocfpldgjfpeaa
open Go.RowKit Plain
attribute [local go_sem] store_new

end Go.Proofs.Ytkocfpldgjfpeaa
