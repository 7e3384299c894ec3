/-
  The contract of the reference's slide: for every board whose numbers are those of cells and every side, the board behind the slide and the score.
-/
import Derived.Test.YtmcmpedmgibmkabNumbers
import Derived.Test.YtmcmpedmgibmkabSpecRow
namespace Go.Proofs.Ytmcmpedmgibmkab
open Go.RowKit Plain
attribute [local go_sem] store_new

end Go.Proofs.Ytmcmpedmgibmkab
