/-
  The contract of impl.slideLine: what a line becomes when it slides, the score, and the number of mergers, for every line whose numbers are those of cells.
-/
import Derived.Test.YtmcmpedmgibmkabBaseA
namespace Go.Proofs.Ytmcmpedmgibmkab
open Go.RowKit Plain
attribute [local go_sem] store_new

end Go.Proofs.Ytmcmpedmgibmkab
