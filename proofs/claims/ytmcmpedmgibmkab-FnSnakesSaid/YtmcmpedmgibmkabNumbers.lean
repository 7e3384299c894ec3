/-
  The contract of the reference's numbers of a line, for every board, every side and every line.
-/
import Derived.Test.YtmcmpedmgibmkabSpecLine
import Derived.Deep.RegionWith
namespace Go.Proofs.Ytmcmpedmgibmkab
open Go.RowKit Plain
attribute [local go_sem] store_new


end Go.Proofs.Ytmcmpedmgibmkab
