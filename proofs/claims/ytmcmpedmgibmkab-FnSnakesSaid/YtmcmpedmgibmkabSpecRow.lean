/-
  The contract of the reference's row that has slid: it is what impl.slideLine returns, and so is the score, for every line whose numbers are those of cells.
-/
import Derived.Test.YtmcmpedmgibmkabBaseA
namespace Go.Proofs.Ytmcmpedmgibmkab
open Go.RowKit Plain
attribute [local go_sem] store_new

/-- What 'merged' says of the tile that is open. -/
structure MergedOk (s : Slid) (m : Bool) : Prop where
  yes : m = true → s.op = 0
  no : m = false → 1 ≤ s.n → s.op = s.row (s.n - 1)
  nil : s.n = 0 → s.op = 0

end Go.Proofs.Ytmcmpedmgibmkab
