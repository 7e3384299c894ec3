/-
  The contracts of IsSymmetricRow, in the reference and in the program, for every row.
-/
import Derived.Test.YtphkidkkcknnmaaRowsB
import Derived.Test.YtphkidkkcknnmaaRowsTurn
import Derived.Deep.QuietTactic
import Derived.BigQuiet
namespace Go.Proofs.Ytphkidkkcknnmaa
open Go.RowKit Plain
attribute [local go_sem] store_new

end Go.Proofs.Ytphkidkkcknnmaa
