/-
  The contracts of the reference's StepBetween.
-/
import Derived.Test.YtmcmpedmgibmkaaSpecNext
import Derived.Test.YtmcmpedmgibmkaaSpecDo
import Derived.Test.YtmcmpedmgibmkaaSpecAdd
import Derived.Test.YtmcmpedmgibmkaaOver
import Derived.Test.YtmcmpedmgibmkaaNextPlain
namespace Go.Proofs.Ytmcmpedmgibmkaa
open Go.RowKit Plain
attribute [local go_sem] store_new
set_option linter.unusedVariables false
set_option linter.unusedSimpArgs false

end Go.Proofs.Ytmcmpedmgibmkaa
