/-
  The contracts of the reference's l5All, StepsOf, CountNext and IsTrapped.
-/
import Derived.Test.YtblcojacmjbjcabSpecSteps
import Derived.Test.YtblcojacmjbjcabSpecDo
import Derived.Test.YtblcojacmjbjcabSpecAdd
import Derived.Test.YtblcojacmjbjcabOver
import Derived.Test.YtblcojacmjbjcabNextPlain
namespace Go.Proofs.Ytblcojacmjbjcab
open Go.RowKit Plain
attribute [local go_sem] store_new
set_option linter.unusedVariables false
set_option linter.unusedSimpArgs false

theorem step_all (f : Nat → Int) (d : Nat) (hd : d < 4) : AllL 4 (stepL f d) := fun l hl => (step_fn hd hl).1
end Go.Proofs.Ytblcojacmjbjcab
