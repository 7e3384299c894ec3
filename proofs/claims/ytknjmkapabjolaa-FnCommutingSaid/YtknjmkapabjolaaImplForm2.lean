/-
  The contracts of FormBoard and of all eight forms at once, in the program.
-/
import Derived.Test.YtknjmkapabjolaaImplForms
namespace Go.Proofs.Ytknjmkapabjolaa
open Go.RowKit Plain
attribute [local go_sem] store_new

end Go.Proofs.Ytknjmkapabjolaa
