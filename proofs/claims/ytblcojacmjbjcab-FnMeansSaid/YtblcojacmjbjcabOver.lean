/-
  The contracts of MovesOf and IsOver, in the reference and in the program, for every board.
-/
import Derived.Test.YtblcojacmjbjcabRowsKit
import Derived.Test.YtblcojacmjbjcabPlainA
namespace Go.Proofs.Ytblcojacmjbjcab
open Go.RowKit Plain
attribute [local go_sem] store_new


end Go.Proofs.Ytblcojacmjbjcab
