/-
  The contract of the reference's l5Do: the board behind a step, for every valid board and every four numbers.
-/
import Derived.Test.YtlboglcpbbnbcabStepMem
import Derived.Test.YtlboglcpbbnbcabSpecLine
import Derived.Test.YtlboglcpbbnbcabSpecSlide
namespace Go.Proofs.Ytlboglcpbbnbcab
open Go.RowKit Plain
attribute [local go_sem] store_new

end Go.Proofs.Ytlboglcpbbnbcab
