/-
  The contracts of the reference's PutTile and TakeTile, for every board, every cell and every number.
-/
import Derived.Test.YtlboglcpbbnbcabSpecLine
import Derived.Test.YtlboglcpbbnbcabBaseA
import Derived.Test.YtlboglcpbbnbcabPlainA
namespace Go.Proofs.Ytlboglcpbbnbcab
open Go.RowKit Plain
attribute [local go_sem] store_new

end Go.Proofs.Ytlboglcpbbnbcab
