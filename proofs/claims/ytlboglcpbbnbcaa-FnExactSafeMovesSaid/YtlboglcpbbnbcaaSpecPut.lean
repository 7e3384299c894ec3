/-
  The contracts of the reference's PutTile and TakeTile, for every board, every cell and every number.
-/
import Derived.Test.YtlboglcpbbnbcaaSpecLine
import Derived.Test.YtlboglcpbbnbcaaBaseA
import Derived.Test.YtlboglcpbbnbcaaPlainA
namespace Go.Proofs.Ytlboglcpbbnbcaa
open Go.RowKit Plain
attribute [local go_sem] store_new

end Go.Proofs.Ytlboglcpbbnbcaa
