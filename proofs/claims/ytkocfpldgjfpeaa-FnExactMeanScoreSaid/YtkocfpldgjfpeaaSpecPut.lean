/-
  The contracts of the reference's PutTile and TakeTile, for every board, every cell and every number.
-/
import Derived.Test.YtkocfpldgjfpeaaSpecLine
import Derived.Test.YtkocfpldgjfpeaaBaseA
import Derived.Test.YtkocfpldgjfpeaaPlainA
namespace Go.Proofs.Ytkocfpldgjfpeaa
open Go.RowKit Plain
attribute [local go_sem] store_new

end Go.Proofs.Ytkocfpldgjfpeaa
