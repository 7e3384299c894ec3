/-
  The contract of the reference's draw of a board, a cell and a tile.
-/
import Derived.Test.YtknjmkapabjolaaDrawCell
import Derived.Test.YtknjmkapabjolaaBaseA
namespace Go.Proofs.Ytknjmkapabjolaa
open Go.RowKit Plain
attribute [local go_sem] Oper.semAt_some
set_option linter.unusedSimpArgs false

theorem turned_of_below {w w' : World} {B : Nat} (h : Below w.heap.size w w') : Turned B w w' :=
  ⟨h.os, h.tape, h.output, h.size, fun b hb _ => h.block b hb⟩
end Go.Proofs.Ytknjmkapabjolaa
