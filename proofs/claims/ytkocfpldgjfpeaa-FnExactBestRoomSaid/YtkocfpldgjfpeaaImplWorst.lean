/-
  The contract of the program's WorstTile, for every board.
-/
import Derived.Test.YtkocfpldgjfpeaaLeastR
import Derived.Test.YtkocfpldgjfpeaaImplDead
namespace Go.Proofs.Ytkocfpldgjfpeaa
open Go.RowKit Plain
attribute [local go_sem] store_new
set_option linter.unusedVariables false
set_option linter.unusedSimpArgs false
theorem mk_plF0 : (mk 3 (plF (0, 0))) = mk 3 fun _ => 0 := mk_congr fun j _ => plF_zero j
theorem countMoves_enters : ∀ args w, (callFunc 84 args).run Try.prog w = .ok (.enter 84 args) w := enters_of Try.func84 (by kernel_rfl) rfl
theorem pl_vd {f : Nat → Int} {p : Nat × Nat} (hV : Vd f) (h : PlOk f p) : Vd (plB f p) := plB_vd hV h
end Go.Proofs.Ytkocfpldgjfpeaa
