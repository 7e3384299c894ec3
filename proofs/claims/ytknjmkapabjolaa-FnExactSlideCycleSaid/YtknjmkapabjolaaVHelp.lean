/-
  The contracts of the laws' helpers vInts, vHas and vBoards, on rows of integers and of boards.
-/
import Derived.Test.YtknjmkapabjolaaRowHelp
import Derived.Test.YtknjmkapabjolaaRowsKit
import Derived.Deep.RegionHeld3
namespace Go.Proofs.Ytknjmkapabjolaa
open Go.RowKit Plain
attribute [local go_sem] Oper.semAt_some
set_option linter.unusedVariables false
set_option linter.unusedSimpArgs false

theorem eqlB (f g : Nat → Int) (w : World) : (binOp .eql 29 (.agg (mk 16 f)) (.agg (mk 16 g))).run Try.prog w = .ok (.bool (sameB f g)) w := by
  rw [run_eql_struct, eqB]; rfl
theorem execNB {o : Oper} {ev : Operand → Value} {w : World} {f g : Nat → Int} {x y : Operand} (ho : o.op = .binOp .neq 29 x y 29) (hx : ev x = .agg (mk 16 f)) (hy : ev y = .agg (mk 16 g)) :
    (execOp ev o).run Try.prog w = .ok (.value (.bool (!sameB f g))) w := by
  unfold execOp
  simp [ho, hx, hy, eqGuard, neqB]
theorem execEB {o : Oper} {ev : Operand → Value} {w : World} {f g : Nat → Int} {x y : Operand} (ho : o.op = .binOp .eql 29 x y 29) (hx : ev x = .agg (mk 16 f)) (hy : ev y = .agg (mk 16 g)) :
    (execOp ev o).run Try.prog w = .ok (.value (.bool (sameB f g))) w := by
  unfold execOp
  simp [ho, hx, hy, eqGuard, eqlB]
theorem neqB_self (f : Nat → Int) (w : World) : (binOp .neq 29 (.agg (mk 16 f)) (.agg (mk 16 f))).run Try.prog w = .ok (.bool false) w := by
  have := neqB f f w
  rw [sameB_iff.2 (fun _ _ => rfl)] at this
  exact this
end Go.Proofs.Ytknjmkapabjolaa
