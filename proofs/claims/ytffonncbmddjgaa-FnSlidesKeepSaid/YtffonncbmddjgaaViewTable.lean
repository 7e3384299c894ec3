/-
  The contract of the program's table of views: four pairs of functions, one pair a direction.
-/
import Derived.Test.YtffonncbmddjgaaViews
namespace Go.Proofs.Ytffonncbmddjgaa
open Go.RowKit Plain

/-- What the table of views holds. -/
def viewCells : Array Value := #[.func (.func 170) #[] #[], .func (.func 170) #[] #[], .func (.func 126) #[] #[], .func (.func 126) #[] #[], .func (.func 174) #[] #[], .func (.func 174) #[] #[], .func (.func 171) #[] #[], .func (.func 173) #[] #[]]
theorem viewOne : viewCells.all (·.oneCell') = true := by simp [viewCells, Value.oneCell']
theorem sizeV : (Try.prog.info? 135).map (·.size) = some 8 := by kernel_rfl
theorem views_any (w : World) :
    Calls Try.prog 155 #[] w fun e w' => e = .returned (.agg viewCells) ∧ Below w.heap.size w w' := by
  go_enter Try.func155, Try.ntmps155
  go_wp2_with ((with_reducible show wpList _ _ _ (Oper.mk _ (Op.store 135 _ _) _ _ _ _ :: _) _ _); refine wpList_store_row rfl 135 _ _ rfl _ viewCells rfl rfl _ _ (heap_alloc_new _ _) sizeV rfl viewOne ?_)
  try simp only [Exit.inBlock, Exit.then]
  exact bodyPost_ret (v := .agg viewCells) (results_cell_row rfl _ _ _ 135 viewCells (0, 0) _ rfl (setRow_heap _ _ _ _ _ _ (heap_alloc_new _ _)) Try.underlying135 rfl sizeV) rfl ⟨rfl, below_setRow ((Below.refl _ _).alloc (Nat.le_refl _) _) (Nat.le_refl _) _⟩
theorem idxV0 (w : World) : (Instr.index 135 (.agg viewCells) (.int .i64 0)).run Try.prog w = .ok (.agg #[.func (.func 170) #[] #[], .func (.func 170) #[] #[]]) w := by kernel_rfl
theorem idxV1 (w : World) : (Instr.index 135 (.agg viewCells) (.int .i64 1)).run Try.prog w = .ok (.agg #[.func (.func 126) #[] #[], .func (.func 126) #[] #[]]) w := by kernel_rfl
theorem idxV2 (w : World) : (Instr.index 135 (.agg viewCells) (.int .i64 2)).run Try.prog w = .ok (.agg #[.func (.func 174) #[] #[], .func (.func 174) #[] #[]]) w := by kernel_rfl
theorem idxV3 (w : World) : (Instr.index 135 (.agg viewCells) (.int .i64 3)).run Try.prog w = .ok (.agg #[.func (.func 171) #[] #[], .func (.func 173) #[] #[]]) w := by kernel_rfl
end Go.Proofs.Ytffonncbmddjgaa
