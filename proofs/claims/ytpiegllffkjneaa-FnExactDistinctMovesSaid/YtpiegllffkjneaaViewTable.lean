/-
  The contract of the program's table of views: four pairs of functions, one pair a direction.
-/
import Derived.Test.YtpiegllffkjneaaViews
namespace Go.Proofs.Ytpiegllffkjneaa
open Go.RowKit Plain

/-- What the table of views holds. -/
def viewCells : Array Value := #[.func (.func 154) #[] #[], .func (.func 154) #[] #[], .func (.func 159) #[] #[], .func (.func 159) #[] #[], .func (.func 158) #[] #[], .func (.func 158) #[] #[], .func (.func 155) #[] #[], .func (.func 157) #[] #[]]
theorem viewOne : viewCells.all (·.oneCell') = true := by simp [viewCells, Value.oneCell']
theorem sizeV : (Try.prog.info? 128).map (·.size) = some 8 := by kernel_rfl
theorem views_any (w : World) :
    Calls Try.prog 119 #[] w fun e w' => e = .returned (.agg viewCells) ∧ Below w.heap.size w w' := by
  go_enter Try.func119, Try.ntmps119
  go_wp2_with ((with_reducible show wpList _ _ _ (Oper.mk _ (Op.store 128 _ _) _ _ _ _ :: _) _ _); refine wpList_store_row rfl 128 _ _ rfl _ viewCells rfl rfl _ _ (heap_alloc_new _ _) sizeV rfl viewOne ?_)
  try simp only [Exit.inBlock, Exit.then]
  exact bodyPost_ret (v := .agg viewCells) (results_cell_row rfl _ _ _ 128 viewCells (0, 0) _ rfl (setRow_heap _ _ _ _ _ _ (heap_alloc_new _ _)) Try.underlying128 rfl sizeV) rfl ⟨rfl, below_setRow ((Below.refl _ _).alloc (Nat.le_refl _) _) (Nat.le_refl _) _⟩
theorem idxV0 (w : World) : (Instr.index 128 (.agg viewCells) (.int .i64 0)).run Try.prog w = .ok (.agg #[.func (.func 154) #[] #[], .func (.func 154) #[] #[]]) w := by kernel_rfl
theorem idxV1 (w : World) : (Instr.index 128 (.agg viewCells) (.int .i64 1)).run Try.prog w = .ok (.agg #[.func (.func 159) #[] #[], .func (.func 159) #[] #[]]) w := by kernel_rfl
theorem idxV2 (w : World) : (Instr.index 128 (.agg viewCells) (.int .i64 2)).run Try.prog w = .ok (.agg #[.func (.func 158) #[] #[], .func (.func 158) #[] #[]]) w := by kernel_rfl
theorem idxV3 (w : World) : (Instr.index 128 (.agg viewCells) (.int .i64 3)).run Try.prog w = .ok (.agg #[.func (.func 155) #[] #[], .func (.func 157) #[] #[]]) w := by kernel_rfl
end Go.Proofs.Ytpiegllffkjneaa
