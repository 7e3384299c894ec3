/-
  Several texts in one:
  The contract of the laws' helper rCells, on rows of cells.
  The contracts of EmptyCells, in the reference and in the program, for every board.
-/
import Derived.Test.YtekdodlkimgbhaaRowsKit
import Derived.Test.YtekdodlkimgbhaaBaseA
import Derived.Test.YtekdodlkimgbhaaPlainA
namespace Go.Proofs.Ytekdodlkimgbhaa
open Go.RowKit Plain
attribute [local go_sem] Oper.semAt_some

/-- Two cells, compared. -/
def sameC (f g : Nat → Int) : Bool := (List.range 2).all fun c => f c == g c
theorem sameC_rfl (f : Nat → Int) : sameC f f = true := by simp [sameC]
theorem eqC2 (d : Nat) (f g : Nat → Int) (w : World) : (Op.equalIn (d + 2) 44 (.agg (mk 2 f)) (.agg (mk 2 g))).run Try.prog w = .ok (sameC f g) w := by
  cases hq : Try.prog.info? 3 with
  | none => have := size1; simp [hq] at this
  | some i =>
    rw [run_equalIn_array w (d + 1) (mk 2 f) (mk 2 g) Try.underlying44 hq, cells1]
    exact items_all _ _ _ _ _ _ (fun c => .int .i64 (f c)) (fun c => .int .i64 (g c)) (fun c => f c == g c) _ fun c hc => by
      have hc4 : c < 2 := List.mem_range.1 hc
      exact ⟨part_int Try.underlying3 f hc4 w, part_int Try.underlying3 g hc4 w, run_equalIn_int w d _ _ _ _ _ Try.underlying3⟩
theorem neqC2 (f g : Nat → Int) (w : World) : (binOp .neq 44 (.agg (mk 2 f)) (.agg (mk 2 g))).run Try.prog w = .ok (.bool (!sameC f g)) w := by
  rw [run_neq_struct, eqC2]; rfl
theorem neqC2_self (f : Nat → Int) (w : World) : (binOp .neq 44 (.agg (mk 2 f)) (.agg (mk 2 f))).run Try.prog w = .ok (.bool false) w := by
  rw [neqC2, sameC_rfl]; rfl
theorem eqC2_self (f : Nat → Int) (w : World) : (Op.equalIn 10000 44 (.agg (mk 2 f)) (.agg (mk 2 f))).run Try.prog w = .ok true w := by
  rw [eqC2 9998, sameC_rfl]

end Go.Proofs.Ytekdodlkimgbhaa
namespace Go.Proofs.Ytekdodlkimgbhaa
open Go.RowKit Plain
attribute [local go_sem] store_new

/-- What EmptyCells returns. -/
def cellL (f : Nat → Int) : List Int := if Vd f then empL f 16 else []
def cellN (f : Nat → Int) : Nat := if Vd f then empN f 16 else 0
theorem cell_yes {f : Nat → Int} (h : Vd f) : cellL f = empL f 16 ∧ cellN f = empN f 16 := by simp [cellL, cellN, h]
theorem cell_no {f : Nat → Int} (h : ¬ Vd f) : cellL f = [] ∧ cellN f = 0 := by simp [cellL, cellN, h]
theorem cell_len (f : Nat → Int) : (cellL f).length = cellN f * 2 := by
  unfold cellL cellN
  split
  · exact emp_len f 16
  · rfl
theorem cellN_le (f : Nat → Int) : cellN f ≤ 16 := by
  unfold cellN
  split
  · exact empN_le f 16
  · omega

end Go.Proofs.Ytekdodlkimgbhaa
