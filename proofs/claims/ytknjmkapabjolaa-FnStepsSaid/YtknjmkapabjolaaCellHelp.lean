/-
  The contract of the laws' helper rCells, on rows of cells.
-/
import Derived.Test.YtknjmkapabjolaaRowsKit
import Derived.Test.YtknjmkapabjolaaBaseA
namespace Go.Proofs.Ytknjmkapabjolaa
open Go.RowKit Plain
attribute [local go_sem] Oper.semAt_some

/-- Two cells, compared. -/
def sameC (f g : Nat → Int) : Bool := (List.range 2).all fun c => f c == g c
theorem sameC_rfl (f : Nat → Int) : sameC f f = true := by simp [sameC]
theorem eqC2 (d : Nat) (f g : Nat → Int) (w : World) : (Op.equalIn (d + 2) 26 (.agg (mk 2 f)) (.agg (mk 2 g))).run Try.prog w = .ok (sameC f g) w := by
  cases hq : Try.prog.info? 3 with
  | none => have := size1; simp [hq] at this
  | some i =>
    rw [run_equalIn_array w (d + 1) (mk 2 f) (mk 2 g) Try.underlying26 hq, cells1]
    exact items_all _ _ _ _ _ _ (fun c => .int .i64 (f c)) (fun c => .int .i64 (g c)) (fun c => f c == g c) _ fun c hc => by
      have hc4 : c < 2 := List.mem_range.1 hc
      exact ⟨part_int Try.underlying3 f hc4 w, part_int Try.underlying3 g hc4 w, run_equalIn_int w d _ _ _ _ _ Try.underlying3⟩
theorem neqC2 (f g : Nat → Int) (w : World) : (binOp .neq 26 (.agg (mk 2 f)) (.agg (mk 2 g))).run Try.prog w = .ok (.bool (!sameC f g)) w := by
  rw [run_neq_struct, eqC2]; rfl
theorem neqC2_self (f : Nat → Int) (w : World) : (binOp .neq 26 (.agg (mk 2 f)) (.agg (mk 2 f))).run Try.prog w = .ok (.bool false) w := by
  rw [neqC2, sameC_rfl]; rfl
theorem eqC2_self (f : Nat → Int) (w : World) : (Op.equalIn 10000 26 (.agg (mk 2 f)) (.agg (mk 2 f))).run Try.prog w = .ok true w := by
  rw [eqC2 9998, sameC_rfl]

end Go.Proofs.Ytknjmkapabjolaa
