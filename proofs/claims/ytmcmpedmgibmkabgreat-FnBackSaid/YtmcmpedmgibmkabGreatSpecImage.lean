/-
  The contracts of RowsBefore in the reference, and of IsImage in the reference and in the program, for every row.
-/
import Derived.Test.YtmcmpedmgibmkabGreatImplBefore
namespace Go.Proofs.YtmcmpedmgibmkabGreat.Plain
theorem rbR_le (r : Nat → Int) : (rbR r).length ≤ 256 := by
  by_cases h : VdRow r
  · rw [rbR_yes h]; exact befS_le h
  · rw [rbR_no h]; exact Nat.zero_le _
theorem rbR_all (r : Nat → Int) : ∀ x, x ∈ rbR r → x.length = 4 := by
  by_cases h : VdRow r
  · rw [rbR_yes h]; exact befS_all 16
  · rw [rbR_no h]; intro x hx; cases hx
/-- What IsImage returns. -/
noncomputable def imR (r : Nat → Int) : Bool := decide (0 < (rbR r).length)
theorem imR_int (r : Nat → Int) : decide (0 < (rbR r).length) = imR r := rfl
theorem imR_no {r : Nat → Int} (h : ¬ VdRow r) : imR r = false := by unfold imR; rw [rbR_no h]; rfl
end Go.Proofs.YtmcmpedmgibmkabGreat.Plain
namespace Go.Proofs.YtmcmpedmgibmkabGreat
open Go.RowKit Plain
attribute [local go_sem] store_new
set_option linter.unusedVariables false
set_option linter.unusedSimpArgs false

end Go.Proofs.YtmcmpedmgibmkabGreat
