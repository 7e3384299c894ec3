/-
  The contracts of what has merged in a row that slides: the reference's l6Merged, and the program's mergedPlaces, which is given the row and what it slides to.
-/
import Derived.Test.YtmcmpedmgibmkabGreatSpecLists
import Derived.Test.YtmcmpedmgibmkabGreatRowsB
namespace Go.Proofs.YtmcmpedmgibmkabGreat
open Go.RowKit Plain
attribute [local go_sem] store_new
set_option linter.unusedVariables false
set_option linter.unusedSimpArgs false

/-- Truth values, told by a function of their places. -/
def vb (b : Nat → Bool) : Nat → Value := fun j => .bool (b j)
theorem zeroT : (#[.bool false, .bool false, .bool false, .bool false] : Array Value) = vk 4 (vb fun _ => false) := rfl
theorem sizeT1 : (Tryz.prog.info? 4).map (·.size) = some 1 := by kernel_rfl
theorem vbOne (b : Nat → Bool) : (vk 4 (vb b)).all (·.oneCell') = true := by simp [vk, vb, Value.oneCell']
theorem vb_upd (b : Nat → Bool) (i : Nat) (x : Bool) : updV (vb b) i (.bool x) = vb (updB b i x) := by
  funext j; unfold updV vb updB; split <;> rfl
/-- b below k, and false from there on. -/
def uptB (b : Nat → Bool) (k : Nat) : Nat → Bool := fun j => decide (j < k) && b j
theorem uptB_zero (b : Nat → Bool) : uptB b 0 = fun _ => false := by funext j; simp [uptB]
theorem uptB_no {b : Nat → Bool} {k : Nat} (h : b k = false) : uptB b (k + 1) = uptB b k := by
  funext j; unfold uptB
  by_cases e : j = k
  · subst e; simp [h]
  · congr 1; rw [Bool.eq_iff_iff, decide_eq_true_iff, decide_eq_true_iff]; omega
theorem uptB_yes {b : Nat → Bool} {k : Nat} (h : b k = true) : uptB b (k + 1) = updB (uptB b k) k true := by
  funext j; unfold uptB updB
  by_cases e : j = k
  · subst e; simp [h]
  · rw [if_neg e]; congr 1; rw [Bool.eq_iff_iff, decide_eq_true_iff, decide_eq_true_iff]; omega
theorem uptB_all {b : Nat → Bool} {k : Nat} (h : ∀ j, k ≤ j → b j = false) : uptB b k = b := by
  funext j; unfold uptB
  by_cases e : j < k
  · simp [e]
  · rw [h j (by omega)]; simp

end Go.Proofs.YtmcmpedmgibmkabGreat
