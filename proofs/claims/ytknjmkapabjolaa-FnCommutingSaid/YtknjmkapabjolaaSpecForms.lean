/-
  The contracts of the forms of a board in the reference: a quarter, the mirror, the form k, and FormBoard. No condition but that k is the number of a form where it is said.
-/
import Derived.Test.YtknjmkapabjolaaBaseA
import Derived.Test.YtknjmkapabjolaaPlainA
namespace Go.Proofs.Ytknjmkapabjolaa
open Go.RowKit Plain
attribute [local go_sem] store_new

/-- Turning by a quarter, cell by cell. -/
def quF (f : Nat → Int) (r c : Nat) : Nat → Int := fun j => if 3 - j % 4 < r ∨ (3 - j % 4 = r ∧ j / 4 < c) then f ((3 - j % 4) * 4 + j / 4) else 0
theorem quF_step (f : Nat → Int) {r c k : Nat} (hr : r + k = 3) (_ : c < 4) : ∀ j, j < 16 → upd (quF f r c) (c * 4 + k) (f (r * 4 + c)) j = quF f r (c + 1) j := by
  intro j hj
  unfold upd quF
  by_cases e : j = c * 4 + k
  · subst e
    rw [if_pos rfl, if_pos (by omega), show 3 - (c * 4 + k) % 4 = r by omega, show (c * 4 + k) / 4 = c by omega]
  · rw [if_neg e]
    by_cases h : 3 - j % 4 < r ∨ (3 - j % 4 = r ∧ j / 4 < c)
    · rw [if_pos h, if_pos (by omega)]
    · rw [if_neg h, if_neg (by omega)]
theorem quF_row (f : Nat → Int) (r : Nat) : ∀ j, j < 16 → quF f r 4 j = quF f (r + 1) 0 j := by
  intro j hj; unfold quF; split <;> split <;> first | rfl | omega
theorem quF_all (f : Nat → Int) : ∀ j, j < 16 → quF f 4 0 j = f ((3 - j % 4) * 4 + j / 4) := by
  intro j hj; unfold quF; rw [if_pos (by omega)]
theorem quF_zero (f : Nat → Int) (j : Nat) : quF f 0 0 j = 0 := by simp [quF]
theorem miF_step2 (f : Nat → Int) {r c k : Nat} (hr : c + k = 3) (_ : r < 4) : ∀ j, j < 16 → upd (miF f r c) (r * 4 + k) (f (r * 4 + c)) j = miF f r (c + 1) j := miF_step f hr

end Go.Proofs.Ytknjmkapabjolaa
