/-
  The contracts of l3Made and FormBoard of the reference: the form k of a board.
-/
import Derived.Test.YtknjmkapabjolaaSpecForms
namespace Go.Proofs.Ytknjmkapabjolaa
open Go.RowKit Plain
attribute [local go_sem] store_new

theorem isForm_nat {k : Int} (h0 : 0 ≤ k) (h1 : k ≤ 7) : ∃ n : Nat, k = n ∧ n < 8 := ⟨k.toNat, by omega, by omega⟩
theorem mod4 (k : Nat) : ((k : Int)).tmod 4 = ((k % 4 : Nat) : Int) := by rw [Int.tmod_eq_emod_of_nonneg (by omega)]; omega

end Go.Proofs.Ytknjmkapabjolaa
