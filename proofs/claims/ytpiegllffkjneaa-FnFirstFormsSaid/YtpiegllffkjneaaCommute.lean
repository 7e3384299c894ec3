/-
  The contracts of DoCommute, in the reference and in the program, for every board and every two numbers.
-/
import Derived.Test.YtpiegllffkjneaaOver
import Derived.Test.YtpiegllffkjneaaPlainA
namespace Go.Proofs.Ytpiegllffkjneaa
open Go.RowKit Plain
attribute [local go_sem] store_new

theorem fieldSB (f : Nat → Int) (d : Nat) (w : World) : (Instr.field 111 (.agg (mk 18 (slideV f d))) 0).run Try.prog w = .ok (.agg (mk 16 (slideB f d))) w := by
  have h : mk 16 (slideB f d) = mk 16 (slideV f d) := mk_congr fun j hj => by unfold slideV; rw [if_pos hj]
  rw [h]
  exact fieldS0 _ w
theorem dir_nat {d : Int} (h0 : 0 ≤ d) (h1 : d ≤ 3) : ∃ n : Nat, d = n ∧ n < 4 := ⟨d.toNat, by omega, by omega⟩
end Go.Proofs.Ytpiegllffkjneaa
