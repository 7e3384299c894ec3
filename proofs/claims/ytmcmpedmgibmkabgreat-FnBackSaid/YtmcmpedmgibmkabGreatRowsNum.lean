/-
  The contracts of RowNumber and RowAt, in the reference and in the program.
-/
import Derived.Test.YtmcmpedmgibmkabGreatRowsA
namespace Go.Proofs.YtmcmpedmgibmkabGreat
open Go.RowKit Plain
attribute [local go_sem] store_new

theorem num_step (f : Nat → Int) (k : Nat) : num f (k + 1) = num f k * 18 + f k := rfl
theorem tdiv_nat (n d : Nat) : ((n : Int).tdiv (d : Int)) = ((n / d : Nat) : Int) := by simp
theorem tmod_nat (n d : Nat) : ((n : Int).tmod (d : Int)) = ((n % d : Nat) : Int) := by
  rw [Int.tmod_eq_emod_of_nonneg (Int.natCast_nonneg n)]; exact (Int.natCast_emod n d).symm
theorem upd_dig (n b j : Nat) (hj : j < 4) (i : Nat) (hi : i < 4) : upd (dig n b (j + 1)) j ((n / b ^ (3 - j) % b : Nat) : Int) i = dig n b j i := dig_step n b hj i hi
theorem at_digits (n : Nat) (hn : n ≤ 104975) : mk 4 (qd ((n : Int) / 5832) ((n : Int) / 324 % 18) ((n : Int) / 18 % 18) ((n : Int) % 18)) = mk 4 (dig n 18 0) := by
  refine mk_congr fun i hi => ?_
  rcases (by omega : i = 0 ∨ i = 1 ∨ i = 2 ∨ i = 3) with rfl | rfl | rfl | rfl
  · show (n : Int) / 5832 = ((n / 18 ^ 3 % 18 : Nat) : Int)
    omega
  · show (n : Int) / 324 % 18 = ((n / 18 ^ 2 % 18 : Nat) : Int)
    omega
  · show (n : Int) / 18 % 18 = ((n / 18 ^ 1 % 18 : Nat) : Int)
    omega
  · show (n : Int) % 18 = ((n / 18 ^ 0 % 18 : Nat) : Int)
    omega
end Go.Proofs.YtmcmpedmgibmkabGreat
