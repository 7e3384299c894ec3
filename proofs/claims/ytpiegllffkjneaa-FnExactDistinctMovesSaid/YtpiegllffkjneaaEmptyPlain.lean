/-
  Plain facts on the empty cells of a board. No program stands in this text.
-/
import Derived.Test.YtpiegllffkjneaaBoardPlain
namespace Go.Proofs.Ytpiegllffkjneaa.Plain
/-- The empty cells among the first k cells, each told by its row and its column. -/
def empL (f : Nat → Int) : Nat → List Int
  | 0 => []
  | k + 1 => if f k = 0 then empL f k ++ [((k / 4 : Nat) : Int), ((k % 4 : Nat) : Int)] else empL f k
/-- Their number. -/
def empN (f : Nat → Int) : Nat → Nat
  | 0 => 0
  | k + 1 => if f k = 0 then empN f k + 1 else empN f k
theorem emp_yes {f : Nat → Int} {k : Nat} (h : f k = 0) : empL f (k + 1) = empL f k ++ [((k / 4 : Nat) : Int), ((k % 4 : Nat) : Int)] ∧ empN f (k + 1) = empN f k + 1 := by
  simp [empL, empN, h]
theorem emp_no {f : Nat → Int} {k : Nat} (h : f k ≠ 0) : empL f (k + 1) = empL f k ∧ empN f (k + 1) = empN f k := by
  simp [empL, empN, h]
theorem empN_le (f : Nat → Int) (k : Nat) : empN f k ≤ k := by
  induction k with
  | zero => exact Nat.le_refl _
  | succ k ih => unfold empN; split <;> omega
theorem emp_len (f : Nat → Int) (k : Nat) : (empL f k).length = empN f k * 2 := by
  induction k with
  | zero => rfl
  | succ k ih => unfold empL empN; split <;> simp [ih]; omega
theorem empN_congr {f g : Nat → Int} {k : Nat} (h : ∀ j, j < k → f j = g j) : empN f k = empN g k := by
  induction k with
  | zero => rfl
  | succ k ih => unfold empN; rw [ih fun j hj => h j (by omega), h k (by omega)]
end Go.Proofs.Ytpiegllffkjneaa.Plain
