/-
  The contracts of FormBehind, FormBack and FormSide in the program, and of FormSide in the reference, for all numbers.
-/
import Derived.Test.YtffonncbmddjgaaFormNums
namespace Go.Proofs.Ytffonncbmddjgaa
open Go.RowKit Plain
attribute [local go_sem] store_new

theorem isForm_yes (x : Int) (w : World) (h0 : 0 ≤ x) (h1 : x ≤ 7) :
    Calls Try.prog 112 #[.int .i64 x] w fun e w' => e = .returned (.bool true) ∧ w = w' := by
  have d0 : decide (0 ≤ x) = true := by simpa using h0
  have d1 : decide (x < 8) = true := by simp; omega
  clear h0 h1
  go_enter Try.func112, Try.ntmps112
  go_wp2
  go_ret
  exact ⟨rfl, rfl⟩
theorem isForm_no (x : Int) (w : World) (h : x < 0 ∨ 7 < x) :
    Calls Try.prog 112 #[.int .i64 x] w fun e w' => e = .returned (.bool false) ∧ w = w' := by
  by_cases h0 : 0 ≤ x
  · have d0 : decide (0 ≤ x) = true := by simpa using h0
    have d1 : decide (x < 8) = false := by simp; omega
    clear h h0
    go_enter Try.func112, Try.ntmps112
    go_wp2
    go_ret
    exact ⟨rfl, rfl⟩
  · have d0 : decide (0 ≤ x) = false := by simp; omega
    clear h h0
    go_enter Try.func112, Try.ntmps112
    go_wp2
    go_ret
    exact ⟨rfl, rfl⟩
theorem isMirror_any (x : Int) (b : Bool) (w : World) (h : decide (4 ≤ x) = b) :
    Calls Try.prog 117 #[.int .i64 x] w fun e w' => e = .returned (.bool b) ∧ w = w' := by
  subst h
  go_enter Try.func117, Try.ntmps117
  go_wp2
  go_ret
  exact ⟨rfl, rfl⟩
theorem eight {k : Int} (h0 : 0 ≤ k) (h1 : k ≤ 7) : k = 0 ∨ k = 1 ∨ k = 2 ∨ k = 3 ∨ k = 4 ∨ k = 5 ∨ k = 6 ∨ k = 7 := by omega
theorem four {k : Int} (h0 : 0 ≤ k) (h1 : k ≤ 3) : k = 0 ∨ k = 1 ∨ k = 2 ∨ k = 3 := by omega
theorem implBehind_0_0 (w : World) : Calls Try.prog 29 #[.int .i64 0, .int .i64 0] w fun e w' => e = .returned (.tuple #[.int .i64 (behN 0 0 : Nat), .bool true]) ∧ w = w' := by
  go_enter Try.func29, Try.ntmps29
  go_wp2_with fail
  refine (isForm_yes _ _ (by decide) (by decide)).mono ?_
  rintro e w' ⟨rfl, rfl⟩
  go_wp2_with fail
  refine (isForm_yes _ _ (by decide) (by decide)).mono ?_
  rintro e w' ⟨rfl, rfl⟩
  go_wp2_with fail
  refine (isMirror_any _ false _ (by decide)).mono ?_
  rintro e w' ⟨rfl, rfl⟩
  go_wp2_with fail
  refine (isMirror_any _ false _ (by decide)).mono ?_
  rintro e w' ⟨rfl, rfl⟩
  go_wp2_with fail
  refine (isMirror_any _ false _ (by decide)).mono ?_
  rintro e w' ⟨rfl, rfl⟩
  go_wp2_with fail
  go_ret2
  exact ⟨rfl, rfl⟩
theorem implBehind_0_1 (w : World) : Calls Try.prog 29 #[.int .i64 0, .int .i64 1] w fun e w' => e = .returned (.tuple #[.int .i64 (behN 0 1 : Nat), .bool true]) ∧ w = w' := by
  go_enter Try.func29, Try.ntmps29
  go_wp2_with fail
  refine (isForm_yes _ _ (by decide) (by decide)).mono ?_
  rintro e w' ⟨rfl, rfl⟩
  go_wp2_with fail
  refine (isForm_yes _ _ (by decide) (by decide)).mono ?_
  rintro e w' ⟨rfl, rfl⟩
  go_wp2_with fail
  refine (isMirror_any _ false _ (by decide)).mono ?_
  rintro e w' ⟨rfl, rfl⟩
  go_wp2_with fail
  refine (isMirror_any _ false _ (by decide)).mono ?_
  rintro e w' ⟨rfl, rfl⟩
  go_wp2_with fail
  refine (isMirror_any _ false _ (by decide)).mono ?_
  rintro e w' ⟨rfl, rfl⟩
  go_wp2_with fail
  go_ret2
  exact ⟨rfl, rfl⟩
theorem implBehind_0_2 (w : World) : Calls Try.prog 29 #[.int .i64 0, .int .i64 2] w fun e w' => e = .returned (.tuple #[.int .i64 (behN 0 2 : Nat), .bool true]) ∧ w = w' := by
  go_enter Try.func29, Try.ntmps29
  go_wp2_with fail
  refine (isForm_yes _ _ (by decide) (by decide)).mono ?_
  rintro e w' ⟨rfl, rfl⟩
  go_wp2_with fail
  refine (isForm_yes _ _ (by decide) (by decide)).mono ?_
  rintro e w' ⟨rfl, rfl⟩
  go_wp2_with fail
  refine (isMirror_any _ false _ (by decide)).mono ?_
  rintro e w' ⟨rfl, rfl⟩
  go_wp2_with fail
  refine (isMirror_any _ false _ (by decide)).mono ?_
  rintro e w' ⟨rfl, rfl⟩
  go_wp2_with fail
  refine (isMirror_any _ false _ (by decide)).mono ?_
  rintro e w' ⟨rfl, rfl⟩
  go_wp2_with fail
  go_ret2
  exact ⟨rfl, rfl⟩
theorem implBehind_0_3 (w : World) : Calls Try.prog 29 #[.int .i64 0, .int .i64 3] w fun e w' => e = .returned (.tuple #[.int .i64 (behN 0 3 : Nat), .bool true]) ∧ w = w' := by
  go_enter Try.func29, Try.ntmps29
  go_wp2_with fail
  refine (isForm_yes _ _ (by decide) (by decide)).mono ?_
  rintro e w' ⟨rfl, rfl⟩
  go_wp2_with fail
  refine (isForm_yes _ _ (by decide) (by decide)).mono ?_
  rintro e w' ⟨rfl, rfl⟩
  go_wp2_with fail
  refine (isMirror_any _ false _ (by decide)).mono ?_
  rintro e w' ⟨rfl, rfl⟩
  go_wp2_with fail
  refine (isMirror_any _ false _ (by decide)).mono ?_
  rintro e w' ⟨rfl, rfl⟩
  go_wp2_with fail
  refine (isMirror_any _ false _ (by decide)).mono ?_
  rintro e w' ⟨rfl, rfl⟩
  go_wp2_with fail
  go_ret2
  exact ⟨rfl, rfl⟩
theorem implBehind_0_4 (w : World) : Calls Try.prog 29 #[.int .i64 0, .int .i64 4] w fun e w' => e = .returned (.tuple #[.int .i64 (behN 0 4 : Nat), .bool true]) ∧ w = w' := by
  go_enter Try.func29, Try.ntmps29
  go_wp2_with fail
  refine (isForm_yes _ _ (by decide) (by decide)).mono ?_
  rintro e w' ⟨rfl, rfl⟩
  go_wp2_with fail
  refine (isForm_yes _ _ (by decide) (by decide)).mono ?_
  rintro e w' ⟨rfl, rfl⟩
  go_wp2_with fail
  refine (isMirror_any _ false _ (by decide)).mono ?_
  rintro e w' ⟨rfl, rfl⟩
  go_wp2_with fail
  refine (isMirror_any _ false _ (by decide)).mono ?_
  rintro e w' ⟨rfl, rfl⟩
  go_wp2_with fail
  refine (isMirror_any _ true _ (by decide)).mono ?_
  rintro e w' ⟨rfl, rfl⟩
  go_wp2_with fail
  go_ret2
  exact ⟨rfl, rfl⟩
theorem implBehind_0_5 (w : World) : Calls Try.prog 29 #[.int .i64 0, .int .i64 5] w fun e w' => e = .returned (.tuple #[.int .i64 (behN 0 5 : Nat), .bool true]) ∧ w = w' := by
  go_enter Try.func29, Try.ntmps29
  go_wp2_with fail
  refine (isForm_yes _ _ (by decide) (by decide)).mono ?_
  rintro e w' ⟨rfl, rfl⟩
  go_wp2_with fail
  refine (isForm_yes _ _ (by decide) (by decide)).mono ?_
  rintro e w' ⟨rfl, rfl⟩
  go_wp2_with fail
  refine (isMirror_any _ false _ (by decide)).mono ?_
  rintro e w' ⟨rfl, rfl⟩
  go_wp2_with fail
  refine (isMirror_any _ false _ (by decide)).mono ?_
  rintro e w' ⟨rfl, rfl⟩
  go_wp2_with fail
  refine (isMirror_any _ true _ (by decide)).mono ?_
  rintro e w' ⟨rfl, rfl⟩
  go_wp2_with fail
  go_ret2
  exact ⟨rfl, rfl⟩
theorem implBehind_0_6 (w : World) : Calls Try.prog 29 #[.int .i64 0, .int .i64 6] w fun e w' => e = .returned (.tuple #[.int .i64 (behN 0 6 : Nat), .bool true]) ∧ w = w' := by
  go_enter Try.func29, Try.ntmps29
  go_wp2_with fail
  refine (isForm_yes _ _ (by decide) (by decide)).mono ?_
  rintro e w' ⟨rfl, rfl⟩
  go_wp2_with fail
  refine (isForm_yes _ _ (by decide) (by decide)).mono ?_
  rintro e w' ⟨rfl, rfl⟩
  go_wp2_with fail
  refine (isMirror_any _ false _ (by decide)).mono ?_
  rintro e w' ⟨rfl, rfl⟩
  go_wp2_with fail
  refine (isMirror_any _ false _ (by decide)).mono ?_
  rintro e w' ⟨rfl, rfl⟩
  go_wp2_with fail
  refine (isMirror_any _ true _ (by decide)).mono ?_
  rintro e w' ⟨rfl, rfl⟩
  go_wp2_with fail
  go_ret2
  exact ⟨rfl, rfl⟩
theorem implBehind_0_7 (w : World) : Calls Try.prog 29 #[.int .i64 0, .int .i64 7] w fun e w' => e = .returned (.tuple #[.int .i64 (behN 0 7 : Nat), .bool true]) ∧ w = w' := by
  go_enter Try.func29, Try.ntmps29
  go_wp2_with fail
  refine (isForm_yes _ _ (by decide) (by decide)).mono ?_
  rintro e w' ⟨rfl, rfl⟩
  go_wp2_with fail
  refine (isForm_yes _ _ (by decide) (by decide)).mono ?_
  rintro e w' ⟨rfl, rfl⟩
  go_wp2_with fail
  refine (isMirror_any _ false _ (by decide)).mono ?_
  rintro e w' ⟨rfl, rfl⟩
  go_wp2_with fail
  refine (isMirror_any _ false _ (by decide)).mono ?_
  rintro e w' ⟨rfl, rfl⟩
  go_wp2_with fail
  refine (isMirror_any _ true _ (by decide)).mono ?_
  rintro e w' ⟨rfl, rfl⟩
  go_wp2_with fail
  go_ret2
  exact ⟨rfl, rfl⟩
theorem implBehind_1_0 (w : World) : Calls Try.prog 29 #[.int .i64 1, .int .i64 0] w fun e w' => e = .returned (.tuple #[.int .i64 (behN 1 0 : Nat), .bool true]) ∧ w = w' := by
  go_enter Try.func29, Try.ntmps29
  go_wp2_with fail
  refine (isForm_yes _ _ (by decide) (by decide)).mono ?_
  rintro e w' ⟨rfl, rfl⟩
  go_wp2_with fail
  refine (isForm_yes _ _ (by decide) (by decide)).mono ?_
  rintro e w' ⟨rfl, rfl⟩
  go_wp2_with fail
  refine (isMirror_any _ false _ (by decide)).mono ?_
  rintro e w' ⟨rfl, rfl⟩
  go_wp2_with fail
  refine (isMirror_any _ false _ (by decide)).mono ?_
  rintro e w' ⟨rfl, rfl⟩
  go_wp2_with fail
  refine (isMirror_any _ false _ (by decide)).mono ?_
  rintro e w' ⟨rfl, rfl⟩
  go_wp2_with fail
  go_ret2
  exact ⟨rfl, rfl⟩
theorem implBehind_1_1 (w : World) : Calls Try.prog 29 #[.int .i64 1, .int .i64 1] w fun e w' => e = .returned (.tuple #[.int .i64 (behN 1 1 : Nat), .bool true]) ∧ w = w' := by
  go_enter Try.func29, Try.ntmps29
  go_wp2_with fail
  refine (isForm_yes _ _ (by decide) (by decide)).mono ?_
  rintro e w' ⟨rfl, rfl⟩
  go_wp2_with fail
  refine (isForm_yes _ _ (by decide) (by decide)).mono ?_
  rintro e w' ⟨rfl, rfl⟩
  go_wp2_with fail
  refine (isMirror_any _ false _ (by decide)).mono ?_
  rintro e w' ⟨rfl, rfl⟩
  go_wp2_with fail
  refine (isMirror_any _ false _ (by decide)).mono ?_
  rintro e w' ⟨rfl, rfl⟩
  go_wp2_with fail
  refine (isMirror_any _ false _ (by decide)).mono ?_
  rintro e w' ⟨rfl, rfl⟩
  go_wp2_with fail
  go_ret2
  exact ⟨rfl, rfl⟩
theorem implBehind_1_2 (w : World) : Calls Try.prog 29 #[.int .i64 1, .int .i64 2] w fun e w' => e = .returned (.tuple #[.int .i64 (behN 1 2 : Nat), .bool true]) ∧ w = w' := by
  go_enter Try.func29, Try.ntmps29
  go_wp2_with fail
  refine (isForm_yes _ _ (by decide) (by decide)).mono ?_
  rintro e w' ⟨rfl, rfl⟩
  go_wp2_with fail
  refine (isForm_yes _ _ (by decide) (by decide)).mono ?_
  rintro e w' ⟨rfl, rfl⟩
  go_wp2_with fail
  refine (isMirror_any _ false _ (by decide)).mono ?_
  rintro e w' ⟨rfl, rfl⟩
  go_wp2_with fail
  refine (isMirror_any _ false _ (by decide)).mono ?_
  rintro e w' ⟨rfl, rfl⟩
  go_wp2_with fail
  refine (isMirror_any _ false _ (by decide)).mono ?_
  rintro e w' ⟨rfl, rfl⟩
  go_wp2_with fail
  go_ret2
  exact ⟨rfl, rfl⟩
theorem implBehind_1_3 (w : World) : Calls Try.prog 29 #[.int .i64 1, .int .i64 3] w fun e w' => e = .returned (.tuple #[.int .i64 (behN 1 3 : Nat), .bool true]) ∧ w = w' := by
  go_enter Try.func29, Try.ntmps29
  go_wp2_with fail
  refine (isForm_yes _ _ (by decide) (by decide)).mono ?_
  rintro e w' ⟨rfl, rfl⟩
  go_wp2_with fail
  refine (isForm_yes _ _ (by decide) (by decide)).mono ?_
  rintro e w' ⟨rfl, rfl⟩
  go_wp2_with fail
  refine (isMirror_any _ false _ (by decide)).mono ?_
  rintro e w' ⟨rfl, rfl⟩
  go_wp2_with fail
  refine (isMirror_any _ false _ (by decide)).mono ?_
  rintro e w' ⟨rfl, rfl⟩
  go_wp2_with fail
  refine (isMirror_any _ false _ (by decide)).mono ?_
  rintro e w' ⟨rfl, rfl⟩
  go_wp2_with fail
  go_ret2
  exact ⟨rfl, rfl⟩
theorem implBehind_1_4 (w : World) : Calls Try.prog 29 #[.int .i64 1, .int .i64 4] w fun e w' => e = .returned (.tuple #[.int .i64 (behN 1 4 : Nat), .bool true]) ∧ w = w' := by
  go_enter Try.func29, Try.ntmps29
  go_wp2_with fail
  refine (isForm_yes _ _ (by decide) (by decide)).mono ?_
  rintro e w' ⟨rfl, rfl⟩
  go_wp2_with fail
  refine (isForm_yes _ _ (by decide) (by decide)).mono ?_
  rintro e w' ⟨rfl, rfl⟩
  go_wp2_with fail
  refine (isMirror_any _ false _ (by decide)).mono ?_
  rintro e w' ⟨rfl, rfl⟩
  go_wp2_with fail
  refine (isMirror_any _ false _ (by decide)).mono ?_
  rintro e w' ⟨rfl, rfl⟩
  go_wp2_with fail
  refine (isMirror_any _ true _ (by decide)).mono ?_
  rintro e w' ⟨rfl, rfl⟩
  go_wp2_with fail
  go_ret2
  exact ⟨rfl, rfl⟩
theorem implBehind_1_5 (w : World) : Calls Try.prog 29 #[.int .i64 1, .int .i64 5] w fun e w' => e = .returned (.tuple #[.int .i64 (behN 1 5 : Nat), .bool true]) ∧ w = w' := by
  go_enter Try.func29, Try.ntmps29
  go_wp2_with fail
  refine (isForm_yes _ _ (by decide) (by decide)).mono ?_
  rintro e w' ⟨rfl, rfl⟩
  go_wp2_with fail
  refine (isForm_yes _ _ (by decide) (by decide)).mono ?_
  rintro e w' ⟨rfl, rfl⟩
  go_wp2_with fail
  refine (isMirror_any _ false _ (by decide)).mono ?_
  rintro e w' ⟨rfl, rfl⟩
  go_wp2_with fail
  refine (isMirror_any _ false _ (by decide)).mono ?_
  rintro e w' ⟨rfl, rfl⟩
  go_wp2_with fail
  refine (isMirror_any _ true _ (by decide)).mono ?_
  rintro e w' ⟨rfl, rfl⟩
  go_wp2_with fail
  go_ret2
  exact ⟨rfl, rfl⟩
theorem implBehind_1_6 (w : World) : Calls Try.prog 29 #[.int .i64 1, .int .i64 6] w fun e w' => e = .returned (.tuple #[.int .i64 (behN 1 6 : Nat), .bool true]) ∧ w = w' := by
  go_enter Try.func29, Try.ntmps29
  go_wp2_with fail
  refine (isForm_yes _ _ (by decide) (by decide)).mono ?_
  rintro e w' ⟨rfl, rfl⟩
  go_wp2_with fail
  refine (isForm_yes _ _ (by decide) (by decide)).mono ?_
  rintro e w' ⟨rfl, rfl⟩
  go_wp2_with fail
  refine (isMirror_any _ false _ (by decide)).mono ?_
  rintro e w' ⟨rfl, rfl⟩
  go_wp2_with fail
  refine (isMirror_any _ false _ (by decide)).mono ?_
  rintro e w' ⟨rfl, rfl⟩
  go_wp2_with fail
  refine (isMirror_any _ true _ (by decide)).mono ?_
  rintro e w' ⟨rfl, rfl⟩
  go_wp2_with fail
  go_ret2
  exact ⟨rfl, rfl⟩
theorem implBehind_1_7 (w : World) : Calls Try.prog 29 #[.int .i64 1, .int .i64 7] w fun e w' => e = .returned (.tuple #[.int .i64 (behN 1 7 : Nat), .bool true]) ∧ w = w' := by
  go_enter Try.func29, Try.ntmps29
  go_wp2_with fail
  refine (isForm_yes _ _ (by decide) (by decide)).mono ?_
  rintro e w' ⟨rfl, rfl⟩
  go_wp2_with fail
  refine (isForm_yes _ _ (by decide) (by decide)).mono ?_
  rintro e w' ⟨rfl, rfl⟩
  go_wp2_with fail
  refine (isMirror_any _ false _ (by decide)).mono ?_
  rintro e w' ⟨rfl, rfl⟩
  go_wp2_with fail
  refine (isMirror_any _ false _ (by decide)).mono ?_
  rintro e w' ⟨rfl, rfl⟩
  go_wp2_with fail
  refine (isMirror_any _ true _ (by decide)).mono ?_
  rintro e w' ⟨rfl, rfl⟩
  go_wp2_with fail
  go_ret2
  exact ⟨rfl, rfl⟩
theorem implBehind_2_0 (w : World) : Calls Try.prog 29 #[.int .i64 2, .int .i64 0] w fun e w' => e = .returned (.tuple #[.int .i64 (behN 2 0 : Nat), .bool true]) ∧ w = w' := by
  go_enter Try.func29, Try.ntmps29
  go_wp2_with fail
  refine (isForm_yes _ _ (by decide) (by decide)).mono ?_
  rintro e w' ⟨rfl, rfl⟩
  go_wp2_with fail
  refine (isForm_yes _ _ (by decide) (by decide)).mono ?_
  rintro e w' ⟨rfl, rfl⟩
  go_wp2_with fail
  refine (isMirror_any _ false _ (by decide)).mono ?_
  rintro e w' ⟨rfl, rfl⟩
  go_wp2_with fail
  refine (isMirror_any _ false _ (by decide)).mono ?_
  rintro e w' ⟨rfl, rfl⟩
  go_wp2_with fail
  refine (isMirror_any _ false _ (by decide)).mono ?_
  rintro e w' ⟨rfl, rfl⟩
  go_wp2_with fail
  go_ret2
  exact ⟨rfl, rfl⟩
theorem implBehind_2_1 (w : World) : Calls Try.prog 29 #[.int .i64 2, .int .i64 1] w fun e w' => e = .returned (.tuple #[.int .i64 (behN 2 1 : Nat), .bool true]) ∧ w = w' := by
  go_enter Try.func29, Try.ntmps29
  go_wp2_with fail
  refine (isForm_yes _ _ (by decide) (by decide)).mono ?_
  rintro e w' ⟨rfl, rfl⟩
  go_wp2_with fail
  refine (isForm_yes _ _ (by decide) (by decide)).mono ?_
  rintro e w' ⟨rfl, rfl⟩
  go_wp2_with fail
  refine (isMirror_any _ false _ (by decide)).mono ?_
  rintro e w' ⟨rfl, rfl⟩
  go_wp2_with fail
  refine (isMirror_any _ false _ (by decide)).mono ?_
  rintro e w' ⟨rfl, rfl⟩
  go_wp2_with fail
  refine (isMirror_any _ false _ (by decide)).mono ?_
  rintro e w' ⟨rfl, rfl⟩
  go_wp2_with fail
  go_ret2
  exact ⟨rfl, rfl⟩
theorem implBehind_2_2 (w : World) : Calls Try.prog 29 #[.int .i64 2, .int .i64 2] w fun e w' => e = .returned (.tuple #[.int .i64 (behN 2 2 : Nat), .bool true]) ∧ w = w' := by
  go_enter Try.func29, Try.ntmps29
  go_wp2_with fail
  refine (isForm_yes _ _ (by decide) (by decide)).mono ?_
  rintro e w' ⟨rfl, rfl⟩
  go_wp2_with fail
  refine (isForm_yes _ _ (by decide) (by decide)).mono ?_
  rintro e w' ⟨rfl, rfl⟩
  go_wp2_with fail
  refine (isMirror_any _ false _ (by decide)).mono ?_
  rintro e w' ⟨rfl, rfl⟩
  go_wp2_with fail
  refine (isMirror_any _ false _ (by decide)).mono ?_
  rintro e w' ⟨rfl, rfl⟩
  go_wp2_with fail
  refine (isMirror_any _ false _ (by decide)).mono ?_
  rintro e w' ⟨rfl, rfl⟩
  go_wp2_with fail
  go_ret2
  exact ⟨rfl, rfl⟩
theorem implBehind_2_3 (w : World) : Calls Try.prog 29 #[.int .i64 2, .int .i64 3] w fun e w' => e = .returned (.tuple #[.int .i64 (behN 2 3 : Nat), .bool true]) ∧ w = w' := by
  go_enter Try.func29, Try.ntmps29
  go_wp2_with fail
  refine (isForm_yes _ _ (by decide) (by decide)).mono ?_
  rintro e w' ⟨rfl, rfl⟩
  go_wp2_with fail
  refine (isForm_yes _ _ (by decide) (by decide)).mono ?_
  rintro e w' ⟨rfl, rfl⟩
  go_wp2_with fail
  refine (isMirror_any _ false _ (by decide)).mono ?_
  rintro e w' ⟨rfl, rfl⟩
  go_wp2_with fail
  refine (isMirror_any _ false _ (by decide)).mono ?_
  rintro e w' ⟨rfl, rfl⟩
  go_wp2_with fail
  refine (isMirror_any _ false _ (by decide)).mono ?_
  rintro e w' ⟨rfl, rfl⟩
  go_wp2_with fail
  go_ret2
  exact ⟨rfl, rfl⟩
theorem implBehind_2_4 (w : World) : Calls Try.prog 29 #[.int .i64 2, .int .i64 4] w fun e w' => e = .returned (.tuple #[.int .i64 (behN 2 4 : Nat), .bool true]) ∧ w = w' := by
  go_enter Try.func29, Try.ntmps29
  go_wp2_with fail
  refine (isForm_yes _ _ (by decide) (by decide)).mono ?_
  rintro e w' ⟨rfl, rfl⟩
  go_wp2_with fail
  refine (isForm_yes _ _ (by decide) (by decide)).mono ?_
  rintro e w' ⟨rfl, rfl⟩
  go_wp2_with fail
  refine (isMirror_any _ false _ (by decide)).mono ?_
  rintro e w' ⟨rfl, rfl⟩
  go_wp2_with fail
  refine (isMirror_any _ false _ (by decide)).mono ?_
  rintro e w' ⟨rfl, rfl⟩
  go_wp2_with fail
  refine (isMirror_any _ true _ (by decide)).mono ?_
  rintro e w' ⟨rfl, rfl⟩
  go_wp2_with fail
  go_ret2
  exact ⟨rfl, rfl⟩
theorem implBehind_2_5 (w : World) : Calls Try.prog 29 #[.int .i64 2, .int .i64 5] w fun e w' => e = .returned (.tuple #[.int .i64 (behN 2 5 : Nat), .bool true]) ∧ w = w' := by
  go_enter Try.func29, Try.ntmps29
  go_wp2_with fail
  refine (isForm_yes _ _ (by decide) (by decide)).mono ?_
  rintro e w' ⟨rfl, rfl⟩
  go_wp2_with fail
  refine (isForm_yes _ _ (by decide) (by decide)).mono ?_
  rintro e w' ⟨rfl, rfl⟩
  go_wp2_with fail
  refine (isMirror_any _ false _ (by decide)).mono ?_
  rintro e w' ⟨rfl, rfl⟩
  go_wp2_with fail
  refine (isMirror_any _ false _ (by decide)).mono ?_
  rintro e w' ⟨rfl, rfl⟩
  go_wp2_with fail
  refine (isMirror_any _ true _ (by decide)).mono ?_
  rintro e w' ⟨rfl, rfl⟩
  go_wp2_with fail
  go_ret2
  exact ⟨rfl, rfl⟩
theorem implBehind_2_6 (w : World) : Calls Try.prog 29 #[.int .i64 2, .int .i64 6] w fun e w' => e = .returned (.tuple #[.int .i64 (behN 2 6 : Nat), .bool true]) ∧ w = w' := by
  go_enter Try.func29, Try.ntmps29
  go_wp2_with fail
  refine (isForm_yes _ _ (by decide) (by decide)).mono ?_
  rintro e w' ⟨rfl, rfl⟩
  go_wp2_with fail
  refine (isForm_yes _ _ (by decide) (by decide)).mono ?_
  rintro e w' ⟨rfl, rfl⟩
  go_wp2_with fail
  refine (isMirror_any _ false _ (by decide)).mono ?_
  rintro e w' ⟨rfl, rfl⟩
  go_wp2_with fail
  refine (isMirror_any _ false _ (by decide)).mono ?_
  rintro e w' ⟨rfl, rfl⟩
  go_wp2_with fail
  refine (isMirror_any _ true _ (by decide)).mono ?_
  rintro e w' ⟨rfl, rfl⟩
  go_wp2_with fail
  go_ret2
  exact ⟨rfl, rfl⟩
theorem implBehind_2_7 (w : World) : Calls Try.prog 29 #[.int .i64 2, .int .i64 7] w fun e w' => e = .returned (.tuple #[.int .i64 (behN 2 7 : Nat), .bool true]) ∧ w = w' := by
  go_enter Try.func29, Try.ntmps29
  go_wp2_with fail
  refine (isForm_yes _ _ (by decide) (by decide)).mono ?_
  rintro e w' ⟨rfl, rfl⟩
  go_wp2_with fail
  refine (isForm_yes _ _ (by decide) (by decide)).mono ?_
  rintro e w' ⟨rfl, rfl⟩
  go_wp2_with fail
  refine (isMirror_any _ false _ (by decide)).mono ?_
  rintro e w' ⟨rfl, rfl⟩
  go_wp2_with fail
  refine (isMirror_any _ false _ (by decide)).mono ?_
  rintro e w' ⟨rfl, rfl⟩
  go_wp2_with fail
  refine (isMirror_any _ true _ (by decide)).mono ?_
  rintro e w' ⟨rfl, rfl⟩
  go_wp2_with fail
  go_ret2
  exact ⟨rfl, rfl⟩
theorem implBehind_3_0 (w : World) : Calls Try.prog 29 #[.int .i64 3, .int .i64 0] w fun e w' => e = .returned (.tuple #[.int .i64 (behN 3 0 : Nat), .bool true]) ∧ w = w' := by
  go_enter Try.func29, Try.ntmps29
  go_wp2_with fail
  refine (isForm_yes _ _ (by decide) (by decide)).mono ?_
  rintro e w' ⟨rfl, rfl⟩
  go_wp2_with fail
  refine (isForm_yes _ _ (by decide) (by decide)).mono ?_
  rintro e w' ⟨rfl, rfl⟩
  go_wp2_with fail
  refine (isMirror_any _ false _ (by decide)).mono ?_
  rintro e w' ⟨rfl, rfl⟩
  go_wp2_with fail
  refine (isMirror_any _ false _ (by decide)).mono ?_
  rintro e w' ⟨rfl, rfl⟩
  go_wp2_with fail
  refine (isMirror_any _ false _ (by decide)).mono ?_
  rintro e w' ⟨rfl, rfl⟩
  go_wp2_with fail
  go_ret2
  exact ⟨rfl, rfl⟩
theorem implBehind_3_1 (w : World) : Calls Try.prog 29 #[.int .i64 3, .int .i64 1] w fun e w' => e = .returned (.tuple #[.int .i64 (behN 3 1 : Nat), .bool true]) ∧ w = w' := by
  go_enter Try.func29, Try.ntmps29
  go_wp2_with fail
  refine (isForm_yes _ _ (by decide) (by decide)).mono ?_
  rintro e w' ⟨rfl, rfl⟩
  go_wp2_with fail
  refine (isForm_yes _ _ (by decide) (by decide)).mono ?_
  rintro e w' ⟨rfl, rfl⟩
  go_wp2_with fail
  refine (isMirror_any _ false _ (by decide)).mono ?_
  rintro e w' ⟨rfl, rfl⟩
  go_wp2_with fail
  refine (isMirror_any _ false _ (by decide)).mono ?_
  rintro e w' ⟨rfl, rfl⟩
  go_wp2_with fail
  refine (isMirror_any _ false _ (by decide)).mono ?_
  rintro e w' ⟨rfl, rfl⟩
  go_wp2_with fail
  go_ret2
  exact ⟨rfl, rfl⟩
theorem implBehind_3_2 (w : World) : Calls Try.prog 29 #[.int .i64 3, .int .i64 2] w fun e w' => e = .returned (.tuple #[.int .i64 (behN 3 2 : Nat), .bool true]) ∧ w = w' := by
  go_enter Try.func29, Try.ntmps29
  go_wp2_with fail
  refine (isForm_yes _ _ (by decide) (by decide)).mono ?_
  rintro e w' ⟨rfl, rfl⟩
  go_wp2_with fail
  refine (isForm_yes _ _ (by decide) (by decide)).mono ?_
  rintro e w' ⟨rfl, rfl⟩
  go_wp2_with fail
  refine (isMirror_any _ false _ (by decide)).mono ?_
  rintro e w' ⟨rfl, rfl⟩
  go_wp2_with fail
  refine (isMirror_any _ false _ (by decide)).mono ?_
  rintro e w' ⟨rfl, rfl⟩
  go_wp2_with fail
  refine (isMirror_any _ false _ (by decide)).mono ?_
  rintro e w' ⟨rfl, rfl⟩
  go_wp2_with fail
  go_ret2
  exact ⟨rfl, rfl⟩
theorem implBehind_3_3 (w : World) : Calls Try.prog 29 #[.int .i64 3, .int .i64 3] w fun e w' => e = .returned (.tuple #[.int .i64 (behN 3 3 : Nat), .bool true]) ∧ w = w' := by
  go_enter Try.func29, Try.ntmps29
  go_wp2_with fail
  refine (isForm_yes _ _ (by decide) (by decide)).mono ?_
  rintro e w' ⟨rfl, rfl⟩
  go_wp2_with fail
  refine (isForm_yes _ _ (by decide) (by decide)).mono ?_
  rintro e w' ⟨rfl, rfl⟩
  go_wp2_with fail
  refine (isMirror_any _ false _ (by decide)).mono ?_
  rintro e w' ⟨rfl, rfl⟩
  go_wp2_with fail
  refine (isMirror_any _ false _ (by decide)).mono ?_
  rintro e w' ⟨rfl, rfl⟩
  go_wp2_with fail
  refine (isMirror_any _ false _ (by decide)).mono ?_
  rintro e w' ⟨rfl, rfl⟩
  go_wp2_with fail
  go_ret2
  exact ⟨rfl, rfl⟩
theorem implBehind_3_4 (w : World) : Calls Try.prog 29 #[.int .i64 3, .int .i64 4] w fun e w' => e = .returned (.tuple #[.int .i64 (behN 3 4 : Nat), .bool true]) ∧ w = w' := by
  go_enter Try.func29, Try.ntmps29
  go_wp2_with fail
  refine (isForm_yes _ _ (by decide) (by decide)).mono ?_
  rintro e w' ⟨rfl, rfl⟩
  go_wp2_with fail
  refine (isForm_yes _ _ (by decide) (by decide)).mono ?_
  rintro e w' ⟨rfl, rfl⟩
  go_wp2_with fail
  refine (isMirror_any _ false _ (by decide)).mono ?_
  rintro e w' ⟨rfl, rfl⟩
  go_wp2_with fail
  refine (isMirror_any _ false _ (by decide)).mono ?_
  rintro e w' ⟨rfl, rfl⟩
  go_wp2_with fail
  refine (isMirror_any _ true _ (by decide)).mono ?_
  rintro e w' ⟨rfl, rfl⟩
  go_wp2_with fail
  go_ret2
  exact ⟨rfl, rfl⟩
theorem implBehind_3_5 (w : World) : Calls Try.prog 29 #[.int .i64 3, .int .i64 5] w fun e w' => e = .returned (.tuple #[.int .i64 (behN 3 5 : Nat), .bool true]) ∧ w = w' := by
  go_enter Try.func29, Try.ntmps29
  go_wp2_with fail
  refine (isForm_yes _ _ (by decide) (by decide)).mono ?_
  rintro e w' ⟨rfl, rfl⟩
  go_wp2_with fail
  refine (isForm_yes _ _ (by decide) (by decide)).mono ?_
  rintro e w' ⟨rfl, rfl⟩
  go_wp2_with fail
  refine (isMirror_any _ false _ (by decide)).mono ?_
  rintro e w' ⟨rfl, rfl⟩
  go_wp2_with fail
  refine (isMirror_any _ false _ (by decide)).mono ?_
  rintro e w' ⟨rfl, rfl⟩
  go_wp2_with fail
  refine (isMirror_any _ true _ (by decide)).mono ?_
  rintro e w' ⟨rfl, rfl⟩
  go_wp2_with fail
  go_ret2
  exact ⟨rfl, rfl⟩
theorem implBehind_3_6 (w : World) : Calls Try.prog 29 #[.int .i64 3, .int .i64 6] w fun e w' => e = .returned (.tuple #[.int .i64 (behN 3 6 : Nat), .bool true]) ∧ w = w' := by
  go_enter Try.func29, Try.ntmps29
  go_wp2_with fail
  refine (isForm_yes _ _ (by decide) (by decide)).mono ?_
  rintro e w' ⟨rfl, rfl⟩
  go_wp2_with fail
  refine (isForm_yes _ _ (by decide) (by decide)).mono ?_
  rintro e w' ⟨rfl, rfl⟩
  go_wp2_with fail
  refine (isMirror_any _ false _ (by decide)).mono ?_
  rintro e w' ⟨rfl, rfl⟩
  go_wp2_with fail
  refine (isMirror_any _ false _ (by decide)).mono ?_
  rintro e w' ⟨rfl, rfl⟩
  go_wp2_with fail
  refine (isMirror_any _ true _ (by decide)).mono ?_
  rintro e w' ⟨rfl, rfl⟩
  go_wp2_with fail
  go_ret2
  exact ⟨rfl, rfl⟩
theorem implBehind_3_7 (w : World) : Calls Try.prog 29 #[.int .i64 3, .int .i64 7] w fun e w' => e = .returned (.tuple #[.int .i64 (behN 3 7 : Nat), .bool true]) ∧ w = w' := by
  go_enter Try.func29, Try.ntmps29
  go_wp2_with fail
  refine (isForm_yes _ _ (by decide) (by decide)).mono ?_
  rintro e w' ⟨rfl, rfl⟩
  go_wp2_with fail
  refine (isForm_yes _ _ (by decide) (by decide)).mono ?_
  rintro e w' ⟨rfl, rfl⟩
  go_wp2_with fail
  refine (isMirror_any _ false _ (by decide)).mono ?_
  rintro e w' ⟨rfl, rfl⟩
  go_wp2_with fail
  refine (isMirror_any _ false _ (by decide)).mono ?_
  rintro e w' ⟨rfl, rfl⟩
  go_wp2_with fail
  refine (isMirror_any _ true _ (by decide)).mono ?_
  rintro e w' ⟨rfl, rfl⟩
  go_wp2_with fail
  go_ret2
  exact ⟨rfl, rfl⟩
theorem implBehind_4_0 (w : World) : Calls Try.prog 29 #[.int .i64 4, .int .i64 0] w fun e w' => e = .returned (.tuple #[.int .i64 (behN 4 0 : Nat), .bool true]) ∧ w = w' := by
  go_enter Try.func29, Try.ntmps29
  go_wp2_with fail
  refine (isForm_yes _ _ (by decide) (by decide)).mono ?_
  rintro e w' ⟨rfl, rfl⟩
  go_wp2_with fail
  refine (isForm_yes _ _ (by decide) (by decide)).mono ?_
  rintro e w' ⟨rfl, rfl⟩
  go_wp2_with fail
  refine (isMirror_any _ true _ (by decide)).mono ?_
  rintro e w' ⟨rfl, rfl⟩
  go_wp2_with fail
  refine (isMirror_any _ true _ (by decide)).mono ?_
  rintro e w' ⟨rfl, rfl⟩
  go_wp2_with fail
  refine (isMirror_any _ false _ (by decide)).mono ?_
  rintro e w' ⟨rfl, rfl⟩
  go_wp2_with fail
  go_ret2
  exact ⟨rfl, rfl⟩
theorem implBehind_4_1 (w : World) : Calls Try.prog 29 #[.int .i64 4, .int .i64 1] w fun e w' => e = .returned (.tuple #[.int .i64 (behN 4 1 : Nat), .bool true]) ∧ w = w' := by
  go_enter Try.func29, Try.ntmps29
  go_wp2_with fail
  refine (isForm_yes _ _ (by decide) (by decide)).mono ?_
  rintro e w' ⟨rfl, rfl⟩
  go_wp2_with fail
  refine (isForm_yes _ _ (by decide) (by decide)).mono ?_
  rintro e w' ⟨rfl, rfl⟩
  go_wp2_with fail
  refine (isMirror_any _ true _ (by decide)).mono ?_
  rintro e w' ⟨rfl, rfl⟩
  go_wp2_with fail
  refine (isMirror_any _ true _ (by decide)).mono ?_
  rintro e w' ⟨rfl, rfl⟩
  go_wp2_with fail
  refine (isMirror_any _ false _ (by decide)).mono ?_
  rintro e w' ⟨rfl, rfl⟩
  go_wp2_with fail
  go_ret2
  exact ⟨rfl, rfl⟩
theorem implBehind_4_2 (w : World) : Calls Try.prog 29 #[.int .i64 4, .int .i64 2] w fun e w' => e = .returned (.tuple #[.int .i64 (behN 4 2 : Nat), .bool true]) ∧ w = w' := by
  go_enter Try.func29, Try.ntmps29
  go_wp2_with fail
  refine (isForm_yes _ _ (by decide) (by decide)).mono ?_
  rintro e w' ⟨rfl, rfl⟩
  go_wp2_with fail
  refine (isForm_yes _ _ (by decide) (by decide)).mono ?_
  rintro e w' ⟨rfl, rfl⟩
  go_wp2_with fail
  refine (isMirror_any _ true _ (by decide)).mono ?_
  rintro e w' ⟨rfl, rfl⟩
  go_wp2_with fail
  refine (isMirror_any _ true _ (by decide)).mono ?_
  rintro e w' ⟨rfl, rfl⟩
  go_wp2_with fail
  refine (isMirror_any _ false _ (by decide)).mono ?_
  rintro e w' ⟨rfl, rfl⟩
  go_wp2_with fail
  go_ret2
  exact ⟨rfl, rfl⟩
theorem implBehind_4_3 (w : World) : Calls Try.prog 29 #[.int .i64 4, .int .i64 3] w fun e w' => e = .returned (.tuple #[.int .i64 (behN 4 3 : Nat), .bool true]) ∧ w = w' := by
  go_enter Try.func29, Try.ntmps29
  go_wp2_with fail
  refine (isForm_yes _ _ (by decide) (by decide)).mono ?_
  rintro e w' ⟨rfl, rfl⟩
  go_wp2_with fail
  refine (isForm_yes _ _ (by decide) (by decide)).mono ?_
  rintro e w' ⟨rfl, rfl⟩
  go_wp2_with fail
  refine (isMirror_any _ true _ (by decide)).mono ?_
  rintro e w' ⟨rfl, rfl⟩
  go_wp2_with fail
  refine (isMirror_any _ true _ (by decide)).mono ?_
  rintro e w' ⟨rfl, rfl⟩
  go_wp2_with fail
  refine (isMirror_any _ false _ (by decide)).mono ?_
  rintro e w' ⟨rfl, rfl⟩
  go_wp2_with fail
  go_ret2
  exact ⟨rfl, rfl⟩
theorem implBehind_4_4 (w : World) : Calls Try.prog 29 #[.int .i64 4, .int .i64 4] w fun e w' => e = .returned (.tuple #[.int .i64 (behN 4 4 : Nat), .bool true]) ∧ w = w' := by
  go_enter Try.func29, Try.ntmps29
  go_wp2_with fail
  refine (isForm_yes _ _ (by decide) (by decide)).mono ?_
  rintro e w' ⟨rfl, rfl⟩
  go_wp2_with fail
  refine (isForm_yes _ _ (by decide) (by decide)).mono ?_
  rintro e w' ⟨rfl, rfl⟩
  go_wp2_with fail
  refine (isMirror_any _ true _ (by decide)).mono ?_
  rintro e w' ⟨rfl, rfl⟩
  go_wp2_with fail
  refine (isMirror_any _ true _ (by decide)).mono ?_
  rintro e w' ⟨rfl, rfl⟩
  go_wp2_with fail
  refine (isMirror_any _ true _ (by decide)).mono ?_
  rintro e w' ⟨rfl, rfl⟩
  go_wp2_with fail
  go_ret2
  exact ⟨rfl, rfl⟩
theorem implBehind_4_5 (w : World) : Calls Try.prog 29 #[.int .i64 4, .int .i64 5] w fun e w' => e = .returned (.tuple #[.int .i64 (behN 4 5 : Nat), .bool true]) ∧ w = w' := by
  go_enter Try.func29, Try.ntmps29
  go_wp2_with fail
  refine (isForm_yes _ _ (by decide) (by decide)).mono ?_
  rintro e w' ⟨rfl, rfl⟩
  go_wp2_with fail
  refine (isForm_yes _ _ (by decide) (by decide)).mono ?_
  rintro e w' ⟨rfl, rfl⟩
  go_wp2_with fail
  refine (isMirror_any _ true _ (by decide)).mono ?_
  rintro e w' ⟨rfl, rfl⟩
  go_wp2_with fail
  refine (isMirror_any _ true _ (by decide)).mono ?_
  rintro e w' ⟨rfl, rfl⟩
  go_wp2_with fail
  refine (isMirror_any _ true _ (by decide)).mono ?_
  rintro e w' ⟨rfl, rfl⟩
  go_wp2_with fail
  go_ret2
  exact ⟨rfl, rfl⟩
theorem implBehind_4_6 (w : World) : Calls Try.prog 29 #[.int .i64 4, .int .i64 6] w fun e w' => e = .returned (.tuple #[.int .i64 (behN 4 6 : Nat), .bool true]) ∧ w = w' := by
  go_enter Try.func29, Try.ntmps29
  go_wp2_with fail
  refine (isForm_yes _ _ (by decide) (by decide)).mono ?_
  rintro e w' ⟨rfl, rfl⟩
  go_wp2_with fail
  refine (isForm_yes _ _ (by decide) (by decide)).mono ?_
  rintro e w' ⟨rfl, rfl⟩
  go_wp2_with fail
  refine (isMirror_any _ true _ (by decide)).mono ?_
  rintro e w' ⟨rfl, rfl⟩
  go_wp2_with fail
  refine (isMirror_any _ true _ (by decide)).mono ?_
  rintro e w' ⟨rfl, rfl⟩
  go_wp2_with fail
  refine (isMirror_any _ true _ (by decide)).mono ?_
  rintro e w' ⟨rfl, rfl⟩
  go_wp2_with fail
  go_ret2
  exact ⟨rfl, rfl⟩
theorem implBehind_4_7 (w : World) : Calls Try.prog 29 #[.int .i64 4, .int .i64 7] w fun e w' => e = .returned (.tuple #[.int .i64 (behN 4 7 : Nat), .bool true]) ∧ w = w' := by
  go_enter Try.func29, Try.ntmps29
  go_wp2_with fail
  refine (isForm_yes _ _ (by decide) (by decide)).mono ?_
  rintro e w' ⟨rfl, rfl⟩
  go_wp2_with fail
  refine (isForm_yes _ _ (by decide) (by decide)).mono ?_
  rintro e w' ⟨rfl, rfl⟩
  go_wp2_with fail
  refine (isMirror_any _ true _ (by decide)).mono ?_
  rintro e w' ⟨rfl, rfl⟩
  go_wp2_with fail
  refine (isMirror_any _ true _ (by decide)).mono ?_
  rintro e w' ⟨rfl, rfl⟩
  go_wp2_with fail
  refine (isMirror_any _ true _ (by decide)).mono ?_
  rintro e w' ⟨rfl, rfl⟩
  go_wp2_with fail
  go_ret2
  exact ⟨rfl, rfl⟩
theorem implBehind_5_0 (w : World) : Calls Try.prog 29 #[.int .i64 5, .int .i64 0] w fun e w' => e = .returned (.tuple #[.int .i64 (behN 5 0 : Nat), .bool true]) ∧ w = w' := by
  go_enter Try.func29, Try.ntmps29
  go_wp2_with fail
  refine (isForm_yes _ _ (by decide) (by decide)).mono ?_
  rintro e w' ⟨rfl, rfl⟩
  go_wp2_with fail
  refine (isForm_yes _ _ (by decide) (by decide)).mono ?_
  rintro e w' ⟨rfl, rfl⟩
  go_wp2_with fail
  refine (isMirror_any _ true _ (by decide)).mono ?_
  rintro e w' ⟨rfl, rfl⟩
  go_wp2_with fail
  refine (isMirror_any _ true _ (by decide)).mono ?_
  rintro e w' ⟨rfl, rfl⟩
  go_wp2_with fail
  refine (isMirror_any _ false _ (by decide)).mono ?_
  rintro e w' ⟨rfl, rfl⟩
  go_wp2_with fail
  go_ret2
  exact ⟨rfl, rfl⟩
theorem implBehind_5_1 (w : World) : Calls Try.prog 29 #[.int .i64 5, .int .i64 1] w fun e w' => e = .returned (.tuple #[.int .i64 (behN 5 1 : Nat), .bool true]) ∧ w = w' := by
  go_enter Try.func29, Try.ntmps29
  go_wp2_with fail
  refine (isForm_yes _ _ (by decide) (by decide)).mono ?_
  rintro e w' ⟨rfl, rfl⟩
  go_wp2_with fail
  refine (isForm_yes _ _ (by decide) (by decide)).mono ?_
  rintro e w' ⟨rfl, rfl⟩
  go_wp2_with fail
  refine (isMirror_any _ true _ (by decide)).mono ?_
  rintro e w' ⟨rfl, rfl⟩
  go_wp2_with fail
  refine (isMirror_any _ true _ (by decide)).mono ?_
  rintro e w' ⟨rfl, rfl⟩
  go_wp2_with fail
  refine (isMirror_any _ false _ (by decide)).mono ?_
  rintro e w' ⟨rfl, rfl⟩
  go_wp2_with fail
  go_ret2
  exact ⟨rfl, rfl⟩
theorem implBehind_5_2 (w : World) : Calls Try.prog 29 #[.int .i64 5, .int .i64 2] w fun e w' => e = .returned (.tuple #[.int .i64 (behN 5 2 : Nat), .bool true]) ∧ w = w' := by
  go_enter Try.func29, Try.ntmps29
  go_wp2_with fail
  refine (isForm_yes _ _ (by decide) (by decide)).mono ?_
  rintro e w' ⟨rfl, rfl⟩
  go_wp2_with fail
  refine (isForm_yes _ _ (by decide) (by decide)).mono ?_
  rintro e w' ⟨rfl, rfl⟩
  go_wp2_with fail
  refine (isMirror_any _ true _ (by decide)).mono ?_
  rintro e w' ⟨rfl, rfl⟩
  go_wp2_with fail
  refine (isMirror_any _ true _ (by decide)).mono ?_
  rintro e w' ⟨rfl, rfl⟩
  go_wp2_with fail
  refine (isMirror_any _ false _ (by decide)).mono ?_
  rintro e w' ⟨rfl, rfl⟩
  go_wp2_with fail
  go_ret2
  exact ⟨rfl, rfl⟩
theorem implBehind_5_3 (w : World) : Calls Try.prog 29 #[.int .i64 5, .int .i64 3] w fun e w' => e = .returned (.tuple #[.int .i64 (behN 5 3 : Nat), .bool true]) ∧ w = w' := by
  go_enter Try.func29, Try.ntmps29
  go_wp2_with fail
  refine (isForm_yes _ _ (by decide) (by decide)).mono ?_
  rintro e w' ⟨rfl, rfl⟩
  go_wp2_with fail
  refine (isForm_yes _ _ (by decide) (by decide)).mono ?_
  rintro e w' ⟨rfl, rfl⟩
  go_wp2_with fail
  refine (isMirror_any _ true _ (by decide)).mono ?_
  rintro e w' ⟨rfl, rfl⟩
  go_wp2_with fail
  refine (isMirror_any _ true _ (by decide)).mono ?_
  rintro e w' ⟨rfl, rfl⟩
  go_wp2_with fail
  refine (isMirror_any _ false _ (by decide)).mono ?_
  rintro e w' ⟨rfl, rfl⟩
  go_wp2_with fail
  go_ret2
  exact ⟨rfl, rfl⟩
theorem implBehind_5_4 (w : World) : Calls Try.prog 29 #[.int .i64 5, .int .i64 4] w fun e w' => e = .returned (.tuple #[.int .i64 (behN 5 4 : Nat), .bool true]) ∧ w = w' := by
  go_enter Try.func29, Try.ntmps29
  go_wp2_with fail
  refine (isForm_yes _ _ (by decide) (by decide)).mono ?_
  rintro e w' ⟨rfl, rfl⟩
  go_wp2_with fail
  refine (isForm_yes _ _ (by decide) (by decide)).mono ?_
  rintro e w' ⟨rfl, rfl⟩
  go_wp2_with fail
  refine (isMirror_any _ true _ (by decide)).mono ?_
  rintro e w' ⟨rfl, rfl⟩
  go_wp2_with fail
  refine (isMirror_any _ true _ (by decide)).mono ?_
  rintro e w' ⟨rfl, rfl⟩
  go_wp2_with fail
  refine (isMirror_any _ true _ (by decide)).mono ?_
  rintro e w' ⟨rfl, rfl⟩
  go_wp2_with fail
  go_ret2
  exact ⟨rfl, rfl⟩
theorem implBehind_5_5 (w : World) : Calls Try.prog 29 #[.int .i64 5, .int .i64 5] w fun e w' => e = .returned (.tuple #[.int .i64 (behN 5 5 : Nat), .bool true]) ∧ w = w' := by
  go_enter Try.func29, Try.ntmps29
  go_wp2_with fail
  refine (isForm_yes _ _ (by decide) (by decide)).mono ?_
  rintro e w' ⟨rfl, rfl⟩
  go_wp2_with fail
  refine (isForm_yes _ _ (by decide) (by decide)).mono ?_
  rintro e w' ⟨rfl, rfl⟩
  go_wp2_with fail
  refine (isMirror_any _ true _ (by decide)).mono ?_
  rintro e w' ⟨rfl, rfl⟩
  go_wp2_with fail
  refine (isMirror_any _ true _ (by decide)).mono ?_
  rintro e w' ⟨rfl, rfl⟩
  go_wp2_with fail
  refine (isMirror_any _ true _ (by decide)).mono ?_
  rintro e w' ⟨rfl, rfl⟩
  go_wp2_with fail
  go_ret2
  exact ⟨rfl, rfl⟩
theorem implBehind_5_6 (w : World) : Calls Try.prog 29 #[.int .i64 5, .int .i64 6] w fun e w' => e = .returned (.tuple #[.int .i64 (behN 5 6 : Nat), .bool true]) ∧ w = w' := by
  go_enter Try.func29, Try.ntmps29
  go_wp2_with fail
  refine (isForm_yes _ _ (by decide) (by decide)).mono ?_
  rintro e w' ⟨rfl, rfl⟩
  go_wp2_with fail
  refine (isForm_yes _ _ (by decide) (by decide)).mono ?_
  rintro e w' ⟨rfl, rfl⟩
  go_wp2_with fail
  refine (isMirror_any _ true _ (by decide)).mono ?_
  rintro e w' ⟨rfl, rfl⟩
  go_wp2_with fail
  refine (isMirror_any _ true _ (by decide)).mono ?_
  rintro e w' ⟨rfl, rfl⟩
  go_wp2_with fail
  refine (isMirror_any _ true _ (by decide)).mono ?_
  rintro e w' ⟨rfl, rfl⟩
  go_wp2_with fail
  go_ret2
  exact ⟨rfl, rfl⟩
theorem implBehind_5_7 (w : World) : Calls Try.prog 29 #[.int .i64 5, .int .i64 7] w fun e w' => e = .returned (.tuple #[.int .i64 (behN 5 7 : Nat), .bool true]) ∧ w = w' := by
  go_enter Try.func29, Try.ntmps29
  go_wp2_with fail
  refine (isForm_yes _ _ (by decide) (by decide)).mono ?_
  rintro e w' ⟨rfl, rfl⟩
  go_wp2_with fail
  refine (isForm_yes _ _ (by decide) (by decide)).mono ?_
  rintro e w' ⟨rfl, rfl⟩
  go_wp2_with fail
  refine (isMirror_any _ true _ (by decide)).mono ?_
  rintro e w' ⟨rfl, rfl⟩
  go_wp2_with fail
  refine (isMirror_any _ true _ (by decide)).mono ?_
  rintro e w' ⟨rfl, rfl⟩
  go_wp2_with fail
  refine (isMirror_any _ true _ (by decide)).mono ?_
  rintro e w' ⟨rfl, rfl⟩
  go_wp2_with fail
  go_ret2
  exact ⟨rfl, rfl⟩
theorem implBehind_6_0 (w : World) : Calls Try.prog 29 #[.int .i64 6, .int .i64 0] w fun e w' => e = .returned (.tuple #[.int .i64 (behN 6 0 : Nat), .bool true]) ∧ w = w' := by
  go_enter Try.func29, Try.ntmps29
  go_wp2_with fail
  refine (isForm_yes _ _ (by decide) (by decide)).mono ?_
  rintro e w' ⟨rfl, rfl⟩
  go_wp2_with fail
  refine (isForm_yes _ _ (by decide) (by decide)).mono ?_
  rintro e w' ⟨rfl, rfl⟩
  go_wp2_with fail
  refine (isMirror_any _ true _ (by decide)).mono ?_
  rintro e w' ⟨rfl, rfl⟩
  go_wp2_with fail
  refine (isMirror_any _ true _ (by decide)).mono ?_
  rintro e w' ⟨rfl, rfl⟩
  go_wp2_with fail
  refine (isMirror_any _ false _ (by decide)).mono ?_
  rintro e w' ⟨rfl, rfl⟩
  go_wp2_with fail
  go_ret2
  exact ⟨rfl, rfl⟩
theorem implBehind_6_1 (w : World) : Calls Try.prog 29 #[.int .i64 6, .int .i64 1] w fun e w' => e = .returned (.tuple #[.int .i64 (behN 6 1 : Nat), .bool true]) ∧ w = w' := by
  go_enter Try.func29, Try.ntmps29
  go_wp2_with fail
  refine (isForm_yes _ _ (by decide) (by decide)).mono ?_
  rintro e w' ⟨rfl, rfl⟩
  go_wp2_with fail
  refine (isForm_yes _ _ (by decide) (by decide)).mono ?_
  rintro e w' ⟨rfl, rfl⟩
  go_wp2_with fail
  refine (isMirror_any _ true _ (by decide)).mono ?_
  rintro e w' ⟨rfl, rfl⟩
  go_wp2_with fail
  refine (isMirror_any _ true _ (by decide)).mono ?_
  rintro e w' ⟨rfl, rfl⟩
  go_wp2_with fail
  refine (isMirror_any _ false _ (by decide)).mono ?_
  rintro e w' ⟨rfl, rfl⟩
  go_wp2_with fail
  go_ret2
  exact ⟨rfl, rfl⟩
theorem implBehind_6_2 (w : World) : Calls Try.prog 29 #[.int .i64 6, .int .i64 2] w fun e w' => e = .returned (.tuple #[.int .i64 (behN 6 2 : Nat), .bool true]) ∧ w = w' := by
  go_enter Try.func29, Try.ntmps29
  go_wp2_with fail
  refine (isForm_yes _ _ (by decide) (by decide)).mono ?_
  rintro e w' ⟨rfl, rfl⟩
  go_wp2_with fail
  refine (isForm_yes _ _ (by decide) (by decide)).mono ?_
  rintro e w' ⟨rfl, rfl⟩
  go_wp2_with fail
  refine (isMirror_any _ true _ (by decide)).mono ?_
  rintro e w' ⟨rfl, rfl⟩
  go_wp2_with fail
  refine (isMirror_any _ true _ (by decide)).mono ?_
  rintro e w' ⟨rfl, rfl⟩
  go_wp2_with fail
  refine (isMirror_any _ false _ (by decide)).mono ?_
  rintro e w' ⟨rfl, rfl⟩
  go_wp2_with fail
  go_ret2
  exact ⟨rfl, rfl⟩
theorem implBehind_6_3 (w : World) : Calls Try.prog 29 #[.int .i64 6, .int .i64 3] w fun e w' => e = .returned (.tuple #[.int .i64 (behN 6 3 : Nat), .bool true]) ∧ w = w' := by
  go_enter Try.func29, Try.ntmps29
  go_wp2_with fail
  refine (isForm_yes _ _ (by decide) (by decide)).mono ?_
  rintro e w' ⟨rfl, rfl⟩
  go_wp2_with fail
  refine (isForm_yes _ _ (by decide) (by decide)).mono ?_
  rintro e w' ⟨rfl, rfl⟩
  go_wp2_with fail
  refine (isMirror_any _ true _ (by decide)).mono ?_
  rintro e w' ⟨rfl, rfl⟩
  go_wp2_with fail
  refine (isMirror_any _ true _ (by decide)).mono ?_
  rintro e w' ⟨rfl, rfl⟩
  go_wp2_with fail
  refine (isMirror_any _ false _ (by decide)).mono ?_
  rintro e w' ⟨rfl, rfl⟩
  go_wp2_with fail
  go_ret2
  exact ⟨rfl, rfl⟩
theorem implBehind_6_4 (w : World) : Calls Try.prog 29 #[.int .i64 6, .int .i64 4] w fun e w' => e = .returned (.tuple #[.int .i64 (behN 6 4 : Nat), .bool true]) ∧ w = w' := by
  go_enter Try.func29, Try.ntmps29
  go_wp2_with fail
  refine (isForm_yes _ _ (by decide) (by decide)).mono ?_
  rintro e w' ⟨rfl, rfl⟩
  go_wp2_with fail
  refine (isForm_yes _ _ (by decide) (by decide)).mono ?_
  rintro e w' ⟨rfl, rfl⟩
  go_wp2_with fail
  refine (isMirror_any _ true _ (by decide)).mono ?_
  rintro e w' ⟨rfl, rfl⟩
  go_wp2_with fail
  refine (isMirror_any _ true _ (by decide)).mono ?_
  rintro e w' ⟨rfl, rfl⟩
  go_wp2_with fail
  refine (isMirror_any _ true _ (by decide)).mono ?_
  rintro e w' ⟨rfl, rfl⟩
  go_wp2_with fail
  go_ret2
  exact ⟨rfl, rfl⟩
theorem implBehind_6_5 (w : World) : Calls Try.prog 29 #[.int .i64 6, .int .i64 5] w fun e w' => e = .returned (.tuple #[.int .i64 (behN 6 5 : Nat), .bool true]) ∧ w = w' := by
  go_enter Try.func29, Try.ntmps29
  go_wp2_with fail
  refine (isForm_yes _ _ (by decide) (by decide)).mono ?_
  rintro e w' ⟨rfl, rfl⟩
  go_wp2_with fail
  refine (isForm_yes _ _ (by decide) (by decide)).mono ?_
  rintro e w' ⟨rfl, rfl⟩
  go_wp2_with fail
  refine (isMirror_any _ true _ (by decide)).mono ?_
  rintro e w' ⟨rfl, rfl⟩
  go_wp2_with fail
  refine (isMirror_any _ true _ (by decide)).mono ?_
  rintro e w' ⟨rfl, rfl⟩
  go_wp2_with fail
  refine (isMirror_any _ true _ (by decide)).mono ?_
  rintro e w' ⟨rfl, rfl⟩
  go_wp2_with fail
  go_ret2
  exact ⟨rfl, rfl⟩
theorem implBehind_6_6 (w : World) : Calls Try.prog 29 #[.int .i64 6, .int .i64 6] w fun e w' => e = .returned (.tuple #[.int .i64 (behN 6 6 : Nat), .bool true]) ∧ w = w' := by
  go_enter Try.func29, Try.ntmps29
  go_wp2_with fail
  refine (isForm_yes _ _ (by decide) (by decide)).mono ?_
  rintro e w' ⟨rfl, rfl⟩
  go_wp2_with fail
  refine (isForm_yes _ _ (by decide) (by decide)).mono ?_
  rintro e w' ⟨rfl, rfl⟩
  go_wp2_with fail
  refine (isMirror_any _ true _ (by decide)).mono ?_
  rintro e w' ⟨rfl, rfl⟩
  go_wp2_with fail
  refine (isMirror_any _ true _ (by decide)).mono ?_
  rintro e w' ⟨rfl, rfl⟩
  go_wp2_with fail
  refine (isMirror_any _ true _ (by decide)).mono ?_
  rintro e w' ⟨rfl, rfl⟩
  go_wp2_with fail
  go_ret2
  exact ⟨rfl, rfl⟩
theorem implBehind_6_7 (w : World) : Calls Try.prog 29 #[.int .i64 6, .int .i64 7] w fun e w' => e = .returned (.tuple #[.int .i64 (behN 6 7 : Nat), .bool true]) ∧ w = w' := by
  go_enter Try.func29, Try.ntmps29
  go_wp2_with fail
  refine (isForm_yes _ _ (by decide) (by decide)).mono ?_
  rintro e w' ⟨rfl, rfl⟩
  go_wp2_with fail
  refine (isForm_yes _ _ (by decide) (by decide)).mono ?_
  rintro e w' ⟨rfl, rfl⟩
  go_wp2_with fail
  refine (isMirror_any _ true _ (by decide)).mono ?_
  rintro e w' ⟨rfl, rfl⟩
  go_wp2_with fail
  refine (isMirror_any _ true _ (by decide)).mono ?_
  rintro e w' ⟨rfl, rfl⟩
  go_wp2_with fail
  refine (isMirror_any _ true _ (by decide)).mono ?_
  rintro e w' ⟨rfl, rfl⟩
  go_wp2_with fail
  go_ret2
  exact ⟨rfl, rfl⟩
theorem implBehind_7_0 (w : World) : Calls Try.prog 29 #[.int .i64 7, .int .i64 0] w fun e w' => e = .returned (.tuple #[.int .i64 (behN 7 0 : Nat), .bool true]) ∧ w = w' := by
  go_enter Try.func29, Try.ntmps29
  go_wp2_with fail
  refine (isForm_yes _ _ (by decide) (by decide)).mono ?_
  rintro e w' ⟨rfl, rfl⟩
  go_wp2_with fail
  refine (isForm_yes _ _ (by decide) (by decide)).mono ?_
  rintro e w' ⟨rfl, rfl⟩
  go_wp2_with fail
  refine (isMirror_any _ true _ (by decide)).mono ?_
  rintro e w' ⟨rfl, rfl⟩
  go_wp2_with fail
  refine (isMirror_any _ true _ (by decide)).mono ?_
  rintro e w' ⟨rfl, rfl⟩
  go_wp2_with fail
  refine (isMirror_any _ false _ (by decide)).mono ?_
  rintro e w' ⟨rfl, rfl⟩
  go_wp2_with fail
  go_ret2
  exact ⟨rfl, rfl⟩
theorem implBehind_7_1 (w : World) : Calls Try.prog 29 #[.int .i64 7, .int .i64 1] w fun e w' => e = .returned (.tuple #[.int .i64 (behN 7 1 : Nat), .bool true]) ∧ w = w' := by
  go_enter Try.func29, Try.ntmps29
  go_wp2_with fail
  refine (isForm_yes _ _ (by decide) (by decide)).mono ?_
  rintro e w' ⟨rfl, rfl⟩
  go_wp2_with fail
  refine (isForm_yes _ _ (by decide) (by decide)).mono ?_
  rintro e w' ⟨rfl, rfl⟩
  go_wp2_with fail
  refine (isMirror_any _ true _ (by decide)).mono ?_
  rintro e w' ⟨rfl, rfl⟩
  go_wp2_with fail
  refine (isMirror_any _ true _ (by decide)).mono ?_
  rintro e w' ⟨rfl, rfl⟩
  go_wp2_with fail
  refine (isMirror_any _ false _ (by decide)).mono ?_
  rintro e w' ⟨rfl, rfl⟩
  go_wp2_with fail
  go_ret2
  exact ⟨rfl, rfl⟩
theorem implBehind_7_2 (w : World) : Calls Try.prog 29 #[.int .i64 7, .int .i64 2] w fun e w' => e = .returned (.tuple #[.int .i64 (behN 7 2 : Nat), .bool true]) ∧ w = w' := by
  go_enter Try.func29, Try.ntmps29
  go_wp2_with fail
  refine (isForm_yes _ _ (by decide) (by decide)).mono ?_
  rintro e w' ⟨rfl, rfl⟩
  go_wp2_with fail
  refine (isForm_yes _ _ (by decide) (by decide)).mono ?_
  rintro e w' ⟨rfl, rfl⟩
  go_wp2_with fail
  refine (isMirror_any _ true _ (by decide)).mono ?_
  rintro e w' ⟨rfl, rfl⟩
  go_wp2_with fail
  refine (isMirror_any _ true _ (by decide)).mono ?_
  rintro e w' ⟨rfl, rfl⟩
  go_wp2_with fail
  refine (isMirror_any _ false _ (by decide)).mono ?_
  rintro e w' ⟨rfl, rfl⟩
  go_wp2_with fail
  go_ret2
  exact ⟨rfl, rfl⟩
theorem implBehind_7_3 (w : World) : Calls Try.prog 29 #[.int .i64 7, .int .i64 3] w fun e w' => e = .returned (.tuple #[.int .i64 (behN 7 3 : Nat), .bool true]) ∧ w = w' := by
  go_enter Try.func29, Try.ntmps29
  go_wp2_with fail
  refine (isForm_yes _ _ (by decide) (by decide)).mono ?_
  rintro e w' ⟨rfl, rfl⟩
  go_wp2_with fail
  refine (isForm_yes _ _ (by decide) (by decide)).mono ?_
  rintro e w' ⟨rfl, rfl⟩
  go_wp2_with fail
  refine (isMirror_any _ true _ (by decide)).mono ?_
  rintro e w' ⟨rfl, rfl⟩
  go_wp2_with fail
  refine (isMirror_any _ true _ (by decide)).mono ?_
  rintro e w' ⟨rfl, rfl⟩
  go_wp2_with fail
  refine (isMirror_any _ false _ (by decide)).mono ?_
  rintro e w' ⟨rfl, rfl⟩
  go_wp2_with fail
  go_ret2
  exact ⟨rfl, rfl⟩
theorem implBehind_7_4 (w : World) : Calls Try.prog 29 #[.int .i64 7, .int .i64 4] w fun e w' => e = .returned (.tuple #[.int .i64 (behN 7 4 : Nat), .bool true]) ∧ w = w' := by
  go_enter Try.func29, Try.ntmps29
  go_wp2_with fail
  refine (isForm_yes _ _ (by decide) (by decide)).mono ?_
  rintro e w' ⟨rfl, rfl⟩
  go_wp2_with fail
  refine (isForm_yes _ _ (by decide) (by decide)).mono ?_
  rintro e w' ⟨rfl, rfl⟩
  go_wp2_with fail
  refine (isMirror_any _ true _ (by decide)).mono ?_
  rintro e w' ⟨rfl, rfl⟩
  go_wp2_with fail
  refine (isMirror_any _ true _ (by decide)).mono ?_
  rintro e w' ⟨rfl, rfl⟩
  go_wp2_with fail
  refine (isMirror_any _ true _ (by decide)).mono ?_
  rintro e w' ⟨rfl, rfl⟩
  go_wp2_with fail
  go_ret2
  exact ⟨rfl, rfl⟩
theorem implBehind_7_5 (w : World) : Calls Try.prog 29 #[.int .i64 7, .int .i64 5] w fun e w' => e = .returned (.tuple #[.int .i64 (behN 7 5 : Nat), .bool true]) ∧ w = w' := by
  go_enter Try.func29, Try.ntmps29
  go_wp2_with fail
  refine (isForm_yes _ _ (by decide) (by decide)).mono ?_
  rintro e w' ⟨rfl, rfl⟩
  go_wp2_with fail
  refine (isForm_yes _ _ (by decide) (by decide)).mono ?_
  rintro e w' ⟨rfl, rfl⟩
  go_wp2_with fail
  refine (isMirror_any _ true _ (by decide)).mono ?_
  rintro e w' ⟨rfl, rfl⟩
  go_wp2_with fail
  refine (isMirror_any _ true _ (by decide)).mono ?_
  rintro e w' ⟨rfl, rfl⟩
  go_wp2_with fail
  refine (isMirror_any _ true _ (by decide)).mono ?_
  rintro e w' ⟨rfl, rfl⟩
  go_wp2_with fail
  go_ret2
  exact ⟨rfl, rfl⟩
theorem implBehind_7_6 (w : World) : Calls Try.prog 29 #[.int .i64 7, .int .i64 6] w fun e w' => e = .returned (.tuple #[.int .i64 (behN 7 6 : Nat), .bool true]) ∧ w = w' := by
  go_enter Try.func29, Try.ntmps29
  go_wp2_with fail
  refine (isForm_yes _ _ (by decide) (by decide)).mono ?_
  rintro e w' ⟨rfl, rfl⟩
  go_wp2_with fail
  refine (isForm_yes _ _ (by decide) (by decide)).mono ?_
  rintro e w' ⟨rfl, rfl⟩
  go_wp2_with fail
  refine (isMirror_any _ true _ (by decide)).mono ?_
  rintro e w' ⟨rfl, rfl⟩
  go_wp2_with fail
  refine (isMirror_any _ true _ (by decide)).mono ?_
  rintro e w' ⟨rfl, rfl⟩
  go_wp2_with fail
  refine (isMirror_any _ true _ (by decide)).mono ?_
  rintro e w' ⟨rfl, rfl⟩
  go_wp2_with fail
  go_ret2
  exact ⟨rfl, rfl⟩
theorem implBehind_7_7 (w : World) : Calls Try.prog 29 #[.int .i64 7, .int .i64 7] w fun e w' => e = .returned (.tuple #[.int .i64 (behN 7 7 : Nat), .bool true]) ∧ w = w' := by
  go_enter Try.func29, Try.ntmps29
  go_wp2_with fail
  refine (isForm_yes _ _ (by decide) (by decide)).mono ?_
  rintro e w' ⟨rfl, rfl⟩
  go_wp2_with fail
  refine (isForm_yes _ _ (by decide) (by decide)).mono ?_
  rintro e w' ⟨rfl, rfl⟩
  go_wp2_with fail
  refine (isMirror_any _ true _ (by decide)).mono ?_
  rintro e w' ⟨rfl, rfl⟩
  go_wp2_with fail
  refine (isMirror_any _ true _ (by decide)).mono ?_
  rintro e w' ⟨rfl, rfl⟩
  go_wp2_with fail
  refine (isMirror_any _ true _ (by decide)).mono ?_
  rintro e w' ⟨rfl, rfl⟩
  go_wp2_with fail
  go_ret2
  exact ⟨rfl, rfl⟩
set_option maxHeartbeats 1000000 in
theorem implBehind_any (k m : Int) (w : World) :
    Calls Try.prog 29 #[.int .i64 k, .int .i64 m] w fun e w' => e = .returned (.tuple #[.int .i64 (behR k m), .bool (behO k m)]) ∧ w = w' := by
  by_cases hk : 0 ≤ k ∧ k ≤ 7
  · by_cases hm : 0 ≤ m ∧ m ≤ 7
    · have y1 : behR k m = (behN k.toNat m.toNat : Nat) := by simp [behR, hk, hm]
      have y2 : behO k m = true := by simp [behO, hk, hm]
      rw [y1, y2]
      clear y1 y2
      rcases eight hk.1 hk.2 with rfl | rfl | rfl | rfl | rfl | rfl | rfl | rfl
      · rcases eight hm.1 hm.2 with rfl | rfl | rfl | rfl | rfl | rfl | rfl | rfl
        · exact implBehind_0_0 w
        · exact implBehind_0_1 w
        · exact implBehind_0_2 w
        · exact implBehind_0_3 w
        · exact implBehind_0_4 w
        · exact implBehind_0_5 w
        · exact implBehind_0_6 w
        · exact implBehind_0_7 w
      · rcases eight hm.1 hm.2 with rfl | rfl | rfl | rfl | rfl | rfl | rfl | rfl
        · exact implBehind_1_0 w
        · exact implBehind_1_1 w
        · exact implBehind_1_2 w
        · exact implBehind_1_3 w
        · exact implBehind_1_4 w
        · exact implBehind_1_5 w
        · exact implBehind_1_6 w
        · exact implBehind_1_7 w
      · rcases eight hm.1 hm.2 with rfl | rfl | rfl | rfl | rfl | rfl | rfl | rfl
        · exact implBehind_2_0 w
        · exact implBehind_2_1 w
        · exact implBehind_2_2 w
        · exact implBehind_2_3 w
        · exact implBehind_2_4 w
        · exact implBehind_2_5 w
        · exact implBehind_2_6 w
        · exact implBehind_2_7 w
      · rcases eight hm.1 hm.2 with rfl | rfl | rfl | rfl | rfl | rfl | rfl | rfl
        · exact implBehind_3_0 w
        · exact implBehind_3_1 w
        · exact implBehind_3_2 w
        · exact implBehind_3_3 w
        · exact implBehind_3_4 w
        · exact implBehind_3_5 w
        · exact implBehind_3_6 w
        · exact implBehind_3_7 w
      · rcases eight hm.1 hm.2 with rfl | rfl | rfl | rfl | rfl | rfl | rfl | rfl
        · exact implBehind_4_0 w
        · exact implBehind_4_1 w
        · exact implBehind_4_2 w
        · exact implBehind_4_3 w
        · exact implBehind_4_4 w
        · exact implBehind_4_5 w
        · exact implBehind_4_6 w
        · exact implBehind_4_7 w
      · rcases eight hm.1 hm.2 with rfl | rfl | rfl | rfl | rfl | rfl | rfl | rfl
        · exact implBehind_5_0 w
        · exact implBehind_5_1 w
        · exact implBehind_5_2 w
        · exact implBehind_5_3 w
        · exact implBehind_5_4 w
        · exact implBehind_5_5 w
        · exact implBehind_5_6 w
        · exact implBehind_5_7 w
      · rcases eight hm.1 hm.2 with rfl | rfl | rfl | rfl | rfl | rfl | rfl | rfl
        · exact implBehind_6_0 w
        · exact implBehind_6_1 w
        · exact implBehind_6_2 w
        · exact implBehind_6_3 w
        · exact implBehind_6_4 w
        · exact implBehind_6_5 w
        · exact implBehind_6_6 w
        · exact implBehind_6_7 w
      · rcases eight hm.1 hm.2 with rfl | rfl | rfl | rfl | rfl | rfl | rfl | rfl
        · exact implBehind_7_0 w
        · exact implBehind_7_1 w
        · exact implBehind_7_2 w
        · exact implBehind_7_3 w
        · exact implBehind_7_4 w
        · exact implBehind_7_5 w
        · exact implBehind_7_6 w
        · exact implBehind_7_7 w
    · have y1 : behR k m = 0 := by simp only [behR, hm, and_false, if_false]
      have y2 : behO k m = false := by simp only [behO, hm, and_false, decide_false]
      rw [y1, y2]
      clear y1 y2
      obtain ⟨k0, k1⟩ := hk
      have HM := Lib.hid (show m < 0 ∨ 7 < m by omega)
      clear hm
      go_enter Try.func29, Try.ntmps29
      go_wp2_with fail
      refine (isForm_yes _ _ k0 k1).mono ?_
      rintro e w' ⟨rfl, rfl⟩
      go_wp2_with fail
      refine (isForm_no _ _ HM.out).mono ?_
      rintro e w' ⟨rfl, rfl⟩
      go_wp2_with fail
      go_ret2
      exact ⟨rfl, rfl⟩
  · have y1 : behR k m = 0 := by simp only [behR, hk, false_and, if_false]
    have y2 : behO k m = false := by simp only [behO, hk, false_and, decide_false]
    rw [y1, y2]
    clear y1 y2
    have HK := Lib.hid (show k < 0 ∨ 7 < k by omega)
    clear hk
    go_enter Try.func29, Try.ntmps29
    go_wp2_with fail
    refine (isForm_no _ _ HK.out).mono ?_
    rintro e w' ⟨rfl, rfl⟩
    go_wp2_with fail
    go_ret2
    exact ⟨rfl, rfl⟩
theorem implBack_0 (w : World) : Calls Try.prog 31 #[.int .i64 0] w fun e w' => e = .returned (.tuple #[.int .i64 (backN 0 : Nat), .bool true]) ∧ w = w' := by
  go_enter Try.func31, Try.ntmps31
  go_wp2_with fail
  refine (isForm_yes _ _ (by decide) (by decide)).mono ?_
  rintro e w' ⟨rfl, rfl⟩
  go_wp2_with fail
  refine (isMirror_any _ false _ (by decide)).mono ?_
  rintro e w' ⟨rfl, rfl⟩
  go_wp2_with fail
  go_ret2
  exact ⟨rfl, rfl⟩
theorem implBack_1 (w : World) : Calls Try.prog 31 #[.int .i64 1] w fun e w' => e = .returned (.tuple #[.int .i64 (backN 1 : Nat), .bool true]) ∧ w = w' := by
  go_enter Try.func31, Try.ntmps31
  go_wp2_with fail
  refine (isForm_yes _ _ (by decide) (by decide)).mono ?_
  rintro e w' ⟨rfl, rfl⟩
  go_wp2_with fail
  refine (isMirror_any _ false _ (by decide)).mono ?_
  rintro e w' ⟨rfl, rfl⟩
  go_wp2_with fail
  go_ret2
  exact ⟨rfl, rfl⟩
theorem implBack_2 (w : World) : Calls Try.prog 31 #[.int .i64 2] w fun e w' => e = .returned (.tuple #[.int .i64 (backN 2 : Nat), .bool true]) ∧ w = w' := by
  go_enter Try.func31, Try.ntmps31
  go_wp2_with fail
  refine (isForm_yes _ _ (by decide) (by decide)).mono ?_
  rintro e w' ⟨rfl, rfl⟩
  go_wp2_with fail
  refine (isMirror_any _ false _ (by decide)).mono ?_
  rintro e w' ⟨rfl, rfl⟩
  go_wp2_with fail
  go_ret2
  exact ⟨rfl, rfl⟩
theorem implBack_3 (w : World) : Calls Try.prog 31 #[.int .i64 3] w fun e w' => e = .returned (.tuple #[.int .i64 (backN 3 : Nat), .bool true]) ∧ w = w' := by
  go_enter Try.func31, Try.ntmps31
  go_wp2_with fail
  refine (isForm_yes _ _ (by decide) (by decide)).mono ?_
  rintro e w' ⟨rfl, rfl⟩
  go_wp2_with fail
  refine (isMirror_any _ false _ (by decide)).mono ?_
  rintro e w' ⟨rfl, rfl⟩
  go_wp2_with fail
  go_ret2
  exact ⟨rfl, rfl⟩
theorem implBack_4 (w : World) : Calls Try.prog 31 #[.int .i64 4] w fun e w' => e = .returned (.tuple #[.int .i64 (backN 4 : Nat), .bool true]) ∧ w = w' := by
  go_enter Try.func31, Try.ntmps31
  go_wp2_with fail
  refine (isForm_yes _ _ (by decide) (by decide)).mono ?_
  rintro e w' ⟨rfl, rfl⟩
  go_wp2_with fail
  refine (isMirror_any _ true _ (by decide)).mono ?_
  rintro e w' ⟨rfl, rfl⟩
  go_wp2_with fail
  go_ret2
  exact ⟨rfl, rfl⟩
theorem implBack_5 (w : World) : Calls Try.prog 31 #[.int .i64 5] w fun e w' => e = .returned (.tuple #[.int .i64 (backN 5 : Nat), .bool true]) ∧ w = w' := by
  go_enter Try.func31, Try.ntmps31
  go_wp2_with fail
  refine (isForm_yes _ _ (by decide) (by decide)).mono ?_
  rintro e w' ⟨rfl, rfl⟩
  go_wp2_with fail
  refine (isMirror_any _ true _ (by decide)).mono ?_
  rintro e w' ⟨rfl, rfl⟩
  go_wp2_with fail
  go_ret2
  exact ⟨rfl, rfl⟩
theorem implBack_6 (w : World) : Calls Try.prog 31 #[.int .i64 6] w fun e w' => e = .returned (.tuple #[.int .i64 (backN 6 : Nat), .bool true]) ∧ w = w' := by
  go_enter Try.func31, Try.ntmps31
  go_wp2_with fail
  refine (isForm_yes _ _ (by decide) (by decide)).mono ?_
  rintro e w' ⟨rfl, rfl⟩
  go_wp2_with fail
  refine (isMirror_any _ true _ (by decide)).mono ?_
  rintro e w' ⟨rfl, rfl⟩
  go_wp2_with fail
  go_ret2
  exact ⟨rfl, rfl⟩
theorem implBack_7 (w : World) : Calls Try.prog 31 #[.int .i64 7] w fun e w' => e = .returned (.tuple #[.int .i64 (backN 7 : Nat), .bool true]) ∧ w = w' := by
  go_enter Try.func31, Try.ntmps31
  go_wp2_with fail
  refine (isForm_yes _ _ (by decide) (by decide)).mono ?_
  rintro e w' ⟨rfl, rfl⟩
  go_wp2_with fail
  refine (isMirror_any _ true _ (by decide)).mono ?_
  rintro e w' ⟨rfl, rfl⟩
  go_wp2_with fail
  go_ret2
  exact ⟨rfl, rfl⟩
theorem implBack_any (k : Int) (w : World) :
    Calls Try.prog 31 #[.int .i64 k] w fun e w' => e = .returned (.tuple #[.int .i64 (backR k), .bool (backO k)]) ∧ w = w' := by
  by_cases hk : 0 ≤ k ∧ k ≤ 7
  · have y1 : backR k = (backN k.toNat : Nat) := by simp [backR, hk]
    have y2 : backO k = true := by simp [backO, hk]
    rw [y1, y2]
    clear y1 y2
    rcases eight hk.1 hk.2 with rfl | rfl | rfl | rfl | rfl | rfl | rfl | rfl
    · exact implBack_0 w
    · exact implBack_1 w
    · exact implBack_2 w
    · exact implBack_3 w
    · exact implBack_4 w
    · exact implBack_5 w
    · exact implBack_6 w
    · exact implBack_7 w
  · have y1 : backR k = 0 := by simp only [backR, hk, if_false]
    have y2 : backO k = false := by simp only [backO, hk, decide_false]
    rw [y1, y2]
    clear y1 y2
    have HK := Lib.hid (show k < 0 ∨ 7 < k by omega)
    clear hk
    go_enter Try.func31, Try.ntmps31
    go_wp2_with fail
    refine (isForm_no _ _ HK.out).mono ?_
    rintro e w' ⟨rfl, rfl⟩
    go_wp2_with fail
    go_ret2
    exact ⟨rfl, rfl⟩
theorem implSide_0_0 (w : World) : Calls Try.prog 34 #[.int .i64 0, .int .i64 0] w fun e w' => e = .returned (.tuple #[.int .i64 (sideN 0 0 : Nat), .bool true]) ∧ w = w' := by
  go_enter Try.func34, Try.ntmps34
  go_wp2_with fail
  refine (isForm_yes _ _ (by decide) (by decide)).mono ?_
  rintro e w' ⟨rfl, rfl⟩
  go_wp2_with fail
  refine (isDirection_yes _ _ (by decide) (by decide)).mono ?_
  rintro e w' ⟨rfl, rfl⟩
  go_wp2_with fail
  refine (isMirror_any _ false _ (by decide)).mono ?_
  rintro e w' ⟨rfl, rfl⟩
  go_wp2_with fail
  go_ret2
  exact ⟨rfl, rfl⟩
theorem specSide_0_0 (w : World) : Calls Try.prog 35 #[.int .i64 0, .int .i64 0] w fun e w' => e = .returned (.tuple #[.int .i64 (sideN 0 0 : Nat), .bool true]) ∧ w = w' := by
  go_enter Try.func35, Try.ntmps35
  go_wp2_with fail
  refine (l3Form_yes _ _ (by decide) (by decide)).mono ?_
  rintro e w' ⟨rfl, rfl⟩
  go_wp2_with fail
  refine (l2Side_yes _ _ (by decide) (by decide)).mono ?_
  rintro e w' ⟨rfl, rfl⟩
  go_wp2_with fail
  go_ret2
  exact ⟨rfl, rfl⟩
theorem implSide_0_1 (w : World) : Calls Try.prog 34 #[.int .i64 0, .int .i64 1] w fun e w' => e = .returned (.tuple #[.int .i64 (sideN 0 1 : Nat), .bool true]) ∧ w = w' := by
  go_enter Try.func34, Try.ntmps34
  go_wp2_with fail
  refine (isForm_yes _ _ (by decide) (by decide)).mono ?_
  rintro e w' ⟨rfl, rfl⟩
  go_wp2_with fail
  refine (isDirection_yes _ _ (by decide) (by decide)).mono ?_
  rintro e w' ⟨rfl, rfl⟩
  go_wp2_with fail
  refine (isMirror_any _ false _ (by decide)).mono ?_
  rintro e w' ⟨rfl, rfl⟩
  go_wp2_with fail
  go_ret2
  exact ⟨rfl, rfl⟩
theorem specSide_0_1 (w : World) : Calls Try.prog 35 #[.int .i64 0, .int .i64 1] w fun e w' => e = .returned (.tuple #[.int .i64 (sideN 0 1 : Nat), .bool true]) ∧ w = w' := by
  go_enter Try.func35, Try.ntmps35
  go_wp2_with fail
  refine (l3Form_yes _ _ (by decide) (by decide)).mono ?_
  rintro e w' ⟨rfl, rfl⟩
  go_wp2_with fail
  refine (l2Side_yes _ _ (by decide) (by decide)).mono ?_
  rintro e w' ⟨rfl, rfl⟩
  go_wp2_with fail
  go_ret2
  exact ⟨rfl, rfl⟩
theorem implSide_0_2 (w : World) : Calls Try.prog 34 #[.int .i64 0, .int .i64 2] w fun e w' => e = .returned (.tuple #[.int .i64 (sideN 0 2 : Nat), .bool true]) ∧ w = w' := by
  go_enter Try.func34, Try.ntmps34
  go_wp2_with fail
  refine (isForm_yes _ _ (by decide) (by decide)).mono ?_
  rintro e w' ⟨rfl, rfl⟩
  go_wp2_with fail
  refine (isDirection_yes _ _ (by decide) (by decide)).mono ?_
  rintro e w' ⟨rfl, rfl⟩
  go_wp2_with fail
  refine (isMirror_any _ false _ (by decide)).mono ?_
  rintro e w' ⟨rfl, rfl⟩
  go_wp2_with fail
  go_ret2
  exact ⟨rfl, rfl⟩
theorem specSide_0_2 (w : World) : Calls Try.prog 35 #[.int .i64 0, .int .i64 2] w fun e w' => e = .returned (.tuple #[.int .i64 (sideN 0 2 : Nat), .bool true]) ∧ w = w' := by
  go_enter Try.func35, Try.ntmps35
  go_wp2_with fail
  refine (l3Form_yes _ _ (by decide) (by decide)).mono ?_
  rintro e w' ⟨rfl, rfl⟩
  go_wp2_with fail
  refine (l2Side_yes _ _ (by decide) (by decide)).mono ?_
  rintro e w' ⟨rfl, rfl⟩
  go_wp2_with fail
  go_ret2
  exact ⟨rfl, rfl⟩
theorem implSide_0_3 (w : World) : Calls Try.prog 34 #[.int .i64 0, .int .i64 3] w fun e w' => e = .returned (.tuple #[.int .i64 (sideN 0 3 : Nat), .bool true]) ∧ w = w' := by
  go_enter Try.func34, Try.ntmps34
  go_wp2_with fail
  refine (isForm_yes _ _ (by decide) (by decide)).mono ?_
  rintro e w' ⟨rfl, rfl⟩
  go_wp2_with fail
  refine (isDirection_yes _ _ (by decide) (by decide)).mono ?_
  rintro e w' ⟨rfl, rfl⟩
  go_wp2_with fail
  refine (isMirror_any _ false _ (by decide)).mono ?_
  rintro e w' ⟨rfl, rfl⟩
  go_wp2_with fail
  go_ret2
  exact ⟨rfl, rfl⟩
theorem specSide_0_3 (w : World) : Calls Try.prog 35 #[.int .i64 0, .int .i64 3] w fun e w' => e = .returned (.tuple #[.int .i64 (sideN 0 3 : Nat), .bool true]) ∧ w = w' := by
  go_enter Try.func35, Try.ntmps35
  go_wp2_with fail
  refine (l3Form_yes _ _ (by decide) (by decide)).mono ?_
  rintro e w' ⟨rfl, rfl⟩
  go_wp2_with fail
  refine (l2Side_yes _ _ (by decide) (by decide)).mono ?_
  rintro e w' ⟨rfl, rfl⟩
  go_wp2_with fail
  go_ret2
  exact ⟨rfl, rfl⟩
theorem implSide_1_0 (w : World) : Calls Try.prog 34 #[.int .i64 1, .int .i64 0] w fun e w' => e = .returned (.tuple #[.int .i64 (sideN 1 0 : Nat), .bool true]) ∧ w = w' := by
  go_enter Try.func34, Try.ntmps34
  go_wp2_with fail
  refine (isForm_yes _ _ (by decide) (by decide)).mono ?_
  rintro e w' ⟨rfl, rfl⟩
  go_wp2_with fail
  refine (isDirection_yes _ _ (by decide) (by decide)).mono ?_
  rintro e w' ⟨rfl, rfl⟩
  go_wp2_with fail
  refine (isMirror_any _ false _ (by decide)).mono ?_
  rintro e w' ⟨rfl, rfl⟩
  go_wp2_with fail
  go_ret2
  exact ⟨rfl, rfl⟩
theorem specSide_1_0 (w : World) : Calls Try.prog 35 #[.int .i64 1, .int .i64 0] w fun e w' => e = .returned (.tuple #[.int .i64 (sideN 1 0 : Nat), .bool true]) ∧ w = w' := by
  go_enter Try.func35, Try.ntmps35
  go_wp2_with fail
  refine (l3Form_yes _ _ (by decide) (by decide)).mono ?_
  rintro e w' ⟨rfl, rfl⟩
  go_wp2_with fail
  refine (l2Side_yes _ _ (by decide) (by decide)).mono ?_
  rintro e w' ⟨rfl, rfl⟩
  go_wp2_with fail
  go_ret2
  exact ⟨rfl, rfl⟩
theorem implSide_1_1 (w : World) : Calls Try.prog 34 #[.int .i64 1, .int .i64 1] w fun e w' => e = .returned (.tuple #[.int .i64 (sideN 1 1 : Nat), .bool true]) ∧ w = w' := by
  go_enter Try.func34, Try.ntmps34
  go_wp2_with fail
  refine (isForm_yes _ _ (by decide) (by decide)).mono ?_
  rintro e w' ⟨rfl, rfl⟩
  go_wp2_with fail
  refine (isDirection_yes _ _ (by decide) (by decide)).mono ?_
  rintro e w' ⟨rfl, rfl⟩
  go_wp2_with fail
  refine (isMirror_any _ false _ (by decide)).mono ?_
  rintro e w' ⟨rfl, rfl⟩
  go_wp2_with fail
  go_ret2
  exact ⟨rfl, rfl⟩
theorem specSide_1_1 (w : World) : Calls Try.prog 35 #[.int .i64 1, .int .i64 1] w fun e w' => e = .returned (.tuple #[.int .i64 (sideN 1 1 : Nat), .bool true]) ∧ w = w' := by
  go_enter Try.func35, Try.ntmps35
  go_wp2_with fail
  refine (l3Form_yes _ _ (by decide) (by decide)).mono ?_
  rintro e w' ⟨rfl, rfl⟩
  go_wp2_with fail
  refine (l2Side_yes _ _ (by decide) (by decide)).mono ?_
  rintro e w' ⟨rfl, rfl⟩
  go_wp2_with fail
  go_ret2
  exact ⟨rfl, rfl⟩
theorem implSide_1_2 (w : World) : Calls Try.prog 34 #[.int .i64 1, .int .i64 2] w fun e w' => e = .returned (.tuple #[.int .i64 (sideN 1 2 : Nat), .bool true]) ∧ w = w' := by
  go_enter Try.func34, Try.ntmps34
  go_wp2_with fail
  refine (isForm_yes _ _ (by decide) (by decide)).mono ?_
  rintro e w' ⟨rfl, rfl⟩
  go_wp2_with fail
  refine (isDirection_yes _ _ (by decide) (by decide)).mono ?_
  rintro e w' ⟨rfl, rfl⟩
  go_wp2_with fail
  refine (isMirror_any _ false _ (by decide)).mono ?_
  rintro e w' ⟨rfl, rfl⟩
  go_wp2_with fail
  go_ret2
  exact ⟨rfl, rfl⟩
theorem specSide_1_2 (w : World) : Calls Try.prog 35 #[.int .i64 1, .int .i64 2] w fun e w' => e = .returned (.tuple #[.int .i64 (sideN 1 2 : Nat), .bool true]) ∧ w = w' := by
  go_enter Try.func35, Try.ntmps35
  go_wp2_with fail
  refine (l3Form_yes _ _ (by decide) (by decide)).mono ?_
  rintro e w' ⟨rfl, rfl⟩
  go_wp2_with fail
  refine (l2Side_yes _ _ (by decide) (by decide)).mono ?_
  rintro e w' ⟨rfl, rfl⟩
  go_wp2_with fail
  go_ret2
  exact ⟨rfl, rfl⟩
theorem implSide_1_3 (w : World) : Calls Try.prog 34 #[.int .i64 1, .int .i64 3] w fun e w' => e = .returned (.tuple #[.int .i64 (sideN 1 3 : Nat), .bool true]) ∧ w = w' := by
  go_enter Try.func34, Try.ntmps34
  go_wp2_with fail
  refine (isForm_yes _ _ (by decide) (by decide)).mono ?_
  rintro e w' ⟨rfl, rfl⟩
  go_wp2_with fail
  refine (isDirection_yes _ _ (by decide) (by decide)).mono ?_
  rintro e w' ⟨rfl, rfl⟩
  go_wp2_with fail
  refine (isMirror_any _ false _ (by decide)).mono ?_
  rintro e w' ⟨rfl, rfl⟩
  go_wp2_with fail
  go_ret2
  exact ⟨rfl, rfl⟩
theorem specSide_1_3 (w : World) : Calls Try.prog 35 #[.int .i64 1, .int .i64 3] w fun e w' => e = .returned (.tuple #[.int .i64 (sideN 1 3 : Nat), .bool true]) ∧ w = w' := by
  go_enter Try.func35, Try.ntmps35
  go_wp2_with fail
  refine (l3Form_yes _ _ (by decide) (by decide)).mono ?_
  rintro e w' ⟨rfl, rfl⟩
  go_wp2_with fail
  refine (l2Side_yes _ _ (by decide) (by decide)).mono ?_
  rintro e w' ⟨rfl, rfl⟩
  go_wp2_with fail
  go_ret2
  exact ⟨rfl, rfl⟩
theorem implSide_2_0 (w : World) : Calls Try.prog 34 #[.int .i64 2, .int .i64 0] w fun e w' => e = .returned (.tuple #[.int .i64 (sideN 2 0 : Nat), .bool true]) ∧ w = w' := by
  go_enter Try.func34, Try.ntmps34
  go_wp2_with fail
  refine (isForm_yes _ _ (by decide) (by decide)).mono ?_
  rintro e w' ⟨rfl, rfl⟩
  go_wp2_with fail
  refine (isDirection_yes _ _ (by decide) (by decide)).mono ?_
  rintro e w' ⟨rfl, rfl⟩
  go_wp2_with fail
  refine (isMirror_any _ false _ (by decide)).mono ?_
  rintro e w' ⟨rfl, rfl⟩
  go_wp2_with fail
  go_ret2
  exact ⟨rfl, rfl⟩
theorem specSide_2_0 (w : World) : Calls Try.prog 35 #[.int .i64 2, .int .i64 0] w fun e w' => e = .returned (.tuple #[.int .i64 (sideN 2 0 : Nat), .bool true]) ∧ w = w' := by
  go_enter Try.func35, Try.ntmps35
  go_wp2_with fail
  refine (l3Form_yes _ _ (by decide) (by decide)).mono ?_
  rintro e w' ⟨rfl, rfl⟩
  go_wp2_with fail
  refine (l2Side_yes _ _ (by decide) (by decide)).mono ?_
  rintro e w' ⟨rfl, rfl⟩
  go_wp2_with fail
  go_ret2
  exact ⟨rfl, rfl⟩
theorem implSide_2_1 (w : World) : Calls Try.prog 34 #[.int .i64 2, .int .i64 1] w fun e w' => e = .returned (.tuple #[.int .i64 (sideN 2 1 : Nat), .bool true]) ∧ w = w' := by
  go_enter Try.func34, Try.ntmps34
  go_wp2_with fail
  refine (isForm_yes _ _ (by decide) (by decide)).mono ?_
  rintro e w' ⟨rfl, rfl⟩
  go_wp2_with fail
  refine (isDirection_yes _ _ (by decide) (by decide)).mono ?_
  rintro e w' ⟨rfl, rfl⟩
  go_wp2_with fail
  refine (isMirror_any _ false _ (by decide)).mono ?_
  rintro e w' ⟨rfl, rfl⟩
  go_wp2_with fail
  go_ret2
  exact ⟨rfl, rfl⟩
theorem specSide_2_1 (w : World) : Calls Try.prog 35 #[.int .i64 2, .int .i64 1] w fun e w' => e = .returned (.tuple #[.int .i64 (sideN 2 1 : Nat), .bool true]) ∧ w = w' := by
  go_enter Try.func35, Try.ntmps35
  go_wp2_with fail
  refine (l3Form_yes _ _ (by decide) (by decide)).mono ?_
  rintro e w' ⟨rfl, rfl⟩
  go_wp2_with fail
  refine (l2Side_yes _ _ (by decide) (by decide)).mono ?_
  rintro e w' ⟨rfl, rfl⟩
  go_wp2_with fail
  go_ret2
  exact ⟨rfl, rfl⟩
theorem implSide_2_2 (w : World) : Calls Try.prog 34 #[.int .i64 2, .int .i64 2] w fun e w' => e = .returned (.tuple #[.int .i64 (sideN 2 2 : Nat), .bool true]) ∧ w = w' := by
  go_enter Try.func34, Try.ntmps34
  go_wp2_with fail
  refine (isForm_yes _ _ (by decide) (by decide)).mono ?_
  rintro e w' ⟨rfl, rfl⟩
  go_wp2_with fail
  refine (isDirection_yes _ _ (by decide) (by decide)).mono ?_
  rintro e w' ⟨rfl, rfl⟩
  go_wp2_with fail
  refine (isMirror_any _ false _ (by decide)).mono ?_
  rintro e w' ⟨rfl, rfl⟩
  go_wp2_with fail
  go_ret2
  exact ⟨rfl, rfl⟩
theorem specSide_2_2 (w : World) : Calls Try.prog 35 #[.int .i64 2, .int .i64 2] w fun e w' => e = .returned (.tuple #[.int .i64 (sideN 2 2 : Nat), .bool true]) ∧ w = w' := by
  go_enter Try.func35, Try.ntmps35
  go_wp2_with fail
  refine (l3Form_yes _ _ (by decide) (by decide)).mono ?_
  rintro e w' ⟨rfl, rfl⟩
  go_wp2_with fail
  refine (l2Side_yes _ _ (by decide) (by decide)).mono ?_
  rintro e w' ⟨rfl, rfl⟩
  go_wp2_with fail
  go_ret2
  exact ⟨rfl, rfl⟩
theorem implSide_2_3 (w : World) : Calls Try.prog 34 #[.int .i64 2, .int .i64 3] w fun e w' => e = .returned (.tuple #[.int .i64 (sideN 2 3 : Nat), .bool true]) ∧ w = w' := by
  go_enter Try.func34, Try.ntmps34
  go_wp2_with fail
  refine (isForm_yes _ _ (by decide) (by decide)).mono ?_
  rintro e w' ⟨rfl, rfl⟩
  go_wp2_with fail
  refine (isDirection_yes _ _ (by decide) (by decide)).mono ?_
  rintro e w' ⟨rfl, rfl⟩
  go_wp2_with fail
  refine (isMirror_any _ false _ (by decide)).mono ?_
  rintro e w' ⟨rfl, rfl⟩
  go_wp2_with fail
  go_ret2
  exact ⟨rfl, rfl⟩
theorem specSide_2_3 (w : World) : Calls Try.prog 35 #[.int .i64 2, .int .i64 3] w fun e w' => e = .returned (.tuple #[.int .i64 (sideN 2 3 : Nat), .bool true]) ∧ w = w' := by
  go_enter Try.func35, Try.ntmps35
  go_wp2_with fail
  refine (l3Form_yes _ _ (by decide) (by decide)).mono ?_
  rintro e w' ⟨rfl, rfl⟩
  go_wp2_with fail
  refine (l2Side_yes _ _ (by decide) (by decide)).mono ?_
  rintro e w' ⟨rfl, rfl⟩
  go_wp2_with fail
  go_ret2
  exact ⟨rfl, rfl⟩
theorem implSide_3_0 (w : World) : Calls Try.prog 34 #[.int .i64 3, .int .i64 0] w fun e w' => e = .returned (.tuple #[.int .i64 (sideN 3 0 : Nat), .bool true]) ∧ w = w' := by
  go_enter Try.func34, Try.ntmps34
  go_wp2_with fail
  refine (isForm_yes _ _ (by decide) (by decide)).mono ?_
  rintro e w' ⟨rfl, rfl⟩
  go_wp2_with fail
  refine (isDirection_yes _ _ (by decide) (by decide)).mono ?_
  rintro e w' ⟨rfl, rfl⟩
  go_wp2_with fail
  refine (isMirror_any _ false _ (by decide)).mono ?_
  rintro e w' ⟨rfl, rfl⟩
  go_wp2_with fail
  go_ret2
  exact ⟨rfl, rfl⟩
theorem specSide_3_0 (w : World) : Calls Try.prog 35 #[.int .i64 3, .int .i64 0] w fun e w' => e = .returned (.tuple #[.int .i64 (sideN 3 0 : Nat), .bool true]) ∧ w = w' := by
  go_enter Try.func35, Try.ntmps35
  go_wp2_with fail
  refine (l3Form_yes _ _ (by decide) (by decide)).mono ?_
  rintro e w' ⟨rfl, rfl⟩
  go_wp2_with fail
  refine (l2Side_yes _ _ (by decide) (by decide)).mono ?_
  rintro e w' ⟨rfl, rfl⟩
  go_wp2_with fail
  go_ret2
  exact ⟨rfl, rfl⟩
theorem implSide_3_1 (w : World) : Calls Try.prog 34 #[.int .i64 3, .int .i64 1] w fun e w' => e = .returned (.tuple #[.int .i64 (sideN 3 1 : Nat), .bool true]) ∧ w = w' := by
  go_enter Try.func34, Try.ntmps34
  go_wp2_with fail
  refine (isForm_yes _ _ (by decide) (by decide)).mono ?_
  rintro e w' ⟨rfl, rfl⟩
  go_wp2_with fail
  refine (isDirection_yes _ _ (by decide) (by decide)).mono ?_
  rintro e w' ⟨rfl, rfl⟩
  go_wp2_with fail
  refine (isMirror_any _ false _ (by decide)).mono ?_
  rintro e w' ⟨rfl, rfl⟩
  go_wp2_with fail
  go_ret2
  exact ⟨rfl, rfl⟩
theorem specSide_3_1 (w : World) : Calls Try.prog 35 #[.int .i64 3, .int .i64 1] w fun e w' => e = .returned (.tuple #[.int .i64 (sideN 3 1 : Nat), .bool true]) ∧ w = w' := by
  go_enter Try.func35, Try.ntmps35
  go_wp2_with fail
  refine (l3Form_yes _ _ (by decide) (by decide)).mono ?_
  rintro e w' ⟨rfl, rfl⟩
  go_wp2_with fail
  refine (l2Side_yes _ _ (by decide) (by decide)).mono ?_
  rintro e w' ⟨rfl, rfl⟩
  go_wp2_with fail
  go_ret2
  exact ⟨rfl, rfl⟩
theorem implSide_3_2 (w : World) : Calls Try.prog 34 #[.int .i64 3, .int .i64 2] w fun e w' => e = .returned (.tuple #[.int .i64 (sideN 3 2 : Nat), .bool true]) ∧ w = w' := by
  go_enter Try.func34, Try.ntmps34
  go_wp2_with fail
  refine (isForm_yes _ _ (by decide) (by decide)).mono ?_
  rintro e w' ⟨rfl, rfl⟩
  go_wp2_with fail
  refine (isDirection_yes _ _ (by decide) (by decide)).mono ?_
  rintro e w' ⟨rfl, rfl⟩
  go_wp2_with fail
  refine (isMirror_any _ false _ (by decide)).mono ?_
  rintro e w' ⟨rfl, rfl⟩
  go_wp2_with fail
  go_ret2
  exact ⟨rfl, rfl⟩
theorem specSide_3_2 (w : World) : Calls Try.prog 35 #[.int .i64 3, .int .i64 2] w fun e w' => e = .returned (.tuple #[.int .i64 (sideN 3 2 : Nat), .bool true]) ∧ w = w' := by
  go_enter Try.func35, Try.ntmps35
  go_wp2_with fail
  refine (l3Form_yes _ _ (by decide) (by decide)).mono ?_
  rintro e w' ⟨rfl, rfl⟩
  go_wp2_with fail
  refine (l2Side_yes _ _ (by decide) (by decide)).mono ?_
  rintro e w' ⟨rfl, rfl⟩
  go_wp2_with fail
  go_ret2
  exact ⟨rfl, rfl⟩
theorem implSide_3_3 (w : World) : Calls Try.prog 34 #[.int .i64 3, .int .i64 3] w fun e w' => e = .returned (.tuple #[.int .i64 (sideN 3 3 : Nat), .bool true]) ∧ w = w' := by
  go_enter Try.func34, Try.ntmps34
  go_wp2_with fail
  refine (isForm_yes _ _ (by decide) (by decide)).mono ?_
  rintro e w' ⟨rfl, rfl⟩
  go_wp2_with fail
  refine (isDirection_yes _ _ (by decide) (by decide)).mono ?_
  rintro e w' ⟨rfl, rfl⟩
  go_wp2_with fail
  refine (isMirror_any _ false _ (by decide)).mono ?_
  rintro e w' ⟨rfl, rfl⟩
  go_wp2_with fail
  go_ret2
  exact ⟨rfl, rfl⟩
theorem specSide_3_3 (w : World) : Calls Try.prog 35 #[.int .i64 3, .int .i64 3] w fun e w' => e = .returned (.tuple #[.int .i64 (sideN 3 3 : Nat), .bool true]) ∧ w = w' := by
  go_enter Try.func35, Try.ntmps35
  go_wp2_with fail
  refine (l3Form_yes _ _ (by decide) (by decide)).mono ?_
  rintro e w' ⟨rfl, rfl⟩
  go_wp2_with fail
  refine (l2Side_yes _ _ (by decide) (by decide)).mono ?_
  rintro e w' ⟨rfl, rfl⟩
  go_wp2_with fail
  go_ret2
  exact ⟨rfl, rfl⟩
theorem implSide_4_0 (w : World) : Calls Try.prog 34 #[.int .i64 4, .int .i64 0] w fun e w' => e = .returned (.tuple #[.int .i64 (sideN 4 0 : Nat), .bool true]) ∧ w = w' := by
  go_enter Try.func34, Try.ntmps34
  go_wp2_with fail
  refine (isForm_yes _ _ (by decide) (by decide)).mono ?_
  rintro e w' ⟨rfl, rfl⟩
  go_wp2_with fail
  refine (isDirection_yes _ _ (by decide) (by decide)).mono ?_
  rintro e w' ⟨rfl, rfl⟩
  go_wp2_with fail
  refine (isMirror_any _ true _ (by decide)).mono ?_
  rintro e w' ⟨rfl, rfl⟩
  go_wp2_with fail
  go_ret2
  exact ⟨rfl, rfl⟩
theorem specSide_4_0 (w : World) : Calls Try.prog 35 #[.int .i64 4, .int .i64 0] w fun e w' => e = .returned (.tuple #[.int .i64 (sideN 4 0 : Nat), .bool true]) ∧ w = w' := by
  go_enter Try.func35, Try.ntmps35
  go_wp2_with fail
  refine (l3Form_yes _ _ (by decide) (by decide)).mono ?_
  rintro e w' ⟨rfl, rfl⟩
  go_wp2_with fail
  refine (l2Side_yes _ _ (by decide) (by decide)).mono ?_
  rintro e w' ⟨rfl, rfl⟩
  go_wp2_with fail
  go_ret2
  exact ⟨rfl, rfl⟩
theorem implSide_4_1 (w : World) : Calls Try.prog 34 #[.int .i64 4, .int .i64 1] w fun e w' => e = .returned (.tuple #[.int .i64 (sideN 4 1 : Nat), .bool true]) ∧ w = w' := by
  go_enter Try.func34, Try.ntmps34
  go_wp2_with fail
  refine (isForm_yes _ _ (by decide) (by decide)).mono ?_
  rintro e w' ⟨rfl, rfl⟩
  go_wp2_with fail
  refine (isDirection_yes _ _ (by decide) (by decide)).mono ?_
  rintro e w' ⟨rfl, rfl⟩
  go_wp2_with fail
  refine (isMirror_any _ true _ (by decide)).mono ?_
  rintro e w' ⟨rfl, rfl⟩
  go_wp2_with fail
  go_ret2
  exact ⟨rfl, rfl⟩
theorem specSide_4_1 (w : World) : Calls Try.prog 35 #[.int .i64 4, .int .i64 1] w fun e w' => e = .returned (.tuple #[.int .i64 (sideN 4 1 : Nat), .bool true]) ∧ w = w' := by
  go_enter Try.func35, Try.ntmps35
  go_wp2_with fail
  refine (l3Form_yes _ _ (by decide) (by decide)).mono ?_
  rintro e w' ⟨rfl, rfl⟩
  go_wp2_with fail
  refine (l2Side_yes _ _ (by decide) (by decide)).mono ?_
  rintro e w' ⟨rfl, rfl⟩
  go_wp2_with fail
  go_ret2
  exact ⟨rfl, rfl⟩
theorem implSide_4_2 (w : World) : Calls Try.prog 34 #[.int .i64 4, .int .i64 2] w fun e w' => e = .returned (.tuple #[.int .i64 (sideN 4 2 : Nat), .bool true]) ∧ w = w' := by
  go_enter Try.func34, Try.ntmps34
  go_wp2_with fail
  refine (isForm_yes _ _ (by decide) (by decide)).mono ?_
  rintro e w' ⟨rfl, rfl⟩
  go_wp2_with fail
  refine (isDirection_yes _ _ (by decide) (by decide)).mono ?_
  rintro e w' ⟨rfl, rfl⟩
  go_wp2_with fail
  refine (isMirror_any _ true _ (by decide)).mono ?_
  rintro e w' ⟨rfl, rfl⟩
  go_wp2_with fail
  go_ret2
  exact ⟨rfl, rfl⟩
theorem specSide_4_2 (w : World) : Calls Try.prog 35 #[.int .i64 4, .int .i64 2] w fun e w' => e = .returned (.tuple #[.int .i64 (sideN 4 2 : Nat), .bool true]) ∧ w = w' := by
  go_enter Try.func35, Try.ntmps35
  go_wp2_with fail
  refine (l3Form_yes _ _ (by decide) (by decide)).mono ?_
  rintro e w' ⟨rfl, rfl⟩
  go_wp2_with fail
  refine (l2Side_yes _ _ (by decide) (by decide)).mono ?_
  rintro e w' ⟨rfl, rfl⟩
  go_wp2_with fail
  go_ret2
  exact ⟨rfl, rfl⟩
theorem implSide_4_3 (w : World) : Calls Try.prog 34 #[.int .i64 4, .int .i64 3] w fun e w' => e = .returned (.tuple #[.int .i64 (sideN 4 3 : Nat), .bool true]) ∧ w = w' := by
  go_enter Try.func34, Try.ntmps34
  go_wp2_with fail
  refine (isForm_yes _ _ (by decide) (by decide)).mono ?_
  rintro e w' ⟨rfl, rfl⟩
  go_wp2_with fail
  refine (isDirection_yes _ _ (by decide) (by decide)).mono ?_
  rintro e w' ⟨rfl, rfl⟩
  go_wp2_with fail
  refine (isMirror_any _ true _ (by decide)).mono ?_
  rintro e w' ⟨rfl, rfl⟩
  go_wp2_with fail
  go_ret2
  exact ⟨rfl, rfl⟩
theorem specSide_4_3 (w : World) : Calls Try.prog 35 #[.int .i64 4, .int .i64 3] w fun e w' => e = .returned (.tuple #[.int .i64 (sideN 4 3 : Nat), .bool true]) ∧ w = w' := by
  go_enter Try.func35, Try.ntmps35
  go_wp2_with fail
  refine (l3Form_yes _ _ (by decide) (by decide)).mono ?_
  rintro e w' ⟨rfl, rfl⟩
  go_wp2_with fail
  refine (l2Side_yes _ _ (by decide) (by decide)).mono ?_
  rintro e w' ⟨rfl, rfl⟩
  go_wp2_with fail
  go_ret2
  exact ⟨rfl, rfl⟩
theorem implSide_5_0 (w : World) : Calls Try.prog 34 #[.int .i64 5, .int .i64 0] w fun e w' => e = .returned (.tuple #[.int .i64 (sideN 5 0 : Nat), .bool true]) ∧ w = w' := by
  go_enter Try.func34, Try.ntmps34
  go_wp2_with fail
  refine (isForm_yes _ _ (by decide) (by decide)).mono ?_
  rintro e w' ⟨rfl, rfl⟩
  go_wp2_with fail
  refine (isDirection_yes _ _ (by decide) (by decide)).mono ?_
  rintro e w' ⟨rfl, rfl⟩
  go_wp2_with fail
  refine (isMirror_any _ true _ (by decide)).mono ?_
  rintro e w' ⟨rfl, rfl⟩
  go_wp2_with fail
  go_ret2
  exact ⟨rfl, rfl⟩
theorem specSide_5_0 (w : World) : Calls Try.prog 35 #[.int .i64 5, .int .i64 0] w fun e w' => e = .returned (.tuple #[.int .i64 (sideN 5 0 : Nat), .bool true]) ∧ w = w' := by
  go_enter Try.func35, Try.ntmps35
  go_wp2_with fail
  refine (l3Form_yes _ _ (by decide) (by decide)).mono ?_
  rintro e w' ⟨rfl, rfl⟩
  go_wp2_with fail
  refine (l2Side_yes _ _ (by decide) (by decide)).mono ?_
  rintro e w' ⟨rfl, rfl⟩
  go_wp2_with fail
  go_ret2
  exact ⟨rfl, rfl⟩
theorem implSide_5_1 (w : World) : Calls Try.prog 34 #[.int .i64 5, .int .i64 1] w fun e w' => e = .returned (.tuple #[.int .i64 (sideN 5 1 : Nat), .bool true]) ∧ w = w' := by
  go_enter Try.func34, Try.ntmps34
  go_wp2_with fail
  refine (isForm_yes _ _ (by decide) (by decide)).mono ?_
  rintro e w' ⟨rfl, rfl⟩
  go_wp2_with fail
  refine (isDirection_yes _ _ (by decide) (by decide)).mono ?_
  rintro e w' ⟨rfl, rfl⟩
  go_wp2_with fail
  refine (isMirror_any _ true _ (by decide)).mono ?_
  rintro e w' ⟨rfl, rfl⟩
  go_wp2_with fail
  go_ret2
  exact ⟨rfl, rfl⟩
theorem specSide_5_1 (w : World) : Calls Try.prog 35 #[.int .i64 5, .int .i64 1] w fun e w' => e = .returned (.tuple #[.int .i64 (sideN 5 1 : Nat), .bool true]) ∧ w = w' := by
  go_enter Try.func35, Try.ntmps35
  go_wp2_with fail
  refine (l3Form_yes _ _ (by decide) (by decide)).mono ?_
  rintro e w' ⟨rfl, rfl⟩
  go_wp2_with fail
  refine (l2Side_yes _ _ (by decide) (by decide)).mono ?_
  rintro e w' ⟨rfl, rfl⟩
  go_wp2_with fail
  go_ret2
  exact ⟨rfl, rfl⟩
theorem implSide_5_2 (w : World) : Calls Try.prog 34 #[.int .i64 5, .int .i64 2] w fun e w' => e = .returned (.tuple #[.int .i64 (sideN 5 2 : Nat), .bool true]) ∧ w = w' := by
  go_enter Try.func34, Try.ntmps34
  go_wp2_with fail
  refine (isForm_yes _ _ (by decide) (by decide)).mono ?_
  rintro e w' ⟨rfl, rfl⟩
  go_wp2_with fail
  refine (isDirection_yes _ _ (by decide) (by decide)).mono ?_
  rintro e w' ⟨rfl, rfl⟩
  go_wp2_with fail
  refine (isMirror_any _ true _ (by decide)).mono ?_
  rintro e w' ⟨rfl, rfl⟩
  go_wp2_with fail
  go_ret2
  exact ⟨rfl, rfl⟩
theorem specSide_5_2 (w : World) : Calls Try.prog 35 #[.int .i64 5, .int .i64 2] w fun e w' => e = .returned (.tuple #[.int .i64 (sideN 5 2 : Nat), .bool true]) ∧ w = w' := by
  go_enter Try.func35, Try.ntmps35
  go_wp2_with fail
  refine (l3Form_yes _ _ (by decide) (by decide)).mono ?_
  rintro e w' ⟨rfl, rfl⟩
  go_wp2_with fail
  refine (l2Side_yes _ _ (by decide) (by decide)).mono ?_
  rintro e w' ⟨rfl, rfl⟩
  go_wp2_with fail
  go_ret2
  exact ⟨rfl, rfl⟩
theorem implSide_5_3 (w : World) : Calls Try.prog 34 #[.int .i64 5, .int .i64 3] w fun e w' => e = .returned (.tuple #[.int .i64 (sideN 5 3 : Nat), .bool true]) ∧ w = w' := by
  go_enter Try.func34, Try.ntmps34
  go_wp2_with fail
  refine (isForm_yes _ _ (by decide) (by decide)).mono ?_
  rintro e w' ⟨rfl, rfl⟩
  go_wp2_with fail
  refine (isDirection_yes _ _ (by decide) (by decide)).mono ?_
  rintro e w' ⟨rfl, rfl⟩
  go_wp2_with fail
  refine (isMirror_any _ true _ (by decide)).mono ?_
  rintro e w' ⟨rfl, rfl⟩
  go_wp2_with fail
  go_ret2
  exact ⟨rfl, rfl⟩
theorem specSide_5_3 (w : World) : Calls Try.prog 35 #[.int .i64 5, .int .i64 3] w fun e w' => e = .returned (.tuple #[.int .i64 (sideN 5 3 : Nat), .bool true]) ∧ w = w' := by
  go_enter Try.func35, Try.ntmps35
  go_wp2_with fail
  refine (l3Form_yes _ _ (by decide) (by decide)).mono ?_
  rintro e w' ⟨rfl, rfl⟩
  go_wp2_with fail
  refine (l2Side_yes _ _ (by decide) (by decide)).mono ?_
  rintro e w' ⟨rfl, rfl⟩
  go_wp2_with fail
  go_ret2
  exact ⟨rfl, rfl⟩
theorem implSide_6_0 (w : World) : Calls Try.prog 34 #[.int .i64 6, .int .i64 0] w fun e w' => e = .returned (.tuple #[.int .i64 (sideN 6 0 : Nat), .bool true]) ∧ w = w' := by
  go_enter Try.func34, Try.ntmps34
  go_wp2_with fail
  refine (isForm_yes _ _ (by decide) (by decide)).mono ?_
  rintro e w' ⟨rfl, rfl⟩
  go_wp2_with fail
  refine (isDirection_yes _ _ (by decide) (by decide)).mono ?_
  rintro e w' ⟨rfl, rfl⟩
  go_wp2_with fail
  refine (isMirror_any _ true _ (by decide)).mono ?_
  rintro e w' ⟨rfl, rfl⟩
  go_wp2_with fail
  go_ret2
  exact ⟨rfl, rfl⟩
theorem specSide_6_0 (w : World) : Calls Try.prog 35 #[.int .i64 6, .int .i64 0] w fun e w' => e = .returned (.tuple #[.int .i64 (sideN 6 0 : Nat), .bool true]) ∧ w = w' := by
  go_enter Try.func35, Try.ntmps35
  go_wp2_with fail
  refine (l3Form_yes _ _ (by decide) (by decide)).mono ?_
  rintro e w' ⟨rfl, rfl⟩
  go_wp2_with fail
  refine (l2Side_yes _ _ (by decide) (by decide)).mono ?_
  rintro e w' ⟨rfl, rfl⟩
  go_wp2_with fail
  go_ret2
  exact ⟨rfl, rfl⟩
theorem implSide_6_1 (w : World) : Calls Try.prog 34 #[.int .i64 6, .int .i64 1] w fun e w' => e = .returned (.tuple #[.int .i64 (sideN 6 1 : Nat), .bool true]) ∧ w = w' := by
  go_enter Try.func34, Try.ntmps34
  go_wp2_with fail
  refine (isForm_yes _ _ (by decide) (by decide)).mono ?_
  rintro e w' ⟨rfl, rfl⟩
  go_wp2_with fail
  refine (isDirection_yes _ _ (by decide) (by decide)).mono ?_
  rintro e w' ⟨rfl, rfl⟩
  go_wp2_with fail
  refine (isMirror_any _ true _ (by decide)).mono ?_
  rintro e w' ⟨rfl, rfl⟩
  go_wp2_with fail
  go_ret2
  exact ⟨rfl, rfl⟩
theorem specSide_6_1 (w : World) : Calls Try.prog 35 #[.int .i64 6, .int .i64 1] w fun e w' => e = .returned (.tuple #[.int .i64 (sideN 6 1 : Nat), .bool true]) ∧ w = w' := by
  go_enter Try.func35, Try.ntmps35
  go_wp2_with fail
  refine (l3Form_yes _ _ (by decide) (by decide)).mono ?_
  rintro e w' ⟨rfl, rfl⟩
  go_wp2_with fail
  refine (l2Side_yes _ _ (by decide) (by decide)).mono ?_
  rintro e w' ⟨rfl, rfl⟩
  go_wp2_with fail
  go_ret2
  exact ⟨rfl, rfl⟩
theorem implSide_6_2 (w : World) : Calls Try.prog 34 #[.int .i64 6, .int .i64 2] w fun e w' => e = .returned (.tuple #[.int .i64 (sideN 6 2 : Nat), .bool true]) ∧ w = w' := by
  go_enter Try.func34, Try.ntmps34
  go_wp2_with fail
  refine (isForm_yes _ _ (by decide) (by decide)).mono ?_
  rintro e w' ⟨rfl, rfl⟩
  go_wp2_with fail
  refine (isDirection_yes _ _ (by decide) (by decide)).mono ?_
  rintro e w' ⟨rfl, rfl⟩
  go_wp2_with fail
  refine (isMirror_any _ true _ (by decide)).mono ?_
  rintro e w' ⟨rfl, rfl⟩
  go_wp2_with fail
  go_ret2
  exact ⟨rfl, rfl⟩
theorem specSide_6_2 (w : World) : Calls Try.prog 35 #[.int .i64 6, .int .i64 2] w fun e w' => e = .returned (.tuple #[.int .i64 (sideN 6 2 : Nat), .bool true]) ∧ w = w' := by
  go_enter Try.func35, Try.ntmps35
  go_wp2_with fail
  refine (l3Form_yes _ _ (by decide) (by decide)).mono ?_
  rintro e w' ⟨rfl, rfl⟩
  go_wp2_with fail
  refine (l2Side_yes _ _ (by decide) (by decide)).mono ?_
  rintro e w' ⟨rfl, rfl⟩
  go_wp2_with fail
  go_ret2
  exact ⟨rfl, rfl⟩
theorem implSide_6_3 (w : World) : Calls Try.prog 34 #[.int .i64 6, .int .i64 3] w fun e w' => e = .returned (.tuple #[.int .i64 (sideN 6 3 : Nat), .bool true]) ∧ w = w' := by
  go_enter Try.func34, Try.ntmps34
  go_wp2_with fail
  refine (isForm_yes _ _ (by decide) (by decide)).mono ?_
  rintro e w' ⟨rfl, rfl⟩
  go_wp2_with fail
  refine (isDirection_yes _ _ (by decide) (by decide)).mono ?_
  rintro e w' ⟨rfl, rfl⟩
  go_wp2_with fail
  refine (isMirror_any _ true _ (by decide)).mono ?_
  rintro e w' ⟨rfl, rfl⟩
  go_wp2_with fail
  go_ret2
  exact ⟨rfl, rfl⟩
theorem specSide_6_3 (w : World) : Calls Try.prog 35 #[.int .i64 6, .int .i64 3] w fun e w' => e = .returned (.tuple #[.int .i64 (sideN 6 3 : Nat), .bool true]) ∧ w = w' := by
  go_enter Try.func35, Try.ntmps35
  go_wp2_with fail
  refine (l3Form_yes _ _ (by decide) (by decide)).mono ?_
  rintro e w' ⟨rfl, rfl⟩
  go_wp2_with fail
  refine (l2Side_yes _ _ (by decide) (by decide)).mono ?_
  rintro e w' ⟨rfl, rfl⟩
  go_wp2_with fail
  go_ret2
  exact ⟨rfl, rfl⟩
theorem implSide_7_0 (w : World) : Calls Try.prog 34 #[.int .i64 7, .int .i64 0] w fun e w' => e = .returned (.tuple #[.int .i64 (sideN 7 0 : Nat), .bool true]) ∧ w = w' := by
  go_enter Try.func34, Try.ntmps34
  go_wp2_with fail
  refine (isForm_yes _ _ (by decide) (by decide)).mono ?_
  rintro e w' ⟨rfl, rfl⟩
  go_wp2_with fail
  refine (isDirection_yes _ _ (by decide) (by decide)).mono ?_
  rintro e w' ⟨rfl, rfl⟩
  go_wp2_with fail
  refine (isMirror_any _ true _ (by decide)).mono ?_
  rintro e w' ⟨rfl, rfl⟩
  go_wp2_with fail
  go_ret2
  exact ⟨rfl, rfl⟩
theorem specSide_7_0 (w : World) : Calls Try.prog 35 #[.int .i64 7, .int .i64 0] w fun e w' => e = .returned (.tuple #[.int .i64 (sideN 7 0 : Nat), .bool true]) ∧ w = w' := by
  go_enter Try.func35, Try.ntmps35
  go_wp2_with fail
  refine (l3Form_yes _ _ (by decide) (by decide)).mono ?_
  rintro e w' ⟨rfl, rfl⟩
  go_wp2_with fail
  refine (l2Side_yes _ _ (by decide) (by decide)).mono ?_
  rintro e w' ⟨rfl, rfl⟩
  go_wp2_with fail
  go_ret2
  exact ⟨rfl, rfl⟩
theorem implSide_7_1 (w : World) : Calls Try.prog 34 #[.int .i64 7, .int .i64 1] w fun e w' => e = .returned (.tuple #[.int .i64 (sideN 7 1 : Nat), .bool true]) ∧ w = w' := by
  go_enter Try.func34, Try.ntmps34
  go_wp2_with fail
  refine (isForm_yes _ _ (by decide) (by decide)).mono ?_
  rintro e w' ⟨rfl, rfl⟩
  go_wp2_with fail
  refine (isDirection_yes _ _ (by decide) (by decide)).mono ?_
  rintro e w' ⟨rfl, rfl⟩
  go_wp2_with fail
  refine (isMirror_any _ true _ (by decide)).mono ?_
  rintro e w' ⟨rfl, rfl⟩
  go_wp2_with fail
  go_ret2
  exact ⟨rfl, rfl⟩
theorem specSide_7_1 (w : World) : Calls Try.prog 35 #[.int .i64 7, .int .i64 1] w fun e w' => e = .returned (.tuple #[.int .i64 (sideN 7 1 : Nat), .bool true]) ∧ w = w' := by
  go_enter Try.func35, Try.ntmps35
  go_wp2_with fail
  refine (l3Form_yes _ _ (by decide) (by decide)).mono ?_
  rintro e w' ⟨rfl, rfl⟩
  go_wp2_with fail
  refine (l2Side_yes _ _ (by decide) (by decide)).mono ?_
  rintro e w' ⟨rfl, rfl⟩
  go_wp2_with fail
  go_ret2
  exact ⟨rfl, rfl⟩
theorem implSide_7_2 (w : World) : Calls Try.prog 34 #[.int .i64 7, .int .i64 2] w fun e w' => e = .returned (.tuple #[.int .i64 (sideN 7 2 : Nat), .bool true]) ∧ w = w' := by
  go_enter Try.func34, Try.ntmps34
  go_wp2_with fail
  refine (isForm_yes _ _ (by decide) (by decide)).mono ?_
  rintro e w' ⟨rfl, rfl⟩
  go_wp2_with fail
  refine (isDirection_yes _ _ (by decide) (by decide)).mono ?_
  rintro e w' ⟨rfl, rfl⟩
  go_wp2_with fail
  refine (isMirror_any _ true _ (by decide)).mono ?_
  rintro e w' ⟨rfl, rfl⟩
  go_wp2_with fail
  go_ret2
  exact ⟨rfl, rfl⟩
theorem specSide_7_2 (w : World) : Calls Try.prog 35 #[.int .i64 7, .int .i64 2] w fun e w' => e = .returned (.tuple #[.int .i64 (sideN 7 2 : Nat), .bool true]) ∧ w = w' := by
  go_enter Try.func35, Try.ntmps35
  go_wp2_with fail
  refine (l3Form_yes _ _ (by decide) (by decide)).mono ?_
  rintro e w' ⟨rfl, rfl⟩
  go_wp2_with fail
  refine (l2Side_yes _ _ (by decide) (by decide)).mono ?_
  rintro e w' ⟨rfl, rfl⟩
  go_wp2_with fail
  go_ret2
  exact ⟨rfl, rfl⟩
theorem implSide_7_3 (w : World) : Calls Try.prog 34 #[.int .i64 7, .int .i64 3] w fun e w' => e = .returned (.tuple #[.int .i64 (sideN 7 3 : Nat), .bool true]) ∧ w = w' := by
  go_enter Try.func34, Try.ntmps34
  go_wp2_with fail
  refine (isForm_yes _ _ (by decide) (by decide)).mono ?_
  rintro e w' ⟨rfl, rfl⟩
  go_wp2_with fail
  refine (isDirection_yes _ _ (by decide) (by decide)).mono ?_
  rintro e w' ⟨rfl, rfl⟩
  go_wp2_with fail
  refine (isMirror_any _ true _ (by decide)).mono ?_
  rintro e w' ⟨rfl, rfl⟩
  go_wp2_with fail
  go_ret2
  exact ⟨rfl, rfl⟩
theorem specSide_7_3 (w : World) : Calls Try.prog 35 #[.int .i64 7, .int .i64 3] w fun e w' => e = .returned (.tuple #[.int .i64 (sideN 7 3 : Nat), .bool true]) ∧ w = w' := by
  go_enter Try.func35, Try.ntmps35
  go_wp2_with fail
  refine (l3Form_yes _ _ (by decide) (by decide)).mono ?_
  rintro e w' ⟨rfl, rfl⟩
  go_wp2_with fail
  refine (l2Side_yes _ _ (by decide) (by decide)).mono ?_
  rintro e w' ⟨rfl, rfl⟩
  go_wp2_with fail
  go_ret2
  exact ⟨rfl, rfl⟩
theorem implSide_any (k d : Int) (w : World) :
    Calls Try.prog 34 #[.int .i64 k, .int .i64 d] w fun e w' => e = .returned (.tuple #[.int .i64 (sideR k d), .bool (sideO k d)]) ∧ w = w' := by
  by_cases hk : 0 ≤ k ∧ k ≤ 7
  · by_cases hd : 0 ≤ d ∧ d ≤ 3
    · have y1 : sideR k d = (sideN k.toNat d.toNat : Nat) := by simp [sideR, hk, hd]
      have y2 : sideO k d = true := by simp [sideO, hk, hd]
      rw [y1, y2]
      clear y1 y2
      rcases eight hk.1 hk.2 with rfl | rfl | rfl | rfl | rfl | rfl | rfl | rfl
      · rcases four hd.1 hd.2 with rfl | rfl | rfl | rfl
        · exact implSide_0_0 w
        · exact implSide_0_1 w
        · exact implSide_0_2 w
        · exact implSide_0_3 w
      · rcases four hd.1 hd.2 with rfl | rfl | rfl | rfl
        · exact implSide_1_0 w
        · exact implSide_1_1 w
        · exact implSide_1_2 w
        · exact implSide_1_3 w
      · rcases four hd.1 hd.2 with rfl | rfl | rfl | rfl
        · exact implSide_2_0 w
        · exact implSide_2_1 w
        · exact implSide_2_2 w
        · exact implSide_2_3 w
      · rcases four hd.1 hd.2 with rfl | rfl | rfl | rfl
        · exact implSide_3_0 w
        · exact implSide_3_1 w
        · exact implSide_3_2 w
        · exact implSide_3_3 w
      · rcases four hd.1 hd.2 with rfl | rfl | rfl | rfl
        · exact implSide_4_0 w
        · exact implSide_4_1 w
        · exact implSide_4_2 w
        · exact implSide_4_3 w
      · rcases four hd.1 hd.2 with rfl | rfl | rfl | rfl
        · exact implSide_5_0 w
        · exact implSide_5_1 w
        · exact implSide_5_2 w
        · exact implSide_5_3 w
      · rcases four hd.1 hd.2 with rfl | rfl | rfl | rfl
        · exact implSide_6_0 w
        · exact implSide_6_1 w
        · exact implSide_6_2 w
        · exact implSide_6_3 w
      · rcases four hd.1 hd.2 with rfl | rfl | rfl | rfl
        · exact implSide_7_0 w
        · exact implSide_7_1 w
        · exact implSide_7_2 w
        · exact implSide_7_3 w
    · have y1 : sideR k d = 0 := by simp only [sideR, hd, and_false, if_false]
      have y2 : sideO k d = false := by simp only [sideO, hd, and_false, decide_false]
      rw [y1, y2]
      clear y1 y2
      obtain ⟨k0, k1⟩ := hk
      have HM := Lib.hid (show d < 0 ∨ 3 < d by omega)
      clear hd
      go_enter Try.func34, Try.ntmps34
      go_wp2_with fail
      refine (isForm_yes _ _ k0 k1).mono ?_
      rintro e w' ⟨rfl, rfl⟩
      go_wp2_with fail
      refine (isDirection_no _ _ HM.out).mono ?_
      rintro e w' ⟨rfl, rfl⟩
      go_wp2_with fail
      go_ret2
      exact ⟨rfl, rfl⟩
  · have y1 : sideR k d = 0 := by simp only [sideR, hk, false_and, if_false]
    have y2 : sideO k d = false := by simp only [sideO, hk, false_and, decide_false]
    rw [y1, y2]
    clear y1 y2
    have HK := Lib.hid (show k < 0 ∨ 7 < k by omega)
    clear hk
    go_enter Try.func34, Try.ntmps34
    go_wp2_with fail
    refine (isForm_no _ _ HK.out).mono ?_
    rintro e w' ⟨rfl, rfl⟩
    go_wp2_with fail
    go_ret2
    exact ⟨rfl, rfl⟩
theorem specSide_any (k d : Int) (w : World) :
    Calls Try.prog 35 #[.int .i64 k, .int .i64 d] w fun e w' => e = .returned (.tuple #[.int .i64 (sideR k d), .bool (sideO k d)]) ∧ w = w' := by
  by_cases hk : 0 ≤ k ∧ k ≤ 7
  · by_cases hd : 0 ≤ d ∧ d ≤ 3
    · have y1 : sideR k d = (sideN k.toNat d.toNat : Nat) := by simp [sideR, hk, hd]
      have y2 : sideO k d = true := by simp [sideO, hk, hd]
      rw [y1, y2]
      clear y1 y2
      rcases eight hk.1 hk.2 with rfl | rfl | rfl | rfl | rfl | rfl | rfl | rfl
      · rcases four hd.1 hd.2 with rfl | rfl | rfl | rfl
        · exact specSide_0_0 w
        · exact specSide_0_1 w
        · exact specSide_0_2 w
        · exact specSide_0_3 w
      · rcases four hd.1 hd.2 with rfl | rfl | rfl | rfl
        · exact specSide_1_0 w
        · exact specSide_1_1 w
        · exact specSide_1_2 w
        · exact specSide_1_3 w
      · rcases four hd.1 hd.2 with rfl | rfl | rfl | rfl
        · exact specSide_2_0 w
        · exact specSide_2_1 w
        · exact specSide_2_2 w
        · exact specSide_2_3 w
      · rcases four hd.1 hd.2 with rfl | rfl | rfl | rfl
        · exact specSide_3_0 w
        · exact specSide_3_1 w
        · exact specSide_3_2 w
        · exact specSide_3_3 w
      · rcases four hd.1 hd.2 with rfl | rfl | rfl | rfl
        · exact specSide_4_0 w
        · exact specSide_4_1 w
        · exact specSide_4_2 w
        · exact specSide_4_3 w
      · rcases four hd.1 hd.2 with rfl | rfl | rfl | rfl
        · exact specSide_5_0 w
        · exact specSide_5_1 w
        · exact specSide_5_2 w
        · exact specSide_5_3 w
      · rcases four hd.1 hd.2 with rfl | rfl | rfl | rfl
        · exact specSide_6_0 w
        · exact specSide_6_1 w
        · exact specSide_6_2 w
        · exact specSide_6_3 w
      · rcases four hd.1 hd.2 with rfl | rfl | rfl | rfl
        · exact specSide_7_0 w
        · exact specSide_7_1 w
        · exact specSide_7_2 w
        · exact specSide_7_3 w
    · have y1 : sideR k d = 0 := by simp only [sideR, hd, and_false, if_false]
      have y2 : sideO k d = false := by simp only [sideO, hd, and_false, decide_false]
      rw [y1, y2]
      clear y1 y2
      obtain ⟨k0, k1⟩ := hk
      have HM := Lib.hid (show d < 0 ∨ 3 < d by omega)
      clear hd
      go_enter Try.func35, Try.ntmps35
      go_wp2_with fail
      refine (l3Form_yes _ _ k0 k1).mono ?_
      rintro e w' ⟨rfl, rfl⟩
      go_wp2_with fail
      refine (l2Side_no _ _ HM.out).mono ?_
      rintro e w' ⟨rfl, rfl⟩
      go_wp2_with fail
      go_ret2
      exact ⟨rfl, rfl⟩
  · have y1 : sideR k d = 0 := by simp only [sideR, hk, false_and, if_false]
    have y2 : sideO k d = false := by simp only [sideO, hk, false_and, decide_false]
    rw [y1, y2]
    clear y1 y2
    have HK := Lib.hid (show k < 0 ∨ 7 < k by omega)
    clear hk
    go_enter Try.func35, Try.ntmps35
    go_wp2_with fail
    refine (l3Form_no _ _ HK.out).mono ?_
    rintro e w' ⟨rfl, rfl⟩
    go_wp2_with fail
    go_ret2
    exact ⟨rfl, rfl⟩
end Go.Proofs.Ytffonncbmddjgaa
