/-
  Plain facts on lists of steps. No program stands in this text.
-/
import Derived.Test.YtfjpdopljmilpaaStepPlain
namespace Go.Proofs.Ytfjpdopljmilpaa.Plain
/-- The step k of a list. -/
def stAt (h : Nat → Int) (k : Nat) : Nat → Int := fun j => h (k * 4 + j)
/-- The board behind the first k steps, and the sum of their scores. -/
def pyB (f h : Nat → Int) : Nat → Nat → Int
  | 0 => f
  | k + 1 => doB (pyB f h k) (stAt h k)
def pyS (f h : Nat → Int) : Nat → Int
  | 0 => 0
  | k + 1 => pyS f h k + doS (pyB f h k) (stAt h k)
/-- How many of the first k are made. -/
def pyN (f h : Nat → Int) : Nat → Nat
  | 0 => 0
  | k + 1 => if pyN f h k = k ∧ StepOk (pyB f h k) (stAt h k) then k + 1 else pyN f h k
theorem pyB_vd {f : Nat → Int} (hV : Vd f) (h : Nat → Int) : ∀ k, Vd (pyB f h k)
  | 0 => hV
  | k + 1 => do_vd (pyB_vd hV h k)
theorem doS_bd {f : Nat → Int} (hV : Vd f) (s : Nat → Int) : 0 ≤ doS f s ∧ doS f s ≤ 4194304 := by
  unfold doS
  split
  · have := slideS_bd hV (s 0).toNat 4 (Nat.le_refl _); omega
  · omega
theorem pyS_bd {f : Nat → Int} (hV : Vd f) (h : Nat → Int) : ∀ k, 0 ≤ pyS f h k ∧ pyS f h k ≤ k * 4194304
  | 0 => by simp [pyS]
  | k + 1 => by
    have h1 := pyS_bd hV h k
    have h2 := doS_bd (pyB_vd hV h k) (stAt h k)
    unfold pyS
    omega
theorem pyN_yes {f h : Nat → Int} {k : Nat} (hk : pyN f h k = k) (ho : doO (pyB f h k) (stAt h k) = true) : pyN f h (k + 1) = k + 1 := by
  simp only [doO, decide_eq_true_iff] at ho
  unfold pyN; rw [if_pos ⟨hk, ho⟩]
theorem pyN_no {f h : Nat → Int} {k : Nat} (hk : pyN f h k = k) (ho : doO (pyB f h k) (stAt h k) = false) : ∀ m, k ≤ m → pyN f h m = k := by
  simp only [doO, decide_eq_false_iff_not] at ho
  intro m hm
  induction m with
  | zero => obtain rfl : k = 0 := by omega
            rfl
  | succ m ih =>
    rcases (by omega : k = m + 1 ∨ k ≤ m) with rfl | q
    · exact hk
    · have := ih q
      unfold pyN
      rw [if_neg, this]
      rintro ⟨q1, q2⟩
      have : k = m := by omega
      subst this
      exact ho q2
/-- What PlaySteps returns. -/
def pyRB (f h : Nat → Int) (n : Nat) : Nat → Int := if Vd f then pyB f h (pyN f h n) else fun _ => 0
def pyRS (f h : Nat → Int) (n : Nat) : Int := if Vd f then pyS f h (pyN f h n) else 0
def pyRN (f h : Nat → Int) (n : Nat) : Int := if Vd f then (pyN f h n : Int) else 0
theorem py_yes {f h : Nat → Int} {n : Nat} (hV : Vd f) : pyRB f h n = pyB f h (pyN f h n) ∧ pyRS f h n = pyS f h (pyN f h n) ∧ pyRN f h n = (pyN f h n : Int) := by simp [pyRB, pyRS, pyRN, hV]
theorem py_no {f h : Nat → Int} {n : Nat} (hV : ¬ Vd f) : pyRB f h n = (fun _ => 0) ∧ pyRS f h n = 0 ∧ pyRN f h n = 0 := by simp [pyRB, pyRS, pyRN, hV]
end Go.Proofs.Ytfjpdopljmilpaa.Plain
