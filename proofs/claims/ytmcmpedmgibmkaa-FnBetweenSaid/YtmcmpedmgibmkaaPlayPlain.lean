/-
  Plain facts on lists of steps. No program stands in this text.
-/
import Derived.Test.YtmcmpedmgibmkaaStepPlain
namespace Go.Proofs.Ytmcmpedmgibmkaa.Plain
/-- The step k of a list. -/
def stAt (h : Nat → Int) (k : Nat) : Nat → Int := fun j => h (k * 4 + j)
/-- The board behind the first k steps, and the sum of their scores. -/
def plB (f h : Nat → Int) : Nat → Nat → Int
  | 0 => f
  | k + 1 => doB (plB f h k) (stAt h k)
def plS (f h : Nat → Int) : Nat → Int
  | 0 => 0
  | k + 1 => plS f h k + doS (plB f h k) (stAt h k)
/-- How many of the first k are made. -/
def plN (f h : Nat → Int) : Nat → Nat
  | 0 => 0
  | k + 1 => if plN f h k = k ∧ StepOk (plB f h k) (stAt h k) then k + 1 else plN f h k
theorem plB_vd {f : Nat → Int} (hV : Vd f) (h : Nat → Int) : ∀ k, Vd (plB f h k)
  | 0 => hV
  | k + 1 => do_vd (plB_vd hV h k)
theorem doS_bd {f : Nat → Int} (hV : Vd f) (s : Nat → Int) : 0 ≤ doS f s ∧ doS f s ≤ 4194304 := by
  unfold doS
  split
  · have := slideS_bd hV (s 0).toNat 4 (Nat.le_refl _); omega
  · omega
theorem plS_bd {f : Nat → Int} (hV : Vd f) (h : Nat → Int) : ∀ k, 0 ≤ plS f h k ∧ plS f h k ≤ k * 4194304
  | 0 => by simp [plS]
  | k + 1 => by
    have h1 := plS_bd hV h k
    have h2 := doS_bd (plB_vd hV h k) (stAt h k)
    unfold plS
    omega
theorem plN_yes {f h : Nat → Int} {k : Nat} (hk : plN f h k = k) (ho : doO (plB f h k) (stAt h k) = true) : plN f h (k + 1) = k + 1 := by
  simp only [doO, decide_eq_true_iff] at ho
  unfold plN; rw [if_pos ⟨hk, ho⟩]
theorem plN_no {f h : Nat → Int} {k : Nat} (hk : plN f h k = k) (ho : doO (plB f h k) (stAt h k) = false) : ∀ m, k ≤ m → plN f h m = k := by
  simp only [doO, decide_eq_false_iff_not] at ho
  intro m hm
  induction m with
  | zero => obtain rfl : k = 0 := by omega
            rfl
  | succ m ih =>
    rcases (by omega : k = m + 1 ∨ k ≤ m) with rfl | q
    · exact hk
    · have := ih q
      unfold plN
      rw [if_neg, this]
      rintro ⟨q1, q2⟩
      have : k = m := by omega
      subst this
      exact ho q2
/-- What PlaySteps returns. -/
def plRB (f h : Nat → Int) (n : Nat) : Nat → Int := if Vd f then plB f h (plN f h n) else fun _ => 0
def plRS (f h : Nat → Int) (n : Nat) : Int := if Vd f then plS f h (plN f h n) else 0
def plRN (f h : Nat → Int) (n : Nat) : Int := if Vd f then (plN f h n : Int) else 0
theorem pl_yes {f h : Nat → Int} {n : Nat} (hV : Vd f) : plRB f h n = plB f h (plN f h n) ∧ plRS f h n = plS f h (plN f h n) ∧ plRN f h n = (plN f h n : Int) := by simp [plRB, plRS, plRN, hV]
theorem pl_no {f h : Nat → Int} {n : Nat} (hV : ¬ Vd f) : plRB f h n = (fun _ => 0) ∧ plRS f h n = 0 ∧ plRN f h n = 0 := by simp [plRB, plRS, plRN, hV]
end Go.Proofs.Ytmcmpedmgibmkaa.Plain
