/-
  Plain facts on lists of slides. No program stands in this text.
-/
import Derived.Test.YtknjmkapabjolaaPlainA
namespace Go.Proofs.Ytknjmkapabjolaa.Plain
/-- The board behind the first k slides of a list, and the sum of their scores. -/
def mdB (f h : Nat → Int) : Nat → Nat → Int
  | 0 => f
  | k + 1 => slideB (mdB f h k) (h k).toNat
def mdS (f h : Nat → Int) : Nat → Int
  | 0 => 0
  | k + 1 => mdS f h k + slideS (mdB f h k) (h k).toNat 4
theorem mdB_vd {f : Nat → Int} (hV : Vd f) (h : Nat → Int) : ∀ k, Vd (mdB f h k)
  | 0 => hV
  | k + 1 => slideB_vd (mdB_vd hV h k) _
theorem mdS_bd {f : Nat → Int} (hV : Vd f) (h : Nat → Int) : ∀ k, 0 ≤ mdS f h k ∧ mdS f h k ≤ k * 4194304
  | 0 => by simp [mdS]
  | k + 1 => by
    have h1 := mdS_bd hV h k
    have h2 := slideS_bd (mdB_vd hV h k) (h k).toNat 4 (Nat.le_refl _)
    unfold mdS
    omega
/-- All numbers of a list are those of directions. -/
def Sides (h : Nat → Int) (n : Nat) : Prop := ∀ j, j < n → 0 ≤ h j ∧ h j ≤ 3
instance (h : Nat → Int) (n : Nat) : Decidable (Sides h n) := by unfold Sides; infer_instance
def DsOk (f h : Nat → Int) (n : Nat) : Prop := Vd f ∧ Sides h n
instance (f h : Nat → Int) (n : Nat) : Decidable (DsOk f h n) := by unfold DsOk; infer_instance
/-- What DoSlides returns. -/
def dsB (f h : Nat → Int) (n : Nat) : Nat → Int := if DsOk f h n then mdB f h n else fun _ => 0
def dsS (f h : Nat → Int) (n : Nat) : Int := if DsOk f h n then mdS f h n else 0
def dsO (f h : Nat → Int) (n : Nat) : Bool := decide (DsOk f h n)
theorem ds_yes {f h : Nat → Int} {n : Nat} (q : DsOk f h n) : dsB f h n = mdB f h n ∧ dsS f h n = mdS f h n ∧ dsO f h n = true := by simp [dsB, dsS, dsO, q]
theorem ds_no {f h : Nat → Int} {n : Nat} (q : ¬ DsOk f h n) : dsB f h n = (fun _ => 0) ∧ dsS f h n = 0 ∧ dsO f h n = false := by simp [dsB, dsS, dsO, q]
end Go.Proofs.Ytknjmkapabjolaa.Plain
