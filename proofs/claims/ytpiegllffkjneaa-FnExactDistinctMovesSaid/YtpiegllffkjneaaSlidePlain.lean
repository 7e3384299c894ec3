/-
  Plain facts on what SlideBoard and MergersOf return: the slide, where the board and the direction are valid. No program stands in this text.
-/
import Derived.Test.YtpiegllffkjneaaBoardPlain
namespace Go.Proofs.Ytpiegllffkjneaa.Plain

/-- What SlideBoard returns. -/
def SlideOk (f : Nat → Int) (d : Int) : Prop := Vd f ∧ 0 ≤ d ∧ d ≤ 3
instance (f : Nat → Int) (d : Int) : Decidable (SlideOk f d) := by unfold SlideOk; infer_instance
def slideRO (f : Nat → Int) (d : Int) : Bool := decide (SlideOk f d)
def slideRB (f : Nat → Int) (d : Int) : Nat → Int := if SlideOk f d then slideB f d.toNat else fun _ => 0
def slideRS (f : Nat → Int) (d : Int) : Int := if SlideOk f d then slideS f d.toNat 4 else 0
def slideRM (f : Nat → Int) (d : Int) : Int := if SlideOk f d then slideM f d.toNat 4 else 0
theorem slide_yes {f : Nat → Int} {d : Int} (h : SlideOk f d) : slideRO f d = true ∧ slideRB f d = slideB f d.toNat ∧ slideRS f d = slideS f d.toNat 4 ∧ slideRM f d = slideM f d.toNat 4 := by
  unfold slideRO slideRB slideRS slideRM; simp [h]
theorem slide_no {f : Nat → Int} {d : Int} (h : ¬ SlideOk f d) : slideRO f d = false ∧ slideRB f d = (fun _ => 0) ∧ slideRS f d = 0 ∧ slideRM f d = 0 := by
  unfold slideRO slideRB slideRS slideRM; simp [h]
end Go.Proofs.Ytpiegllffkjneaa.Plain
