/-
  Plain facts on what LineOf returns. No program stands in this text.
-/
import Derived.Test.YtffonncbmddjgaaBoardPlain
namespace Go.Proofs.Ytffonncbmddjgaa.Plain
def LineOk (f : Nat → Int) (d i : Int) : Prop := Vd f ∧ (0 ≤ d ∧ d ≤ 3) ∧ 0 ≤ i ∧ i ≤ 3
instance (f : Nat → Int) (d i : Int) : Decidable (LineOk f d i) := by unfold LineOk; infer_instance
def lineO (f : Nat → Int) (d i : Int) : Bool := decide (LineOk f d i)
def lineR (f : Nat → Int) (d i : Int) : Nat → Int := if LineOk f d i then lineF f d.toNat i.toNat else fun _ => 0
theorem line_yes {f : Nat → Int} {d i : Int} (h : LineOk f d i) : lineO f d i = true ∧ lineR f d i = lineF f d.toNat i.toNat := by
  unfold lineO lineR; simp [h]
theorem line_no {f : Nat → Int} {d i : Int} (h : ¬ LineOk f d i) : lineO f d i = false ∧ lineR f d i = fun _ => 0 := by
  unfold lineO lineR; simp [h]
end Go.Proofs.Ytffonncbmddjgaa.Plain
