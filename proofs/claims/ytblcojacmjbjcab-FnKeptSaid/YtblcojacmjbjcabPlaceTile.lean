/-
  The contracts of PlaceTile, in the reference and in the program, for every board and every three numbers.
-/
import Derived.Test.YtblcojacmjbjcabTripKit
import Derived.Test.YtblcojacmjbjcabSpecPut
import Derived.Test.YtblcojacmjbjcabImplPut
namespace Go.Proofs.Ytblcojacmjbjcab
open Go.RowKit Plain
attribute [local go_sem] store_new
set_option linter.unusedVariables false
set_option linter.unusedSimpArgs false
namespace Plain
/-- What PlaceTile returns. -/
def ptB (f p : Nat → Int) : Nat → Int := if p 2 ≤ 2 then putB f p (p 2) else fun _ => 0
def ptO (f p : Nat → Int) : Bool := if p 2 ≤ 2 then putO f p (p 2) else false
end Plain
/-- A placement can be made on a valid board. -/
def Can3 (f p : Nat → Int) : Prop := CellIn p ∧ (1 ≤ p 2 ∧ p 2 ≤ 2) ∧ f (placeAt p) = 0
instance (f p : Nat → Int) : Decidable (Can3 f p) := by unfold Can3; infer_instance
end Go.Proofs.Ytblcojacmjbjcab
