/-
  Loops of the reference over all placements on a board: what stands in them. Nothing is proved here of the program's functions.
-/
import Derived.Test.YtblcojacmjbjcabPlaceTile
import Derived.Test.YtblcojacmjbjcabSpecPlaces
import Derived.Test.YtblcojacmjbjcabOver
namespace Go.Proofs.Ytblcojacmjbjcab
open Go.RowKit Plain
set_option linter.unusedVariables false
set_option linter.unusedSimpArgs false
theorem grown_rowP {w : World} {b n : Nat} {f : Nat → Int} {t : TypeId} (k : Blk w b n f t) (cs : Array Value) : w.grownBy (w.setRow b cs) (some b) := by
  refine ⟨rfl, rfl, rfl, ?_, fun j hj hne => ?_⟩
  · simp [World.setRow]
  · exact setRow_other w b j cs (fun e => hne (by rw [e]))
end Go.Proofs.Ytblcojacmjbjcab
