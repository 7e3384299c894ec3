/-
  The contract of the program's DoStep, for every board and every four numbers of a step.
-/
import Derived.Test.YtmcmpedmgibmkaaStepMem
import Derived.Test.YtmcmpedmgibmkaaImplSlideBoard
import Derived.Test.YtmcmpedmgibmkaaImplPut
namespace Go.Proofs.Ytmcmpedmgibmkaa
open Go.RowKit Plain
attribute [local go_sem] store_new
set_option linter.unusedVariables false
set_option linter.unusedSimpArgs false

namespace Plain
theorem doR_bad {f s : Nat → Int} (h : ¬ (Vd f ∧ StepOk f s)) : doRB f s = (fun _ => 0) ∧ doRS f s = 0 ∧ doRO f s = false := by
  by_cases hV : Vd f
  · obtain ⟨a, b, c⟩ := doR_yes (s := s) hV
    obtain ⟨a', b', c'⟩ := do_no (fun q => h ⟨hV, q⟩)
    rw [a, b, c, a', b', c']; exact ⟨rfl, rfl, rfl⟩
  · exact doR_no hV
theorem doR_good {f s : Nat → Int} (hV : Vd f) (h : StepOk f s) : doRB f s = upd (slideB f (s 0).toNat) (placeAt (cellS s)) (s 3) ∧ doRS f s = slideS f (s 0).toNat 4 ∧ doRO f s = true := by
  obtain ⟨a, b, c⟩ := doR_yes (s := s) hV
  obtain ⟨a', b', c'⟩ := do_yes h
  rw [a, b, c, a', b', c']; exact ⟨rfl, rfl, rfl⟩
end Plain
end Go.Proofs.Ytmcmpedmgibmkaa
