/-
  Closed facts on the translated program that every statement of this seat asks: the first words of its order of initialisation, and that it may be entered. No condition.
-/
import Derived.Test.YtekdodlkimgbhaaBaseA
namespace Go.Proofs.Ytekdodlkimgbhaa
theorem init_eq : Try.prog.initOrder = "harness" ++ (" " ++ ("2858ca6734f735d2da773aae5b3a3a8bf6d76967c6f062b96cfcf35fa2747ee6" ++ (" " ++ ("cut" ++ (" " ++ "at loop.example/g01194/laws.FnExactIsReplay loop.example/g01194/laws.FnExactBoardAt loop.example/g01194/laws.FnExactReplayScore loop.example/g01194/laws.FnExactAddStep loop.example/g01194/laws.FnExactUndoSteps loop.example/g01194/laws.FnExactCommonSteps loop.example/g01194/laws.FnExactFirstParting loop.example/g01194/laws.FnExactHighestIn loop.example/g01194/laws.FnExactStepText loop.example/g01194/laws.FnExactReplayText loop.example/g01194/laws.FnExactParseReplay loop.example/g01194/laws.FnExactNextSeed"))))) := by kernel_rfl
theorem words_app (r : List Char) : ∀ a : List Char, a.all (fun c => c != Char.ofNat 32) = true → wordsSigns (a ++ Char.ofNat 32 :: r) = a :: wordsSigns r
  | [], _ => rfl
  | c :: a, h => by
    simp only [List.all_cons, Bool.and_eq_true, bne_iff_ne] at h
    have ih := words_app r a h.2
    have hc : c ≠ ' ' := h.1
    show wordsSigns (c :: (a ++ Char.ofNat 32 :: r)) = _
    rw [wordsSigns]
    · rw [ih]
    · intro e; exact hc e
theorem space : " ".toList = [Char.ofNat 32] := by kernel_rfl
theorem words_eq : ∃ R, behindMainWord (wordsSigns Try.prog.initOrder.toList) = "cut".toList :: R := by
  refine ⟨wordsSigns "at loop.example/g01194/laws.FnExactIsReplay loop.example/g01194/laws.FnExactBoardAt loop.example/g01194/laws.FnExactReplayScore loop.example/g01194/laws.FnExactAddStep loop.example/g01194/laws.FnExactUndoSteps loop.example/g01194/laws.FnExactCommonSteps loop.example/g01194/laws.FnExactFirstParting loop.example/g01194/laws.FnExactHighestIn loop.example/g01194/laws.FnExactStepText loop.example/g01194/laws.FnExactReplayText loop.example/g01194/laws.FnExactParseReplay loop.example/g01194/laws.FnExactNextSeed".toList, ?_⟩
  rw [init_eq]
  simp only [String.toList_append, space, List.cons_append, List.nil_append]
  rw [words_app _ _ (by kernel_rfl), words_app _ _ (by kernel_rfl), words_app _ _ (by kernel_rfl)]
  generalize wordsSigns "at loop.example/g01194/laws.FnExactIsReplay loop.example/g01194/laws.FnExactBoardAt loop.example/g01194/laws.FnExactReplayScore loop.example/g01194/laws.FnExactAddStep loop.example/g01194/laws.FnExactUndoSteps loop.example/g01194/laws.FnExactCommonSteps loop.example/g01194/laws.FnExactFirstParting loop.example/g01194/laws.FnExactHighestIn loop.example/g01194/laws.FnExactStepText loop.example/g01194/laws.FnExactReplayText loop.example/g01194/laws.FnExactParseReplay loop.example/g01194/laws.FnExactNextSeed".toList = R
  simp only [behindMainWord]
  rw [if_pos (by kernel_rfl)]
theorem strip_eq (R : List (List Char)) : stripLifts liftWords ("cut".toList :: R) = ([], "cut".toList :: R) := by kernel_rfl
theorem lays_no : Try.prog.laysLater = false := by kernel_rfl
theorem bears_no : Try.prog.bearsReflect = false := by kernel_rfl
theorem door_ok : Try.prog.doorFits [] = true := by kernel_rfl
section
variable (P : Program) (R : List (List Char)) (h : behindMainWord (wordsSigns P.initOrder.toList) = "cut".toList :: R)
include h
theorem lifts_of : P.headLifts = [] := by
  unfold Program.headLifts
  rw [h, strip_eq]
  simp
theorem final_of : P.liftsFinal = false := by
  unfold Program.liftsFinal
  rw [h, lifts_of P R h]
  simp
theorem enters_of (h2 : P.laysLater = false) (h3 : P.bearsReflect = false) (h4 : P.doorFits [] = true) : P.mayEnter = true := by
  unfold Program.mayEnter
  rw [h]
  simp only [strip_eq, h2, h3, h4]
  simp
theorem make_of : P.make = some .cut := by
  unfold Program.make
  rw [h]
  simp
end
theorem final_no : Try.prog.liftsFinal = false := by obtain ⟨R, h⟩ := words_eq; exact final_of _ R h
theorem enters : Try.prog.mayEnter = true := by obtain ⟨R, h⟩ := words_eq; exact enters_of _ R h lays_no bears_no door_ok
theorem make_cut : Try.prog.make = some .cut := by obtain ⟨R, h⟩ := words_eq; exact make_of _ R h
theorem and_mk {a b : Bool} (h1 : a = true) (h2 : b = true) : (a && b) = true := by rw [h1, h2]; rfl
theorem laidOut : laidOutB Try.prog = true := by kernel_rfl
theorem maps_rowed : mapsRowed Try.prog = true := by kernel_rfl
theorem stops_heard : Try.prog.stopsHeard = true := by kernel_rfl
end Go.Proofs.Ytekdodlkimgbhaa
