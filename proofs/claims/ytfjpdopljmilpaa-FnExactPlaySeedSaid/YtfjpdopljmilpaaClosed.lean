/-
  Closed facts on the translated program that every statement of this seat asks: the first words of its order of initialisation, and that it may be entered. No condition.
-/
import Derived.Test.YtfjpdopljmilpaaBaseA
namespace Go.Proofs.Ytfjpdopljmilpaa
theorem init_eq : Try.prog.initOrder = "harness" ++ (" " ++ ("0e9e3e4eb4b83de0b368cc9c5720cf54142a54d1b73ed3499213b3a9449a6869" ++ (" " ++ ("cut" ++ (" " ++ "at loop.example/g01194/laws.FnExactPlaySeed loop.example/g01194/laws.FnExactSeedTile loop.example/g01194/laws.FnReplays loop.example/g01194/laws.FnPlayed loop.example/g01194/laws.FnChances loop.example/g01194/laws.FnRules loop.example/g01194/laws.FnRuleSlides loop.example/g01194/laws.FnExactFewestSlides loop.example/g01194/laws.FnExactFirstSlides loop.example/g01194/laws.FnReach loop.example/g01194/laws.FnSlides"))))) := by kernel_rfl
theorem words_app (r : List Char) : ∀ a : List Char, a.all (fun c => c != Char.ofNat 32) = true → wordsSigns (a ++ Char.ofNat 32 :: r) = a :: wordsSigns r
  | [], _ => rfl
  | c :: a, h => by
    simp only [List.all_cons, Bool.and_eq_true, bne_iff_ne] at h
    have ih := words_app r a h.2
    have hc : c ≠ ' ' := h.1
    show wordsSigns (c :: (a ++ Char.ofNat 32 :: r)) = _
    rw [wordsSigns]
    · rw [ih]
    · intro e; exact hc e
theorem space : " ".toList = [Char.ofNat 32] := by kernel_rfl
theorem words_eq : ∃ R, behindMainWord (wordsSigns Try.prog.initOrder.toList) = "cut".toList :: R := by
  refine ⟨wordsSigns "at loop.example/g01194/laws.FnExactPlaySeed loop.example/g01194/laws.FnExactSeedTile loop.example/g01194/laws.FnReplays loop.example/g01194/laws.FnPlayed loop.example/g01194/laws.FnChances loop.example/g01194/laws.FnRules loop.example/g01194/laws.FnRuleSlides loop.example/g01194/laws.FnExactFewestSlides loop.example/g01194/laws.FnExactFirstSlides loop.example/g01194/laws.FnReach loop.example/g01194/laws.FnSlides".toList, ?_⟩
  rw [init_eq]
  simp only [String.toList_append, space, List.cons_append, List.nil_append]
  rw [words_app _ _ (by kernel_rfl), words_app _ _ (by kernel_rfl), words_app _ _ (by kernel_rfl)]
  generalize wordsSigns "at loop.example/g01194/laws.FnExactPlaySeed loop.example/g01194/laws.FnExactSeedTile loop.example/g01194/laws.FnReplays loop.example/g01194/laws.FnPlayed loop.example/g01194/laws.FnChances loop.example/g01194/laws.FnRules loop.example/g01194/laws.FnRuleSlides loop.example/g01194/laws.FnExactFewestSlides loop.example/g01194/laws.FnExactFirstSlides loop.example/g01194/laws.FnReach loop.example/g01194/laws.FnSlides".toList = R
  simp only [behindMainWord]
  rw [if_pos (by kernel_rfl)]
theorem strip_eq (R : List (List Char)) : stripLifts liftWords ("cut".toList :: R) = ([], "cut".toList :: R) := by kernel_rfl
theorem lays_no : Try.prog.laysLater = false := by kernel_rfl
theorem bears_no : Try.prog.bearsReflect = false := by kernel_rfl
theorem door_ok : Try.prog.doorFits [] = true := by kernel_rfl
section
variable (P : Program) (R : List (List Char)) (h : behindMainWord (wordsSigns P.initOrder.toList) = "cut".toList :: R)
include h
theorem lifts_of : P.headLifts = [] := by
  unfold Program.headLifts
  rw [h, strip_eq]
  simp
theorem final_of : P.liftsFinal = false := by
  unfold Program.liftsFinal
  rw [h, lifts_of P R h]
  simp
theorem enters_of (h2 : P.laysLater = false) (h3 : P.bearsReflect = false) (h4 : P.doorFits [] = true) : P.mayEnter = true := by
  unfold Program.mayEnter
  rw [h]
  simp only [strip_eq, h2, h3, h4]
  simp
theorem make_of : P.make = some .cut := by
  unfold Program.make
  rw [h]
  simp
end
theorem final_no : Try.prog.liftsFinal = false := by obtain ⟨R, h⟩ := words_eq; exact final_of _ R h
theorem enters : Try.prog.mayEnter = true := by obtain ⟨R, h⟩ := words_eq; exact enters_of _ R h lays_no bears_no door_ok
theorem make_cut : Try.prog.make = some .cut := by obtain ⟨R, h⟩ := words_eq; exact make_of _ R h
theorem and_mk {a b : Bool} (h1 : a = true) (h2 : b = true) : (a && b) = true := by rw [h1, h2]; rfl
theorem laidOut : laidOutB Try.prog = true := by kernel_rfl
theorem maps_rowed : mapsRowed Try.prog = true := by kernel_rfl
theorem stops_heard : Try.prog.stopsHeard = true := by kernel_rfl
end Go.Proofs.Ytfjpdopljmilpaa
