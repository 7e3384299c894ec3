/-
  A step that comes in by value, and the laws' conversion of it. No condition.
-/
import Derived.Test.YtfjpdopljmilpaaStepMem
import Derived.Test.YtfjpdopljmilpaaBaseA
import Derived.Deep.CutRange
namespace Go.Proofs.Ytfjpdopljmilpaa
open Go.ChangeShapes Go.WideShapes Go.ChangeAt Go.RowKit Plain
attribute [local go_sem] store_new
set_option linter.unusedVariables false
set_option linter.unusedSimpArgs false

section
variable {H : Type} {enc : TypeId × Value → H} {P : Program} {w : World} {base : Nat} {spare : Nat → Bool} {held : Bool}
/-- The four numbers of a step that reads. -/
theorem trod_step {fuel : Nat} {t c i : TypeId} {f0 f1 f2 : Field} {cs : List Value} {x : DataW H × List MemPlace} (ht : P.underlying t = some (.struct #[f0, f1, f2])) (o0 : f0.offset = 0) (o1 : f1.offset = 1) (o2 : f2.offset = 3)
    (t0 : f0.type = i) (t1 : f1.type = c) (t2 : f2.type = i) (hc : P.underlying c = some (.array 2 i)) (hi : P.underlying i = some (.int .i64)) (cc : P.cellsOf c = 2) (ci : P.cellsOf i = 1)
    (h : DataW.trod enc P w base spare held fuel t cs = some x) : ∀ j, j < 4 → ∃ z : Int, cs[j]? = some (.int .i64 z) ∧ (Lit.int .i64 z).wf = true := by
  obtain ⟨xs, n, _, _, _, hl, hq⟩ := DataW.trod_struct ht h
  have hl2 : xs.length = 3 := hl
  have h0 := hq 0 f0 rfl
  have h1 := hq 1 f1 rfl
  have h2 := hq 2 f2 rfl
  rw [List.getElem?_eq_getElem (by omega), o0, t0, ci] at h0
  rw [List.getElem?_eq_getElem (by omega), o1, t1, cc] at h1
  rw [List.getElem?_eq_getElem (by omega), o2, t2, ci] at h2
  have one : ∀ (o : Nat) {y : DataW H × List MemPlace}, DataW.trod enc P w base spare held n i (List.take 1 (List.drop o cs)) = some y → ∃ z : Int, cs[o]? = some (.int .i64 z) ∧ (Lit.int .i64 z).wf = true := by
    intro o y hy
    obtain ⟨z, hz, hw⟩ := trod_int_at hi hy
    refine ⟨z, ?_, hw⟩
    have h3 : ((cs.drop o).take 1)[0]? = some (.int .i64 z) := by rw [hz]; rfl
    simpa using h3
  have two := trod_ints hc hi ci h1
  intro j hj
  rcases (by omega : j = 0 ∨ j = 1 ∨ j = 2 ∨ j = 3) with rfl | rfl | rfl | rfl
  · exact one 0 h0
  · obtain ⟨z, hz, hw⟩ := two 0 (by omega)
    rw [List.getElem?_take, if_pos (by omega), List.getElem?_drop] at hz
    exact ⟨z, hz, hw⟩
  · obtain ⟨z, hz, hw⟩ := two 1 (by omega)
    rw [List.getElem?_take, if_pos (by omega), List.getElem?_drop] at hz
    exact ⟨z, hz, hw⟩
  · exact one 3 h2
theorem open_step_at {t c i : TypeId} {f0 f1 f2 : Field} (ht : P.underlying t = some (.struct #[f0, f1, f2])) (o0 : f0.offset = 0) (o1 : f1.offset = 1) (o2 : f2.offset = 3)
    (t0 : f0.type = i) (t1 : f1.type = c) (t2 : f2.type = i) (hc : P.underlying c = some (.array 2 i)) (hi : P.underlying i = some (.int .i64)) (ct : P.cellsOf t = 4) (cc : P.cellsOf c = 2) (ci : P.cellsOf i = 1)
    {r : Reach} {b0 : Nat} {v : Value} {d : DataW H} {p : List MemPlace} (hv : Value.okWide P w r b0 t v) (h : DataW.Trod enc P w base spare held t v d p) :
    ∃ f : Nat → Int, v = .agg (mk 4 f) ∧ ∀ i, i < 4 → (Lit.int .i64 (f i)).wf = true := by
  obtain ⟨cs, rfl, hsz⟩ := okWide_struct ht hv
  rw [ct] at hsz
  obtain ⟨fuel, hf⟩ := h
  have hall := trod_step ht o0 o1 o2 t0 t1 t2 hc hi cc ci hf
  obtain ⟨h1, h2⟩ := nums_mk hsz (fun i hi => by simpa [Value.cells] using hall i hi)
  exact ⟨nums cs, congrArg Value.agg h1, h2⟩
end
end Go.Proofs.Ytfjpdopljmilpaa
