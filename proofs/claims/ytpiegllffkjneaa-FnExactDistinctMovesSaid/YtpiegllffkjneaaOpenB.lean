/-
  A struct or an array of integers that came in by value: its cells are integers, told by a function of their places. Nothing is proved here of the program.
-/
import Derived.Test.YtpiegllffkjneaaTypes
import Derived.OpenShut
namespace Go.Proofs.Ytpiegllffkjneaa
open Go.ChangeShapes Go.WideShapes Go.ChangeAt Go.RowKit

section
variable {H : Type} {enc : TypeId × Value → H} {P : Program} {w : World} {base : Nat} {spare : Nat → Bool} {held : Bool}
theorem trod_int_at {fuel : Nat} {t : TypeId} {c : List Value} {x : DataW H × List MemPlace} (ht : P.underlying t = some (.int .i64)) (h : DataW.trod enc P w base spare held fuel t c = some x) :
    ∃ n : Int, c = [.int .i64 n] ∧ (Lit.int .i64 n).wf = true := by
  obtain ⟨n, e, _, hw⟩ := DataW.trod_int ht h
  exact ⟨n, e, hw⟩
/-- An array of integers. -/
theorem trod_ints {fuel n : Nat} {t e : TypeId} {cs : List Value} {x : DataW H × List MemPlace} (ht : P.underlying t = some (.array n e)) (he : P.underlying e = some (.int .i64)) (h1 : P.cellsOf e = 1)
    (h : DataW.trod enc P w base spare held fuel t cs = some x) : ∀ i, i < n → ∃ z : Int, cs[i]? = some (.int .i64 z) ∧ (Lit.int .i64 z).wf = true := by
  obtain ⟨xs, m, _, _, hl, hxl, hg⟩ := DataW.trod_array ht h
  intro i hi
  have h2 := hg i hi
  rw [h1, Nat.mul_one, List.getElem?_eq_getElem (by omega)] at h2
  obtain ⟨z, hz, hw⟩ := trod_int_at he h2
  refine ⟨z, ?_, hw⟩
  have h3 : ((cs.drop i).take 1)[0]? = some (.int .i64 z) := by rw [hz]; rfl
  simpa using h3
/-- An array of arrays of integers. -/
theorem trod_rows {fuel n m : Nat} {t e i : TypeId} {cs : List Value} {x : DataW H × List MemPlace} (ht : P.underlying t = some (.array n e)) (he : P.underlying e = some (.array m i)) (hi : P.underlying i = some (.int .i64))
    (hm : P.cellsOf e = m) (h1 : P.cellsOf i = 1) (h : DataW.trod enc P w base spare held fuel t cs = some x) : ∀ r c, r < n → c < m → ∃ z : Int, cs[r * m + c]? = some (.int .i64 z) ∧ (Lit.int .i64 z).wf = true := by
  obtain ⟨xs, k, _, _, hl, hxl, hg⟩ := DataW.trod_array ht h
  intro r c hr hc
  have h2 := hg r hr
  rw [hm, List.getElem?_eq_getElem (by omega)] at h2
  obtain ⟨z, hz, hw⟩ := trod_ints he hi h1 h2 c hc
  refine ⟨z, ?_, hw⟩
  rw [List.getElem?_take, if_pos hc, List.getElem?_drop] at hz
  exact hz
end

/-- The numbers of a row of cells. -/
def nums (cs : Array Value) : Nat → Int := fun i => match cs[i]? with | some (.int _ z) => z | _ => 0
theorem nums_mk {n : Nat} {cs : Array Value} (hs : cs.size = n) (h : ∀ i, i < n → ∃ z : Int, cs[i]? = some (.int .i64 z) ∧ (Lit.int .i64 z).wf = true) :
    cs = mk n (nums cs) ∧ ∀ i, i < n → (Lit.int .i64 (nums cs i)).wf = true := by
  refine ⟨mk_ext hs fun i hi => ?_, fun i hi => ?_⟩
  · obtain ⟨z, hz, _⟩ := h i hi
    simp [nums, hz]
  · obtain ⟨z, hz, hw⟩ := h i hi
    simpa [nums, hz] using hw

theorem cellsK : Try.prog.cellsOf 86 = 16 := by kernel_rfl
theorem cellsG : Try.prog.cellsOf 25 = 16 := by kernel_rfl
theorem cellsR : Try.prog.cellsOf 24 = 4 := by kernel_rfl
theorem cellsC : Try.prog.cellsOf 49 = 2 := by kernel_rfl
theorem cellsI : Try.prog.cellsOf 3 = 1 := by kernel_rfl
section
variable {H : Type} {enc : TypeId × Value → H} {P : Program} {w : World} {base : Nat} {spare : Nat → Bool} {held : Bool}
theorem open_board_at {t g e i : TypeId} {f0 : Field} (ht : P.underlying t = some (.struct #[f0])) (ho : f0.offset = 0) (hg : f0.type = g) (hgu : P.underlying g = some (.array 4 e)) (heu : P.underlying e = some (.array 4 i))
    (hiu : P.underlying i = some (.int .i64)) (ct : P.cellsOf t = 16) (cg : P.cellsOf g = 16) (ce : P.cellsOf e = 4) (ci : P.cellsOf i = 1)
    {r : Reach} {b0 : Nat} {v : Value} {d : DataW H} {p : List MemPlace} (hv : Value.okWide P w r b0 t v) (h : DataW.Trod enc P w base spare held t v d p) :
    ∃ f : Nat → Int, v = .agg (mk 16 f) ∧ ∀ i, i < 16 → (Lit.int .i64 (f i)).wf = true := by
  obtain ⟨cs, rfl, hsz⟩ := okWide_struct ht hv
  rw [ct] at hsz
  obtain ⟨fuel, hf⟩ := h
  obtain ⟨xs, n, _, _, _, hl, hq⟩ := DataW.trod_struct ht hf
  have h0 := hq 0 f0 rfl
  have hl2 : xs.length = 1 := hl
  rw [List.getElem?_eq_getElem (by omega), ho, hg, cg] at h0
  have hr := trod_rows hgu heu hiu ce ci h0
  have hall : ∀ i, i < 16 → ∃ z : Int, cs[i]? = some (.int .i64 z) ∧ (Lit.int .i64 z).wf = true := by
    intro i hi
    obtain ⟨z, hz, hw⟩ := hr (i / 4) (i % 4) (by omega) (by omega)
    refine ⟨z, ?_, hw⟩
    rw [show i / 4 * 4 + i % 4 = i by omega, List.getElem?_take, if_pos hi] at hz
    simpa [Value.cells] using hz
  obtain ⟨h1, h2⟩ := nums_mk hsz hall
  exact ⟨nums cs, congrArg Value.agg h1, h2⟩
theorem open_ints_at {t e : TypeId} {n : Nat} (ht : P.underlying t = some (.array n e)) (he : P.underlying e = some (.int .i64)) (ct : P.cellsOf t = n) (ce : P.cellsOf e = 1)
    {r : Reach} {b0 : Nat} {v : Value} {d : DataW H} {p : List MemPlace} (hv : Value.okWide P w r b0 t v) (h : DataW.Trod enc P w base spare held t v d p) :
    ∃ f : Nat → Int, v = .agg (mk n f) ∧ ∀ i, i < n → (Lit.int .i64 (f i)).wf = true := by
  obtain ⟨cs, rfl, hsz, _⟩ : ∃ cs, v = .agg cs ∧ cs.size = P.cellsOf t ∧ Row.okWide P w r b0 t cs := by
    simpa [Value.okWide, ht] using hv
  rw [ct] at hsz
  obtain ⟨fuel, hf⟩ := h
  have hall := trod_ints ht he ce hf
  obtain ⟨h1, h2⟩ := nums_mk hsz (fun i hi => by simpa [Value.cells] using hall i hi)
  exact ⟨nums cs, congrArg Value.agg h1, h2⟩
end
end Go.Proofs.Ytpiegllffkjneaa
