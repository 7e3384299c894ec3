/-
  The contracts of PlaySeed once more, the steps told by a function of their places.
-/
import Derived.Test.YtfjpdopljmilpaaImplPlayS
namespace Go.Proofs.Ytfjpdopljmilpaa
open Go.RowKit Plain
set_option linter.unusedVariables false
theorem flat_four : ∀ (L : List (List Int)), (∀ l, l ∈ L → l.length = 4) → L.flatten.length = L.length * 4
  | [], _ => rfl
  | x :: L, h => by
    have := flat_four L fun l hl => h l (List.mem_cons_of_mem _ hl)
    have := h x List.mem_cons_self
    simp only [List.flatten_cons, List.length_append, List.length_cons]
    omega
theorem flat_own {w : World} {b : Nat} {v : Value} {L : List (List Int)} (h : OwnsL 52 4 w b v L) (h4 : ∀ l, l ∈ L → l.length = 4) : OwnT w b v L.length fun j => L.flatten.getD j 0 := by
  unfold OwnsL at h
  unfold OwnT
  have e : L.flatten.map (Value.int .i64) = (mk (L.length * 4) fun j => L.flatten.getD j 0).toList := by
    rw [← flat_four L h4]
    generalize L.flatten = X
    unfold mk
    apply List.ext_getElem?
    intro i
    simp only [List.getElem?_map]
    by_cases hi : i < X.length
    · simp [hi]
    · simp [hi]
  rw [e] at h
  exact h
theorem psL_four (f o : Nat → Int) (s n : Int) : (∀ l, l ∈ psL f o s n → l.length = 4) ∧ (psL f o s n).length ≤ 40 := by
  by_cases h : psOk f o s n
  · rw [(ps_yes h).2.1]
    have := psA_vd (o := o) h.1 h.2.2.1 n.toNat
    have h1 := h.2.2.2
    exact ⟨this.2.2.2, by have := this.2.2.1; omega⟩
  · rw [(ps_no h).2.1]
    refine ⟨fun l hl => ?_, by decide⟩
    exact absurd hl (by simp)
def psH (f o : Nat → Int) (s n : Int) : Nat → Int := fun j => (psL f o s n).flatten.getD j 0
theorem specPlayT_any (f o : Nat → Int) (s n : Int) (w : World) :
    Calls Try.prog 14 #[.agg (mk 16 f), .agg (mk 4 o), .int .i64 s, .int .i64 n] w fun e w' => ∃ a c, e = .returned (.tuple #[.agg (rpl (psB f o s n) (.slice a (psL f o s n).length c)), .int .i64 (psS f o s n), .bool (psO f o s n)]) ∧
      OwnT w' w.heap.size (.slice a (psL f o s n).length c) (psL f o s n).length (psH f o s n) ∧ Below w.heap.size w w' := by
  refine (specPlayS_any f o s n w).mono ?_
  rintro e w' ⟨a, c, h1, h2, h3⟩
  exact ⟨a, c, h1, flat_own h2 (psL_four f o s n).1, h3⟩
theorem implPlayT_any (f o : Nat → Int) (s n : Int) (w : World) :
    Calls Try.prog 17 #[.agg (mk 16 f), .agg (mk 4 o), .int .i64 s, .int .i64 n] w fun e w' => ∃ a c, e = .returned (.tuple #[.agg (rpl (psB f o s n) (.slice a (psL f o s n).length c)), .int .i64 (psS f o s n), .bool (psO f o s n)]) ∧
      OwnT w' w.heap.size (.slice a (psL f o s n).length c) (psL f o s n).length (psH f o s n) ∧ Below w.heap.size w w' := by
  refine (implPlayS_any f o s n w).mono ?_
  rintro e w' ⟨a, c, h1, h2, h3⟩
  exact ⟨a, c, h1, flat_own h2 (psL_four f o s n).1, h3⟩
end Go.Proofs.Ytfjpdopljmilpaa
