/-
  The contracts of the laws' helpers rInts and rHas, on rows of integers; and what the list of moves has.
-/
import Derived.Test.YtmcmpedmgibmkabRowsKit
import Derived.Test.YtmcmpedmgibmkabPlainA
namespace Go.Proofs.Ytmcmpedmgibmkab
open Go.RowKit Plain
attribute [local go_sem] Oper.semAt_some

/-- x is among the first n numbers. -/
def hasI (h : Nat → Int) (n : Nat) (x : Int) : Bool := (List.range n).any fun j => h j == x
theorem hasI_yes {h : Nat → Int} {n k : Nat} {x : Int} (hk : k < n) (hx : h k = x) : hasI h n x = true := by
  unfold hasI
  rw [List.any_eq_true]
  exact ⟨k, List.mem_range.2 hk, by simpa using hx⟩
theorem hasI_no {h : Nat → Int} {n : Nat} {x : Int} (hx : ∀ j, j < n → h j ≠ x) : hasI h n x = false := by
  unfold hasI
  rw [List.any_eq_false]
  intro j hj
  simpa using hx j (List.mem_range.1 hj)
theorem mem_mov (f : Nat → Int) (x : Int) : ∀ k, x ∈ movL f k ↔ ∃ j, j < k ∧ x = (j : Int) ∧ isMv f j = true
  | 0 => by simp [movL]
  | k + 1 => by
    have ih := mem_mov f x k
    by_cases h : isMv f k = true
    · rw [mov_yes h, List.mem_append, ih]
      constructor
      · rintro (⟨j, a, b, c⟩ | hx)
        · exact ⟨j, by omega, b, c⟩
        · exact ⟨k, by omega, by simpa using hx, h⟩
      · rintro ⟨j, a, b, c⟩
        by_cases e : j = k
        · subst e; exact .inr (by simpa using b)
        · exact .inl ⟨j, by omega, b, c⟩
    · have h2 : isMv f k = false := by simpa using h
      rw [mov_no h2, ih]
      constructor
      · rintro ⟨j, a, b, c⟩; exact ⟨j, by omega, b, c⟩
      · rintro ⟨j, a, b, c⟩
        by_cases e : j = k
        · subst e; exact absurd c h
        · exact ⟨j, by omega, b, c⟩
theorem has_mov (f : Nat → Int) {d : Nat} (hd : d < 4) : hasI (fun i => (movL f 4).getD i 0) (movL f 4).length (d : Int) = isMv f d := by
  by_cases h : isMv f d = true
  · rw [h]
    have hm : (d : Int) ∈ movL f 4 := (mem_mov f d 4).2 ⟨d, hd, rfl, h⟩
    obtain ⟨i, hi, he⟩ := List.getElem_of_mem hm
    exact hasI_yes hi (by show (movL f 4).getD i 0 = _; rw [List.getD_eq_getElem?_getD, List.getElem?_eq_getElem hi]; exact he)
  · have h2 : isMv f d = false := by simpa using h
    rw [h2]
    refine hasI_no fun j hj e => ?_
    have e2 : (movL f 4).getD j 0 = (d : Int) := e
    rw [List.getD_eq_getElem?_getD, List.getElem?_eq_getElem hj] at e2
    have hm : (d : Int) ∈ movL f 4 := by
      have := List.getElem_mem hj
      rw [show (movL f 4)[j] = (d : Int) from e2] at this
      exact this
    obtain ⟨l, _, b, c⟩ := (mem_mov f d 4).1 hm
    have : l = d := by omega
    subst this
    exact h c
theorem noMv_iff (f : Nat → Int) : (movL f 4).length = 0 ↔ NoMv f := by
  constructor
  · intro h d hd j hj
    have hn : ¬ isMv f d = true := fun e => by
      have := (mem_mov f d 4).2 ⟨d, hd, rfl, e⟩
      rw [List.length_eq_zero_iff.1 h] at this
      cases this
    have : sameB (slideB f d) f = true := by simpa [isMv] using hn
    exact sameB_iff.1 this j hj
  · intro h
    apply List.length_eq_zero_iff.2
    apply List.eq_nil_iff_forall_not_mem.2
    intro x hx
    obtain ⟨j, a, _, c⟩ := (mem_mov f x 4).1 hx
    have : sameB (slideB f j) f = true := sameB_iff.2 (h j a)
    simp [isMv, this] at c
end Go.Proofs.Ytmcmpedmgibmkab
