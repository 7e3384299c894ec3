/-
  Plain facts: the first board that comes back when a list of slides is made again and again. No program stands in this text.
-/
import Derived.Test.YtknjmkapabjolaaCycleBound
import Derived.Test.YtknjmkapabjolaaPlainA
set_option linter.unusedVariables false
namespace Go.Proofs.Ytknjmkapabjolaa.Plain

theorem least_one {P : Nat → Prop} : ∀ n, P n → ∃ m, m ≤ n ∧ P m ∧ ∀ k, k < m → ¬ P k := by
  intro n
  induction n using Nat.strongRecOn with
  | _ n ih =>
    intro h
    by_cases q : ∃ k, k < n ∧ P k
    · obtain ⟨k, hk, hp⟩ := q
      obtain ⟨m, h1, h2, h3⟩ := ih k hk hp
      exact ⟨m, by omega, h2, h3⟩
    · exact ⟨n, Nat.le_refl _, h, fun k hk hp => q ⟨k, hk, hp⟩⟩
/-- Board number j is one that was there before. -/
def CyBack (f h : Nat → Int) (n j : Nat) : Prop := ∃ i, i < j ∧ sameB (cyB f h n i) (cyB f h n j) = true
theorem cy_first {f : Nat → Int} (hf : Vd f) {h : Nat → Int} {n : Nat} (hs : Sides h n) : ∃ j, j ≤ 802967000000 ∧ CyBack f h n j ∧ ∀ k, k < j → ¬ CyBack f h n k := by
  obtain ⟨i, j, hij, hj, e⟩ := cycle_bound hf hs
  obtain ⟨m, h1, h2, h3⟩ := least_one (P := CyBack f h n) j ⟨i, hij, sameB_iff.2 e⟩
  exact ⟨m, Nat.le_trans h1 hj, h2, h3⟩
/-- The number of the first board that was there before, and where it was. -/
noncomputable def cyJ (f h : Nat → Int) (n : Nat) : Nat := by
  classical
  exact if q : ∃ j, j ≤ 802967000000 ∧ CyBack f h n j ∧ ∀ k, k < j → ¬ CyBack f h n k then Classical.choose q else 0
theorem cyJ_is {f : Nat → Int} (hf : Vd f) {h : Nat → Int} {n : Nat} (hs : Sides h n) : cyJ f h n ≤ 802967000000 ∧ CyBack f h n (cyJ f h n) ∧ ∀ k, k < cyJ f h n → ¬ CyBack f h n k := by
  have q := cy_first hf hs
  unfold cyJ
  rw [dif_pos q]
  exact Classical.choose_spec q
noncomputable def cyI (f h : Nat → Int) (n : Nat) : Nat := by
  classical
  exact if q : CyBack f h n (cyJ f h n) then Classical.choose q else 0
theorem cyI_is {f : Nat → Int} (hf : Vd f) {h : Nat → Int} {n : Nat} (hs : Sides h n) : cyI f h n < cyJ f h n ∧ sameB (cyB f h n (cyI f h n)) (cyB f h n (cyJ f h n)) = true := by
  have q := (cyJ_is hf hs).2.1
  unfold cyI
  rw [dif_pos q]
  exact Classical.choose_spec q
/-- Two boards before the first one that comes back are different. -/
theorem cy_apart {f : Nat → Int} (hf : Vd f) {h : Nat → Int} {n : Nat} (hs : Sides h n) {i j : Nat} (hij : i < j) (hj : j < cyJ f h n) : sameB (cyB f h n i) (cyB f h n j) = false := by
  cases e : sameB (cyB f h n i) (cyB f h n j) with
  | false => rfl
  | true => exact absurd ⟨i, hij, e⟩ ((cyJ_is hf hs).2.2 j hj)
/-- Only one of the boards before is the one that comes back. -/
theorem cy_only {f : Nat → Int} (hf : Vd f) {h : Nat → Int} {n : Nat} (hs : Sides h n) {i : Nat} (hi : i < cyJ f h n) (e : sameB (cyB f h n i) (cyB f h n (cyJ f h n)) = true) : i = cyI f h n := by
  obtain ⟨h1, h2⟩ := cyI_is hf hs
  have key : ∀ a b, a < b → b < cyJ f h n → sameB (cyB f h n a) (cyB f h n (cyJ f h n)) = true → sameB (cyB f h n b) (cyB f h n (cyJ f h n)) = true → False := fun a b hab hb ea eb => by
    have := cy_apart hf hs hab hb
    rw [sameB_iff.2 fun q hq => (sameB_iff.1 ea q hq).trans (sameB_iff.1 eb q hq).symm] at this
    cases this
  rcases Nat.lt_trichotomy i (cyI f h n) with q | q | q
  · exact (key _ _ q h1 e h2).elim
  · exact q
  · exact (key _ _ q hi h2 e).elim
/-- What SlideCycle returns. -/
def CyOk (f h : Nat → Int) (n : Nat) : Prop := Vd f ∧ (1 ≤ n ∧ n ≤ 4) ∧ Sides h n
instance (f h : Nat → Int) (n : Nat) : Decidable (CyOk f h n) := by unfold CyOk; infer_instance
noncomputable def cyA (f h : Nat → Int) (n : Nat) : Int := if CyOk f h n then (cyI f h n : Nat) else 0
noncomputable def cyL (f h : Nat → Int) (n : Nat) : Int := if CyOk f h n then ((cyJ f h n - cyI f h n : Nat) : Int) else 0
def cyO (f h : Nat → Int) (n : Nat) : Bool := decide (CyOk f h n)
theorem cy_yes {f h : Nat → Int} {n : Nat} (q : CyOk f h n) : cyA f h n = (cyI f h n : Nat) ∧ cyL f h n = ((cyJ f h n - cyI f h n : Nat) : Int) ∧ cyO f h n = true := by simp [cyA, cyL, cyO, q]
theorem cy_no {f h : Nat → Int} {n : Nat} (q : ¬ CyOk f h n) : cyA f h n = 0 ∧ cyL f h n = 0 ∧ cyO f h n = false := by simp [cyA, cyL, cyO, q]
end Go.Proofs.Ytknjmkapabjolaa.Plain
