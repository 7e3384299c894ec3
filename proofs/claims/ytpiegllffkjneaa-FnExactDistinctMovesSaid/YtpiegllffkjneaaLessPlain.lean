/-
  Plain facts on the order of boards. No program stands in this text.
-/
import Derived.Test.YtpiegllffkjneaaEqPlain
namespace Go.Proofs.Ytpiegllffkjneaa.Plain
/-- n numbers come before others: at the first place at which they differ. -/
def lessN (n : Nat) (f g : Nat → Int) : Prop := ∃ j, j < n ∧ (∀ i, i < j → f i = g i) ∧ f j < g j
theorem lessN_at {n j : Nat} {f g : Nat → Int} (hj : j < n) (h : ∀ i, i < j → f i = g i) (hd : f j ≠ g j) : lessN n f g ↔ f j < g j := by
  constructor
  · rintro ⟨k, hk, h2, h3⟩
    rcases Nat.lt_trichotomy k j with l | l | l
    · have := h k l; omega
    · subst l; exact h3
    · exact absurd (h2 j l) hd
  · intro l; exact ⟨j, hj, h, l⟩
theorem lessN_none {n : Nat} {f g : Nat → Int} (h : ∀ i, i < n → f i = g i) : ¬ lessN n f g := by
  rintro ⟨k, hk, _, h3⟩
  have := h k hk; omega
noncomputable instance (n : Nat) (f g : Nat → Int) : Decidable (lessN n f g) := Classical.propDecidable _
noncomputable def lessB (f g : Nat → Int) : Bool := decide (lessN 16 f g)
theorem lessB_at {j : Nat} {f g : Nat → Int} (hj : j < 16) (h : ∀ i, i < j → f i = g i) (hd : f j ≠ g j) : lessB f g = decide (f j < g j) := by
  unfold lessB
  rw [Bool.eq_iff_iff, decide_eq_true_iff, decide_eq_true_iff, lessN_at hj h hd]
theorem lessB_none {f g : Nat → Int} (h : ∀ i, i < 16 → f i = g i) : lessB f g = false := by
  unfold lessB
  rw [decide_eq_false_iff_not]; exact lessN_none h
/-- What LessBoard returns. -/
noncomputable def lessR (f g : Nat → Int) : Bool := if Vd f ∧ Vd g then lessB f g else false
def lessO (f g : Nat → Int) : Bool := decide (Vd f ∧ Vd g)
theorem less_yes {f g : Nat → Int} (h : Vd f) (k : Vd g) : lessR f g = lessB f g ∧ lessO f g = true := by
  simp [lessR, lessO, h, k]
theorem less_no1 {f g : Nat → Int} (h : ¬ Vd f) : lessR f g = false ∧ lessO f g = false := by
  simp [lessR, lessO, h]
theorem less_no2 {f g : Nat → Int} (h : ¬ Vd g) : lessR f g = false ∧ lessO f g = false := by
  simp [lessR, lessO, h]
/-- The first place at which two rows differ. -/
theorem row_first {f g : Nat → Int} (h : sameR f g = false) : ∃ c, c < 4 ∧ (∀ i, i < c → f i = g i) ∧ f c ≠ g c := by
  have hn : ¬ ∀ c, c < 4 → f c = g c := fun k => by rw [sameR_iff.2 k] at h; cases h
  by_cases h0 : f 0 = g 0
  · by_cases h1 : f 1 = g 1
    · by_cases h2 : f 2 = g 2
      · by_cases h3 : f 3 = g 3
        · exact absurd (fun c hc => by rcases (by omega : c = 0 ∨ c = 1 ∨ c = 2 ∨ c = 3) with rfl | rfl | rfl | rfl <;> assumption) hn
        · exact ⟨3, by omega, fun i hi => by rcases (by omega : i = 0 ∨ i = 1 ∨ i = 2) with rfl | rfl | rfl <;> assumption, h3⟩
      · exact ⟨2, by omega, fun i hi => by rcases (by omega : i = 0 ∨ i = 1) with rfl | rfl <;> assumption, h2⟩
    · exact ⟨1, by omega, fun i hi => by obtain rfl : i = 0 := by omega
                                         exact h0, h1⟩
  · exact ⟨0, by omega, fun i hi => by omega, h0⟩
end Go.Proofs.Ytpiegllffkjneaa.Plain
