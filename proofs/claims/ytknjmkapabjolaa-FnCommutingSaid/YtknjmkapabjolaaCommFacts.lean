/-
  Plain facts on pairs of directions that commute: a pair does in either order, with itself, and goes with the forms of a board; and how many there are.
-/
import Derived.Test.YtknjmkapabjolaaCommPairs
import Derived.Test.YtknjmkapabjolaaPlainA
import Derived.Test.YtknjmkapabjolaaSlidesPlain
namespace Go.Proofs.Ytknjmkapabjolaa.Plain
open Go.Proofs.Ytknjmkapabjolaa
theorem same_symm (f g : Nat → Int) : sameB f g = sameB g f := by
  rw [Bool.eq_iff_iff, sameB_iff, sameB_iff]
  exact ⟨fun h j hj => (h j hj).symm, fun h j hj => (h j hj).symm⟩
theorem slideB_congr {f g : Nat → Int} (d : Nat) (h : ∀ j, j < 16 → f j = g j) : ∀ j, j < 16 → slideB f d j = slideB g d j := fun j hj => by
  unfold slideB
  have e : slid (lineF f d (lineOf d j)) 4 = slid (lineF g d (lineOf d j)) 4 := slid_congr 4 fun c hc => h _ (pos_lt (lineOf_lt hj) hc)
  rw [e]
theorem com_symm (f : Nat → Int) (d e : Nat) : comB f d e = comB f e d := same_symm _ _
theorem com_self (f : Nat → Int) (d : Nat) : comB f d d = true := sameB_iff.2 fun _ _ => rfl
theorem same_form (f g : Nat → Int) {k : Nat} (hk : k < 8) : sameB (formF f k) (formF g k) = sameB f g := by
  rw [Bool.eq_iff_iff, sameB_iff, sameB_iff]
  constructor
  · intro h j hj
    rw [← form_back f hk j hj, ← form_back g hk j hj]
    exact form_congr (backN k) h j hj
  · intro h; exact form_congr k h
theorem com_form (f : Nat → Int) {k d e : Nat} (hk : k < 8) (hd : d < 4) (he : e < 4) : comB (formF f k) (sideN k d) (sideN k e) = comB f d e := by
  have two : ∀ d e, d < 4 → e < 4 → ∀ j, j < 16 → slideB (slideB (formF f k) (sideN k d)) (sideN k e) j = formF (slideB (slideB f d) e) k j := fun d e hd he j hj => by
    rw [slideB_congr (sideN k e) (slide_form f hk hd) j hj]
    exact slide_form (slideB f d) hk he j hj
  have e1 : comB (formF f k) (sideN k d) (sideN k e) = sameB (formF (slideB (slideB f d) e) k) (formF (slideB (slideB f e) d) k) := by
    unfold comB
    rw [Bool.eq_iff_iff, sameB_iff, sameB_iff]
    constructor
    · intro h j hj; rw [← two d e hd he j hj, ← two e d he hd j hj]; exact h j hj
    · intro h j hj; rw [two d e hd he j hj, two e d he hd j hj]; exact h j hj
  rw [e1, same_form _ _ hk]; rfl
def bN (b : Bool) : Nat := if b = true then 1 else 0
theorem cpN_six (f : Nat → Int) : cpN f 16 = bN (comB f 0 1) + bN (comB f 0 2) + bN (comB f 0 3) + bN (comB f 1 2) + bN (comB f 1 3) + bN (comB f 2 3) := by
  have st : ∀ k, cpN f (k + 1) = cpN f k + bN (cpOk f k) := fun k => by
    unfold bN
    by_cases h : cpOk f k = true
    · rw [(cp_yes h).2, if_pos h]
    · rw [(cp_no (by simpa using h)).2, if_neg h]; rfl
  have no : ∀ k, ¬ (k / 4 < k % 4) → cpOk f k = false := fun k h => by unfold cpOk; rw [decide_eq_false h, Bool.false_and]
  have ok : ∀ k, k / 4 < k % 4 → cpOk f k = comB f (k / 4) (k % 4) := fun k h => by unfold cpOk; rw [decide_eq_true h, Bool.true_and]
  have z : cpN f 0 = 0 := rfl
  have bf : bN false = 0 := rfl
  rw [st 15, st 14, st 13, st 12, st 11, st 10, st 9, st 8, st 7, st 6, st 5, st 4, st 3, st 2, st 1, st 0, z]
  rw [no 0 (by decide), ok 1 (by decide), ok 2 (by decide), ok 3 (by decide), no 4 (by decide), no 5 (by decide), ok 6 (by decide), ok 7 (by decide), no 8 (by decide), no 9 (by decide), no 10 (by decide), ok 11 (by decide), no 12 (by decide), no 13 (by decide), no 14 (by decide), no 15 (by decide), bf]
  show _ = bN (comB f 0 1) + bN (comB f 0 2) + bN (comB f 0 3) + bN (comB f 1 2) + bN (comB f 1 3) + bN (comB f 2 3)
  have e1 : (1 / 4 : Nat) = 0 ∧ (1 % 4 : Nat) = 1 := by decide
  simp only [Nat.zero_add, Nat.add_zero]
theorem cpN_six_le (f : Nat → Int) : cpN f 16 ≤ 6 := by
  have h : ∀ b, bN b ≤ 1 := fun b => by unfold bN; split <;> omega
  rw [cpN_six]
  have h1 := h (comB f 0 1); have h2 := h (comB f 0 2); have h3 := h (comB f 0 3); have h4 := h (comB f 1 2); have h5 := h (comB f 1 3); have h6 := h (comB f 2 3)
  omega
theorem cpN_form5 (f : Nat → Int) : cpN (formF f 5) 16 = cpN f 16 := by
  have t : ∀ d e, d < 4 → e < 4 → comB (formF f 5) (sideN 5 d) (sideN 5 e) = comB f d e := fun d e hd he => com_form f (by omega) hd he
  have s0 : sideN 5 0 = 1 := by decide
  have s1 : sideN 5 1 = 0 := by decide
  have s2 : sideN 5 2 = 3 := by decide
  have s3 : sideN 5 3 = 2 := by decide
  have a := t 0 1 (by omega) (by omega)
  have b := t 0 2 (by omega) (by omega)
  have c := t 0 3 (by omega) (by omega)
  have d := t 1 2 (by omega) (by omega)
  have e := t 1 3 (by omega) (by omega)
  have g := t 2 3 (by omega) (by omega)
  rw [s0, s1] at a
  rw [s0, s2] at b
  rw [s0, s3] at c
  rw [s1, s2] at d
  rw [s1, s3] at e
  rw [s2, s3] at g
  rw [cpN_six, cpN_six, ← a, ← b, ← c, ← d, ← e, ← g, com_symm (formF f 5) 1 0, com_symm (formF f 5) 3 2]
  omega
theorem cpRN_form5 {f : Nat → Int} (h : Vd f) : cpRN (formF f 5) = cpRN f := by rw [(cpR_yes h).2, (cpR_yes (form_vd h 5)).2, cpN_form5]
theorem cpRN_six (f : Nat → Int) : cpRN f ≤ 6 := by unfold cpRN; split; exact cpN_six_le f; omega
/-- Each pair that is told is one of two directions in order, and commutes. -/
theorem cp_in (f : Nat → Int) : ∀ (k i : Nat), k ≤ 16 → i < cpN f k → ∃ d e : Nat, d < e ∧ e < 4 ∧ comB f d e = true ∧ (cpL f k).getD (i * 2) 0 = (d : Int) ∧ (cpL f k).getD (i * 2 + 1) 0 = (e : Int)
  | 0, i, _, h => by simp [cpN] at h
  | k + 1, i, hk, h => by
    have hl := cp_len f k
    by_cases h0 : cpOk f k = true
    · obtain ⟨y1, y2⟩ := cp_yes h0
      rw [y2] at h
      have q : k / 4 < k % 4 ∧ comB f (k / 4) (k % 4) = true := by simpa [cpOk] using h0
      by_cases hi : i < cpN f k
      · obtain ⟨d, e, h1, h2, h3, h4, h5⟩ := cp_in f k i (by omega) hi
        refine ⟨d, e, h1, h2, h3, ?_, ?_⟩
        · rw [y1, List.getD_eq_getElem?_getD, List.getElem?_append_left (by omega), ← List.getD_eq_getElem?_getD]; exact h4
        · rw [y1, List.getD_eq_getElem?_getD, List.getElem?_append_left (by omega), ← List.getD_eq_getElem?_getD]; exact h5
      · obtain rfl : i = cpN f k := by omega
        refine ⟨k / 4, k % 4, q.1, by omega, q.2, ?_, ?_⟩
        · rw [y1, List.getD_eq_getElem?_getD, List.getElem?_append_right (by omega), hl, Nat.sub_self]; rfl
        · rw [y1, List.getD_eq_getElem?_getD, List.getElem?_append_right (by omega), hl, show cpN f k * 2 + 1 - cpN f k * 2 = 1 by omega]; rfl
    · obtain ⟨y1, y2⟩ := cp_no (by simpa using h0 : cpOk f k = false)
      rw [y2] at h
      rw [y1]
      exact cp_in f k i (by omega) h
theorem cpR_in {f : Nat → Int} (hV : Vd f) {i : Nat} (h : i < cpRN f) : ∃ d e : Nat, d < e ∧ e < 4 ∧ comB f d e = true ∧ (cpRL f).getD (i * 2) 0 = (d : Int) ∧ (cpRL f).getD (i * 2 + 1) 0 = (e : Int) := by
  rw [(cpR_yes hV).2] at h
  rw [(cpR_yes hV).1]
  exact cp_in f 16 i (Nat.le_refl _) h
/-- Both orders of two slides, as DoSlides makes them. -/
theorem ds_com {f : Nat → Int} {d e : Int} {h g : Nat → Int} (ho : comO f d e = true) (h0 : h 0 = d) (h1 : h 1 = e) (g0 : g 0 = e) (g1 : g 1 = d) :
    dsO f h 2 = true ∧ dsO f g 2 = true ∧ sameB (dsB f h 2) (dsB f g 2) = comR f d e ∧ comR f e d = comR f d e ∧ comO f e d = true ∧ (d = e → comR f d e = true) := by
  have q := of_decide_eq_true ho
  obtain ⟨hV, hd, he⟩ := q
  have ok1 : DsOk f h 2 := ⟨hV, fun j hj => by rcases (by omega : j = 0 ∨ j = 1) with rfl | rfl; rw [h0]; exact hd; rw [h1]; exact he⟩
  have ok2 : DsOk f g 2 := ⟨hV, fun j hj => by rcases (by omega : j = 0 ∨ j = 1) with rfl | rfl; rw [g0]; exact he; rw [g1]; exact hd⟩
  have c1 : comR f d e = comB f d.toNat e.toNat := by unfold comR; rw [if_pos ⟨hV, hd, he⟩]
  have c2 : comR f e d = comB f e.toNat d.toNat := by unfold comR; rw [if_pos ⟨hV, he, hd⟩]
  refine ⟨(ds_yes ok1).2.2, (ds_yes ok2).2.2, ?_, ?_, decide_eq_true ⟨hV, he, hd⟩, ?_⟩
  · rw [(ds_yes ok1).1, (ds_yes ok2).1, c1]
    show sameB (slideB (slideB f (h 0).toNat) (h 1).toNat) (slideB (slideB f (g 0).toNat) (g 1).toNat) = _
    rw [h0, h1, g0, g1]; rfl
  · rw [c1, c2, com_symm]
  · rintro rfl; rw [c1, com_self]
end Go.Proofs.Ytknjmkapabjolaa.Plain
