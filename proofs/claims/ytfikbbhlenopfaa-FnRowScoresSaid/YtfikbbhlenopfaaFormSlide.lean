/-
  Plain facts: forms of a board have the same sum and pairs, and slides go with them. No program stands in this text.
-/
import Derived.Test.YtfikbbhlenopfaaFormPlain
import Derived.Test.YtfikbbhlenopfaaSumPlain
import Derived.Test.YtfikbbhlenopfaaPairsPlain
namespace Go.Proofs.Ytfikbbhlenopfaa.Plain
theorem eight_cases {k : Nat} (h : k < 8) : k = 0 ∨ k = 1 ∨ k = 2 ∨ k = 3 ∨ k = 4 ∨ k = 5 ∨ k = 6 ∨ k = 7 := by omega
theorem sum_form (f : Nat → Int) {k : Nat} (hk : k < 8) : sumF (formF f k) 16 = sumF f 16 := by
  rcases eight_cases hk with rfl | rfl | rfl | rfl | rfl | rfl | rfl | rfl <;> (simp [sumF, formF, plc] <;> omega)
/-- A pair of neighbors. -/
def pr (a b : Int) : Int := if b = a ∧ 1 ≤ b ∧ b ≤ 16 then 1 else 0
theorem pr_comm (a b : Int) : pr a b = pr b a := by
  unfold pr
  by_cases h : b = a
  · subst h; rfl
  · rw [if_neg (fun e => h e.1), if_neg (fun e => h e.1.symm)]
theorem prow_three (g : Nat → Int) : prow g 3 = pr (g 0) (g 1) + pr (g 1) (g 2) + pr (g 2) (g 3) := by
  unfold pr
  simp only [prow, Nat.zero_add, Nat.reduceAdd]
  omega
theorem plines_four (f : Nat → Int) : plines f 4 = pr (f 0) (f 1) + pr (f 1) (f 2) + pr (f 2) (f 3) + pr (f 4) (f 5) + pr (f 5) (f 6) + pr (f 6) (f 7) + pr (f 8) (f 9) + pr (f 9) (f 10) + pr (f 10) (f 11) + pr (f 12) (f 13) + pr (f 13) (f 14) + pr (f 14) (f 15) + pr (f 0) (f 4) + pr (f 4) (f 8) + pr (f 8) (f 12) + pr (f 1) (f 5) + pr (f 5) (f 9) + pr (f 9) (f 13) + pr (f 2) (f 6) + pr (f 6) (f 10) + pr (f 10) (f 14) + pr (f 3) (f 7) + pr (f 7) (f 11) + pr (f 11) (f 15) := by
  simp only [plines, prow_three, lineF, pos]
  simp
  omega
theorem pairs_form (f : Nat → Int) {k : Nat} (hk : k < 8) : plines (formF f k) 4 = plines f 4 := by
  rw [plines_four, plines_four]
  have c0 := pr_comm (f 0) (f 1)
  have c1 := pr_comm (f 0) (f 4)
  have c2 := pr_comm (f 1) (f 2)
  have c3 := pr_comm (f 1) (f 5)
  have c4 := pr_comm (f 2) (f 3)
  have c5 := pr_comm (f 2) (f 6)
  have c6 := pr_comm (f 3) (f 7)
  have c7 := pr_comm (f 4) (f 5)
  have c8 := pr_comm (f 4) (f 8)
  have c9 := pr_comm (f 5) (f 6)
  have c10 := pr_comm (f 5) (f 9)
  have c11 := pr_comm (f 6) (f 7)
  have c12 := pr_comm (f 6) (f 10)
  have c13 := pr_comm (f 7) (f 11)
  have c14 := pr_comm (f 8) (f 9)
  have c15 := pr_comm (f 8) (f 12)
  have c16 := pr_comm (f 9) (f 10)
  have c17 := pr_comm (f 9) (f 13)
  have c18 := pr_comm (f 10) (f 11)
  have c19 := pr_comm (f 10) (f 14)
  have c20 := pr_comm (f 11) (f 15)
  have c21 := pr_comm (f 12) (f 13)
  have c22 := pr_comm (f 13) (f 14)
  have c23 := pr_comm (f 14) (f 15)
  rcases eight_cases hk with rfl | rfl | rfl | rfl | rfl | rfl | rfl | rfl <;> (simp only [formF, plc] <;> simp <;> omega)
set_option maxRecDepth 100000 in
theorem place_form : ∀ k, k < 8 → ∀ d, d < 4 → ∀ j, j < 16 → placeOf (sideN k d) j = placeOf d (plc k j) := by decide
set_option maxRecDepth 100000 in
theorem line_form : ∀ k, k < 8 → ∀ d, d < 4 → ∀ j, j < 16 → ∀ c, c < 4 → plc k (pos (sideN k d) (lineOf (sideN k d) j) c) = pos d (lineOf d (plc k j)) c := by decide
theorem slide_form (f : Nat → Int) {k d : Nat} (hk : k < 8) (hd : d < 4) : ∀ j, j < 16 → slideB (formF f k) (sideN k d) j = formF (slideB f d) k j := by
  intro j hj
  show (slid (lineF (formF f k) (sideN k d) (lineOf (sideN k d) j)) 4).row (placeOf (sideN k d) j) = (slid (lineF f d (lineOf d (plc k j))) 4).row (placeOf d (plc k j))
  rw [place_form k hk d hd j hj]
  have : slid (lineF (formF f k) (sideN k d) (lineOf (sideN k d) j)) 4 = slid (lineF f d (lineOf d (plc k j))) 4 := slid_congr 4 fun c hc => by
    show f (plc k (pos (sideN k d) (lineOf (sideN k d) j) c)) = f (pos d (lineOf d (plc k j)) c)
    rw [line_form k hk d hd j hj c hc]
  rw [this]
/-- Which line of the board a line of its form is. -/
def liN (k d i : Nat) : Nat := lineOf d (plc k (pos (sideN k d) i 0))
theorem liN_two : ∀ k, k < 8 → ∀ d, d < 4 → (liN k d 0 = 0 ∧ liN k d 1 = 1 ∧ liN k d 2 = 2 ∧ liN k d 3 = 3) ∨ (liN k d 0 = 3 ∧ liN k d 1 = 2 ∧ liN k d 2 = 1 ∧ liN k d 3 = 0) := by decide
theorem liN_slid (f : Nat → Int) {k d : Nat} (hk : k < 8) (hd : d < 4) (i : Nat) (hi : i < 4) : slid (lineF (formF f k) (sideN k d) i) 4 = slid (lineF f d (liN k d i)) 4 := slid_congr 4 fun c hc => by
  show f (plc k (pos (sideN k d) i c)) = f (pos d (liN k d i) c)
  have h := line_form k hk d hd (pos (sideN k d) i 0) (pos_lt hi (by omega)) c hc
  rw [lineOf_pos hi (by omega)] at h
  rw [h]; rfl
theorem score_form (f : Nat → Int) {k d : Nat} (hk : k < 8) (hd : d < 4) : slideS (formF f k) (sideN k d) 4 = slideS f d 4 := by
  simp only [slideS, liN_slid f hk hd 0 (by omega), liN_slid f hk hd 1 (by omega), liN_slid f hk hd 2 (by omega), liN_slid f hk hd 3 (by omega)]
  rcases liN_two k hk d hd with ⟨h0, h1, h2, h3⟩ | ⟨h0, h1, h2, h3⟩ <;> (rw [h0, h1, h2, h3] <;> omega)
theorem sumR_form {f : Nat → Int} (h : Vd f) {k : Nat} (hk : k < 8) : sumR (formF f k) = sumR f := by rw [sumR_yes h, sumR_yes (form_vd h k), sum_form f hk]
theorem pairsR_form {f : Nat → Int} (h : Vd f) {k : Nat} (hk : k < 8) : pairsR (formF f k) = pairsR f := by rw [pairsR_yes h, pairsR_yes (form_vd h k), pairs_form f hk]
end Go.Proofs.Ytfikbbhlenopfaa.Plain
