/-
  Plain facts on what EqualPairs returns. No program stands in this text.
-/
import Derived.Test.YtfikbbhlenopfaaCountPlain
namespace Go.Proofs.Ytfikbbhlenopfaa.Plain
/-- The pairs of a row up to the place k. -/
def prow (g : Nat → Int) : Nat → Int
  | 0 => 0
  | k + 1 => prow g k + (if g (k + 1) = g k ∧ 1 ≤ g (k + 1) ∧ g (k + 1) ≤ 16 then 1 else 0)
theorem prow_bd (g : Nat → Int) : ∀ k, 0 ≤ prow g k ∧ prow g k ≤ k
  | 0 => by simp [prow]
  | k + 1 => by have := prow_bd g k; unfold prow; split <;> omega
theorem prow_yes {g : Nat → Int} {k : Nat} (h : g (k + 1) = g k ∧ 1 ≤ g (k + 1) ∧ g (k + 1) ≤ 16) : prow g (k + 1) = prow g k + 1 := by rw [prow, if_pos h]
theorem prow_no {g : Nat → Int} {k : Nat} (h : ¬ (g (k + 1) = g k ∧ 1 ≤ g (k + 1) ∧ g (k + 1) ≤ 16)) : prow g (k + 1) = prow g k := by rw [prow, if_neg h, Int.add_zero]
theorem prow_congr {g h : Nat → Int} : ∀ k, (∀ i, i ≤ k → g i = h i) → prow g k = prow h k
  | 0, _ => rfl
  | k + 1, e => by
    show prow g k + _ = prow h k + _
    rw [prow_congr k (fun i hi => e i (by omega)), e k (by omega), e (k + 1) (by omega)]
/-- The pairs of the first r rows. -/
def prows (f : Nat → Int) : Nat → Int
  | 0 => 0
  | r + 1 => prows f r + prow (fun c => f (r * 4 + c)) 3
theorem prows_bd (f : Nat → Int) : ∀ r, 0 ≤ prows f r ∧ prows f r ≤ r * 3
  | 0 => by simp [prows]
  | r + 1 => by have := prows_bd f r; have := prow_bd (fun c => f (r * 4 + c)) 3; unfold prows; omega
/-- The pairs of the first i rows and columns. -/
def plines (f : Nat → Int) : Nat → Int
  | 0 => 0
  | i + 1 => plines f i + prow (lineF f 0 i) 3 + prow (lineF f 1 i) 3
theorem plines_bd (f : Nat → Int) : ∀ i, 0 ≤ plines f i ∧ plines f i ≤ i * 6
  | 0 => by simp [plines]
  | i + 1 => by have := plines_bd f i; have := prow_bd (lineF f 0 i) 3; have := prow_bd (lineF f 1 i) 3; unfold plines; omega
theorem plines_rows (f : Nat → Int) : ∀ i, i ≤ 4 → plines f i = prows f i + prows (fun j => f (j % 4 * 4 + j / 4)) i
  | 0, _ => rfl
  | i + 1, h => by
    show plines f i + prow (lineF f 0 i) 3 + prow (lineF f 1 i) 3 = (prows f i + prow (fun c => f (i * 4 + c)) 3) + (prows (fun j => f (j % 4 * 4 + j / 4)) i + prow (fun c => f ((i * 4 + c) % 4 * 4 + (i * 4 + c) / 4)) 3)
    have e1 : prow (lineF f 0 i) 3 = prow (fun c => f (i * 4 + c)) 3 := rfl
    have e2 : prow (lineF f 1 i) 3 = prow (fun c => f ((i * 4 + c) % 4 * 4 + (i * 4 + c) / 4)) 3 := prow_congr 3 fun c hc => by
      show f (c * 4 + i) = f ((i * 4 + c) % 4 * 4 + (i * 4 + c) / 4)
      congr 1; omega
    rw [e1, e2, plines_rows f i (by omega)]
    omega
def pairsR (f : Nat → Int) : Int := if Vd f then plines f 4 else 0
theorem pairsR_yes {f : Nat → Int} (h : Vd f) : pairsR f = plines f 4 := by simp [pairsR, h]
theorem pairsR_no {f : Nat → Int} (h : ¬ Vd f) : pairsR f = 0 := by simp [pairsR, h]
theorem vd_tr {f : Nat → Int} (h : Vd f) : Vd (fun j => f (j % 4 * 4 + j / 4)) := fun j hj => h _ (by omega)
end Go.Proofs.Ytfikbbhlenopfaa.Plain
