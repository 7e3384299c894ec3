/-
  Plain facts on empty cells and mergers. No program stands in this text.
-/
import Derived.Test.YtpiegllffkjneaaEmptyPlain
import Derived.Test.YtpiegllffkjneaaSlidePlain
namespace Go.Proofs.Ytpiegllffkjneaa.Plain
theorem empN_step (f : Nat → Int) (k : Nat) : empN f (k + 1) = empN f k + if f k = 0 then 1 else 0 := by
  show (if f k = 0 then empN f k + 1 else empN f k) = _
  split <;> simp
theorem slid_zero {f : Nat → Int} : ∀ k, ((slid f k).n : Int) + (slid f k).mg + empN f k = k
  | 0 => rfl
  | k + 1 => by
    have ih := slid_zero (f := f) k
    rw [empN_step]
    show ((slidStep (slid f k) (f k)).n : Int) + (slidStep (slid f k) (f k)).mg + _ = _
    unfold slidStep
    by_cases h : f k = 0
    · simp only [h, if_true]; omega
    · simp only [if_neg h]
      split
      · show ((slid f k).n : Int) + ((slid f k).mg + 1) + _ = _
        omega
      · show (((slid f k).n + 1 : Nat) : Int) + (slid f k).mg + _ = _
        omega
theorem row_zero {s : Slid} {m : Nat} (h : SlidOk s m) : ∀ k, (empN s.row k : Int) = if k ≤ s.n then 0 else (k : Int) - s.n
  | 0 => by simp [empN]
  | k + 1 => by
    have ih := row_zero h k
    rw [empN_step]
    by_cases hk : k < s.n
    · have := h.full k hk
      rw [if_pos (by omega)] at ih
      rw [if_neg this, if_pos (by omega)]
      omega
    · have := h.rest k (by omega)
      rw [if_pos this, if_neg (by omega)]
      split at ih <;> omega
theorem line_zero {f : Nat → Int} (hf : VdRow f) : (empN (slid f 4).row 4 : Int) = empN f 4 + (slid f 4).mg := by
  have h1 := slid_zero (f := f) 4
  have h2 := slid_ok hf 4 (Nat.le_refl _)
  have h3 := row_zero h2 4
  have h4 := h2.n_le
  split at h3 <;> omega
theorem emp_lines (g : Nat → Int) {d : Nat} (hd : d < 4) : empN g 16 = empN (lineF g d 0) 4 + empN (lineF g d 1) 4 + empN (lineF g d 2) 4 + empN (lineF g d 3) 4 := by
  rcases (by omega : d = 0 ∨ d = 1 ∨ d = 2 ∨ d = 3) with rfl | rfl | rfl | rfl <;>
  · simp only [empN_step, show ∀ f, empN f 0 = 0 from fun _ => rfl, lineF, pos]
    simp only [Nat.reduceEqDiff, if_true, if_false, Nat.reduceMul, Nat.reduceAdd, Nat.reduceSub, Nat.zero_add, Nat.zero_mul, Nat.add_zero]
    omega
theorem slideB_line (f : Nat → Int) (d : Nat) {i : Nat} (hi : i < 4) : empN (lineF (slideB f d) d i) 4 = empN (slid (lineF f d i) 4).row 4 :=
  empN_congr fun k hk => by
    show (slid (lineF f d (lineOf d (pos d i k))) 4).row (placeOf d (pos d i k)) = _
    rw [lineOf_pos hi hk, placeOf_pos hi hk]
/-- A slide makes as many mergers as cells get empty. -/
theorem emp_slide {f : Nat → Int} (hf : Vd f) {d : Nat} (hd : d < 4) : (empN (slideB f d) 16 : Int) = empN f 16 + slideM f d 4 := by
  rw [emp_lines _ hd, emp_lines f hd, slideB_line _ _ (by omega), slideB_line _ _ (by omega), slideB_line _ _ (by omega), slideB_line _ _ (by omega)]
  have a0 := line_zero (lineF_vd hf d (i := 0) (by omega))
  have a1 := line_zero (lineF_vd hf d (i := 1) (by omega))
  have a2 := line_zero (lineF_vd hf d (i := 2) (by omega))
  have a3 := line_zero (lineF_vd hf d (i := 3) (by omega))
  have e : slideM f d 4 = 0 + (slid (lineF f d 0) 4).mg + (slid (lineF f d 1) 4).mg + (slid (lineF f d 2) 4).mg + (slid (lineF f d 3) 4).mg := rfl
  rw [e]
  omega
end Go.Proofs.Ytpiegllffkjneaa.Plain
