/-
  Plain facts on what SumOf returns: the sum of the worths, told cell by cell and number by number. No program stands in this text.
-/
import Derived.Test.YtfikbbhlenopfaaCountPlain
namespace Go.Proofs.Ytfikbbhlenopfaa.Plain
def worthZ (t : Int) : Int := if 0 < t then worth t else 0
theorem worthZ_bd {t : Int} (h0 : 0 ≤ t) (h1 : t ≤ 17) : 0 ≤ worthZ t ∧ worthZ t ≤ 262144 := by
  have := worth_bd h0 (show t ≤ 18 by omega)
  unfold worthZ; split <;> omega
/-- The worths of the first k cells. -/
def sumF (f : Nat → Int) : Nat → Int
  | 0 => 0
  | k + 1 => sumF f k + worthZ (f k)
theorem sumF_bd {f : Nat → Int} (hf : Vd f) : ∀ k, k ≤ 16 → 0 ≤ sumF f k ∧ sumF f k ≤ k * 262144
  | 0, _ => by simp [sumF]
  | k + 1, h => by
    have h1 := sumF_bd hf k (by omega)
    have h2 := hf k (by omega)
    have h3 := worthZ_bd h2.1 h2.2
    unfold sumF; omega
/-- The worths of the numbers 1 .. T among the first k cells. -/
def sumT (f : Nat → Int) (k : Nat) : Nat → Int
  | 0 => 0
  | T + 1 => sumT f k T + cntF f k (T + 1) * worth ((T + 1 : Nat) : Int)
theorem sumT_zero (f : Nat → Int) : ∀ T, sumT f 0 T = 0
  | 0 => rfl
  | T + 1 => by unfold sumT; rw [sumT_zero f T]; simp [cntF]
theorem sumT_step (f : Nat → Int) (k : Nat) : ∀ T : Nat, sumT f (k + 1) T = sumT f k T + (if 1 ≤ f k ∧ f k ≤ (T : Int) then worth (f k) else 0)
  | 0 => by
    unfold sumT
    rw [if_neg (by omega)]; rfl
  | T + 1 => by
    show sumT f (k + 1) T + (cntF f k (T + 1) + (if f k = ((T + 1 : Nat) : Int) then 1 else 0)) * worth ((T + 1 : Nat) : Int) = sumT f k T + cntF f k (T + 1) * worth ((T + 1 : Nat) : Int) + _
    rw [sumT_step f k T, Int.add_mul]
    by_cases e : f k = ((T + 1 : Nat) : Int)
    · rw [if_pos e, if_neg (by omega), if_pos (by omega), e, Int.one_mul]; omega
    · rw [if_neg e, Int.zero_mul]
      by_cases h : 1 ≤ f k ∧ f k ≤ (T : Int)
      · rw [if_pos h, if_pos (by omega)]; omega
      · rw [if_neg h, if_neg (by omega)]; omega
theorem sumT_all {f : Nat → Int} (hf : Vd f) : ∀ k, k ≤ 16 → sumT f k 17 = sumF f k
  | 0, _ => sumT_zero f 17
  | k + 1, h => by
    have h2 := hf k (by omega)
    rw [sumT_step, sumT_all hf k (by omega)]
    show _ = sumF f k + worthZ (f k)
    unfold worthZ
    by_cases e : 0 < f k
    · rw [if_pos e, if_pos (by omega)]
    · rw [if_neg e, if_neg (by omega)]
theorem term_bd (f : Nat → Int) (k : Nat) (hk : k ≤ 16) (T : Nat) (hT : T ≤ 18) : 0 ≤ cntF f k T * worth (T : Int) ∧ cntF f k T * worth (T : Int) ≤ 4194304 := by
  have h1 := cntF_bd f k T
  have h2 := worth_bd (t := (T : Int)) (by omega) (by omega)
  refine ⟨Int.mul_nonneg h1.1 (by omega), ?_⟩
  have := Int.mul_le_mul (a := cntF f k T) (b := worth (T : Int)) (c := 16) (d := 262144) (by omega) h2.2 (by omega) (by omega)
  omega
theorem sumT_bd (f : Nat → Int) (k : Nat) (hk : k ≤ 16) : ∀ T, T ≤ 18 → 0 ≤ sumT f k T ∧ sumT f k T ≤ T * 4194304
  | 0, _ => by simp [sumT]
  | T + 1, h => by
    have h1 := sumT_bd f k hk T (by omega)
    have h2 := term_bd f k hk (T + 1) h
    unfold sumT; omega
def sumR (f : Nat → Int) : Int := if Vd f then sumF f 16 else 0
theorem sumR_yes {f : Nat → Int} (h : Vd f) : sumR f = sumF f 16 := by simp [sumR, h]
theorem sumR_no {f : Nat → Int} (h : ¬ Vd f) : sumR f = 0 := by simp [sumR, h]
end Go.Proofs.Ytfikbbhlenopfaa.Plain
