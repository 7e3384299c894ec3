/-
  Plain facts on boards that are in order along snakes, and on a stable sort of the cells of a snake. No program stands in this text.
-/
import Derived.Test.YtmcmpedmgibmkabSnakePlain
namespace Go.Proofs.Ytmcmpedmgibmkab.Plain
/-- The place of the i-th cell of the snake k. -/
def plP (k i : Nat) : Nat := fcP (snC i) k
theorem plP_lt {k i : Nat} (hk : k < 8) (hi : i < 16) : plP k i < 16 := (fc_lt (snC_lt hi) hk).1
theorem sp_row (k i : Nat) : spF k (i * 2) = ((plP k i / 4 : Nat) : Int) := by
  unfold spF plP; rw [if_pos (by omega), show i * 2 / 2 = i by omega]
theorem sp_col (k i : Nat) : spF k (i * 2 + 1) = ((plP k i % 4 : Nat) : Int) := by
  unfold spF plP; rw [if_neg (by omega), show (i * 2 + 1) / 2 = i by omega]
/-- The first m + 1 numbers do not rise. -/
def ordG (h : Nat → Int) : Nat → Bool
  | 0 => true
  | m + 1 => ordG h m && decide (h (m + 1) ≤ h m)
theorem ordG_yes {h : Nat → Int} {m : Nat} (h1 : ordG h m = true) (h2 : h (m + 1) ≤ h m) : ordG h (m + 1) = true := by
  unfold ordG; rw [h1, decide_eq_true h2]; rfl
theorem ordG_no {h : Nat → Int} : ∀ {n m : Nat}, m < n → h m < h (m + 1) → ordG h n = false
  | 0, m, h1, _ => by omega
  | n + 1, m, h1, h2 => by
    unfold ordG
    by_cases e : m = n
    · subst e; rw [decide_eq_false (by omega), Bool.and_false]
    · rw [ordG_no (by omega) h2, Bool.false_and]
theorem ordG_at {h : Nat → Int} : ∀ {n : Nat}, ordG h n = true → ∀ m, m < n → h (m + 1) ≤ h m
  | 0, _, m, h1 => by omega
  | n + 1, h1, m, hm => by
    simp only [ordG, Bool.and_eq_true, decide_eq_true_eq] at h1
    by_cases e : m = n
    · subst e; exact h1.2
    · exact ordG_at h1.1 m (by omega)
/-- The board is in order along the snake k. -/
def ordF (f : Nat → Int) (k : Nat) : Bool := ordG (fun i => f (plP k i)) 15
/-- The numbers below k that are told. -/
def snG (Q : Nat → Bool) : Nat → List Int
  | 0 => []
  | k + 1 => if Q k = true then snG Q k ++ [(k : Int)] else snG Q k
theorem snG_yes {Q : Nat → Bool} {k : Nat} (h : Q k = true) : snG Q (k + 1) = snG Q k ++ [(k : Int)] := by rw [snG, if_pos h]
theorem snG_no {Q : Nat → Bool} {k : Nat} (h : Q k = false) : snG Q (k + 1) = snG Q k := by rw [snG, if_neg (by rw [h]; exact Bool.false_ne_true)]
theorem snG_le (Q : Nat → Bool) : ∀ k, (snG Q k).length ≤ k
  | 0 => by simp [snG]
  | k + 1 => by have := snG_le Q k; unfold snG; split <;> simp <;> omega
def snLR (f : Nat → Int) : List Int := if Vd f then snG (ordF f) 8 else []
theorem snLR_yes {f : Nat → Int} (h : Vd f) : snLR f = snG (ordF f) 8 := if_pos h
theorem snLR_no {f : Nat → Int} (h : ¬ Vd f) : snLR f = [] := if_neg h
theorem snLR_le (f : Nat → Int) : (snLR f).length ≤ 8 := by
  by_cases h : Vd f
  · rw [snLR_yes h]; exact snG_le _ 8
  · rw [snLR_no h]; simp
end Go.Proofs.Ytmcmpedmgibmkab.Plain
