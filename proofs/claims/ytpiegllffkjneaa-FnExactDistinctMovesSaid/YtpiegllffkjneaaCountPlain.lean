/-
  Plain facts on what CountTiles, SumOf and HighestTile return. No program stands in this text.
-/
import Derived.Test.YtpiegllffkjneaaBoardPlain
namespace Go.Proofs.Ytpiegllffkjneaa.Plain
def vdO (f : Nat → Int) : Bool := decide (Vd f)
theorem vdO_yes {f : Nat → Int} (h : Vd f) : vdO f = true := by simp [vdO, h]
theorem vdO_no {f : Nat → Int} (h : ¬ Vd f) : vdO f = false := by simp [vdO, h]
/-- How many of the first k cells have each number. -/
def cntF (f : Nat → Int) : Nat → Nat → Int
  | 0 => fun _ => 0
  | k + 1 => fun v => cntF f k v + (if f k = (v : Int) then 1 else 0)
theorem cntF_bd (f : Nat → Int) : ∀ k v, 0 ≤ cntF f k v ∧ cntF f k v ≤ k
  | 0, v => by simp [cntF]
  | k + 1, v => by have := cntF_bd f k v; unfold cntF; split <;> omega
theorem cntF_step (f : Nat → Int) (k v j : Nat) (h : f k = (v : Int)) : upd (cntF f k) v (cntF f k v + 1) j = cntF f (k + 1) j := by
  show _ = cntF f k j + (if f k = (j : Int) then 1 else 0)
  unfold upd
  by_cases e : j = v
  · subst e; rw [if_pos rfl, if_pos h]
  · rw [if_neg e, if_neg (by omega), Int.add_zero]
def cntR (f : Nat → Int) : Nat → Int := if Vd f then cntF f 16 else fun _ => 0
theorem cntR_yes {f : Nat → Int} (h : Vd f) : cntR f = cntF f 16 := by simp [cntR, h]
theorem cntR_no {f : Nat → Int} (h : ¬ Vd f) : cntR f = fun _ => 0 := by simp [cntR, h]
/-- The greatest of the first k cells and its place. -/
def hiF (f : Nat → Int) : Nat → Int × Nat
  | 0 => (0, 0)
  | k + 1 => if (hiF f k).1 < f k then (f k, k) else hiF f k
theorem hiF_bd {f : Nat → Int} (hf : Vd f) : ∀ k, k ≤ 16 → 0 ≤ (hiF f k).1 ∧ (hiF f k).1 ≤ 17
  | 0, _ => by simp [hiF]
  | k + 1, h => by
    have h1 := hiF_bd hf k (by omega)
    have h2 := hf k (by omega)
    by_cases e : (hiF f k).1 < f k
    · rw [hiF, if_pos e]; exact ⟨h2.1, h2.2⟩
    · rw [hiF, if_neg e]; exact h1
theorem hiF_yes {f : Nat → Int} {k : Nat} (h : (hiF f k).1 < f k) : hiF f (k + 1) = (f k, k) := by rw [hiF, if_pos h]
theorem hiF_no {f : Nat → Int} {k : Nat} (h : ¬ (hiF f k).1 < f k) : hiF f (k + 1) = hiF f k := by rw [hiF, if_neg h]
/-- A place's cell, two numbers. -/
def cellF (p : Nat) : Nat → Int := fun i => if i = 0 then ((p / 4 : Nat) : Int) else ((p % 4 : Nat) : Int)
def hiT (f : Nat → Int) : Int := if Vd f then (hiF f 16).1 else 0
def hiC (f : Nat → Int) : Nat → Int := if Vd f then cellF (hiF f 16).2 else fun _ => 0
def hiO (f : Nat → Int) : Bool := if Vd f then decide (0 < (hiF f 16).1) else false
theorem hi_yes {f : Nat → Int} (h : Vd f) : hiT f = (hiF f 16).1 ∧ hiC f = cellF (hiF f 16).2 ∧ hiO f = decide (0 < (hiF f 16).1) := by simp [hiT, hiC, hiO, h]
theorem hi_no {f : Nat → Int} (h : ¬ Vd f) : hiT f = 0 ∧ hiC f = (fun _ => 0) ∧ hiO f = false := by simp [hiT, hiC, hiO, h]
end Go.Proofs.Ytpiegllffkjneaa.Plain
