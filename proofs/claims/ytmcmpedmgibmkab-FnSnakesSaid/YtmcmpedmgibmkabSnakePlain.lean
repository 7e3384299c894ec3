/-
  Plain facts on snakes: the first one and its forms, told as the reference makes them and as the program does. No program stands in this text.
-/
import Derived.Test.YtmcmpedmgibmkabPlainA
namespace Go.Proofs.Ytmcmpedmgibmkab.Plain
/-- The place of the i-th cell of the first snake. -/
def snC (i : Nat) : Nat := i / 4 * 4 + (if i / 4 % 2 = 1 then 3 - i % 4 else i % 4)
/-- The board with the places of the first snake, up to the m-th one. -/
def mkF : Nat → Nat → Int
  | 0 => fun _ => 0
  | m + 1 => upd (mkF m) (snC m) (m : Int)
/-- Two numbers are laid at a place. -/
def lay2 (f : Nat → Int) (o : Nat) (x y : Int) : Nat → Int := fun j => if j = o then x else if j = o + 1 then y else f j
/-- The cells of a snake, as the reference lays them, up to the m-th cell of the board. -/
def snF (k : Nat) : Nat → Nat → Int
  | 0 => fun _ => 0
  | m + 1 => lay2 (snF k m) ((formF (mkF 16) k m).toNat * 2) ((m / 4 : Nat) : Int) ((m % 4 : Nat) : Int)
/-- The place to which the form k moves what is at the place p. -/
def fcP (p k : Nat) : Nat := (hiF (formF (upd (fun _ => 0) p 1) k) 16).2
/-- The cells of a snake. -/
def spF (k : Nat) : Nat → Int := fun j => if j % 2 = 0 then ((fcP (snC (j / 2)) k / 4 : Nat) : Int) else ((fcP (snC (j / 2)) k % 4 : Nat) : Int)
/-- The cells of the first snake. -/
def svF : Nat → Int := fun j => if j % 2 = 0 then ((snC (j / 2) / 4 : Nat) : Int) else ((snC (j / 2) % 4 : Nat) : Int)
def okS (k : Nat) : Bool := (List.range 32).all fun j => snF k 16 j == spF k j
def okM (k : Nat) : Bool := (List.range 16).all fun j => decide (0 ≤ formF (mkF 16) k j) && decide (formF (mkF 16) k j < 16)
def okP (k : Nat) : Bool := (List.range 16).all fun p => decide (fcP p k < 16) && decide ((hiF (formF (upd (fun _ => 0) p 1) k) 16).1 = 1)
theorem okS_all : (List.range 8).all okS = true := by decide +kernel
theorem okM_all : (List.range 8).all okM = true := by decide +kernel
theorem okP_all : (List.range 8).all okP = true := by decide +kernel
theorem all_at {n : Nat} {P : Nat → Bool} (h : (List.range n).all P = true) {i : Nat} (hi : i < n) : P i = true := List.all_eq_true.1 h i (List.mem_range.2 hi)
theorem sn_path {k j : Nat} (hk : k < 8) (hj : j < 32) : snF k 16 j = spF k j := by
  have := all_at (P := fun j => snF k 16 j == spF k j) (all_at okS_all hk) hj
  simpa using this
theorem sn_mark {k j : Nat} (hk : k < 8) (hj : j < 16) : 0 ≤ formF (mkF 16) k j ∧ formF (mkF 16) k j < 16 := by
  have := all_at (P := fun j => decide (0 ≤ formF (mkF 16) k j) && decide (formF (mkF 16) k j < 16)) (all_at okM_all hk) hj
  simpa using this
theorem fc_lt {p k : Nat} (hp : p < 16) (hk : k < 8) : fcP p k < 16 ∧ (hiF (formF (upd (fun _ => 0) p 1) k) 16).1 = 1 := by
  have := all_at (P := fun p => decide (fcP p k < 16) && decide ((hiF (formF (upd (fun _ => 0) p 1) k) 16).1 = 1)) (all_at okP_all hk) hp
  simpa using this
theorem snC_lt {i : Nat} (hi : i < 16) : snC i < 16 := by unfold snC; split <;> omega
/-- What SnakePath returns. -/
def snO (k : Int) : Bool := decide (0 ≤ k ∧ k ≤ 7)
def snR (k : Int) : Nat → Int := if 0 ≤ k ∧ k ≤ 7 then spF k.toNat else fun _ => 0
theorem sn_yes {k : Int} (h : 0 ≤ k ∧ k ≤ 7) : snO k = true ∧ snR k = spF k.toNat := by simp [snO, snR, h]
theorem sn_no {k : Int} (h : ¬ (0 ≤ k ∧ k ≤ 7)) : snO k = false ∧ snR k = fun _ => 0 := by
  unfold snO snR
  exact ⟨decide_eq_false h, if_neg h⟩
/-- Four cells of a path are turned round, from the outside in. -/
def rvF (f : Nat → Int) (o : Nat) : Nat → Nat → Int
  | 0 => f
  | t + 1 => lay2 (lay2 (rvF f o t) (o + t * 2) (rvF f o t (o + (3 - t) * 2)) (rvF f o t (o + (3 - t) * 2 + 1))) (o + (3 - t) * 2) (rvF f o t (o + t * 2)) (rvF f o t (o + t * 2 + 1))
end Go.Proofs.Ytmcmpedmgibmkab.Plain
