/-
  Plain facts on the forms of boards: where each form takes a cell from, how forms follow one another, and the first form. No program stands in this text.
-/
import Derived.Test.YtpiegllffkjneaaLessPlain
namespace Go.Proofs.Ytpiegllffkjneaa.Plain
/-- The place from which the form k takes what it has at place j. -/
def plc (k j : Nat) : Nat :=
  if k = 0 then j else if k = 1 then (3 - j % 4) * 4 + j / 4 else if k = 2 then (3 - j / 4) * 4 + (3 - j % 4) else if k = 3 then j % 4 * 4 + (3 - j / 4)
  else if k = 4 then j / 4 * 4 + (3 - j % 4) else if k = 5 then j % 4 * 4 + j / 4 else if k = 6 then (3 - j / 4) * 4 + j % 4 else (3 - j % 4) * 4 + (3 - j / 4)
theorem plc_lt (k : Nat) {j : Nat} (hj : j < 16) : plc k j < 16 := by
  unfold plc; repeat' split
  all_goals omega
/-- The form k of a board. -/
def formF (f : Nat → Int) (k : Nat) : Nat → Int := fun j => f (plc k j)
theorem form_zero (f : Nat → Int) : formF f 0 = f := rfl
theorem form_vd {f : Nat → Int} (h : Vd f) (k : Nat) : Vd (formF f k) := fun _ hj => h _ (plc_lt k hj)
theorem form_congr {f g : Nat → Int} (k : Nat) (h : ∀ j, j < 16 → f j = g j) : ∀ j, j < 16 → formF f k j = formF g k j := fun _ hj => h _ (plc_lt k hj)
/-- The number of the form that is the form m of the form k. -/
def behN (k m : Nat) : Nat := ((if k < 4 then k + m % 4 else k + (4 - m % 4)) % 4) + (if (k < 4) = (m < 4) then 0 else 4)
def backN (k : Nat) : Nat := if k < 4 then (4 - k) % 4 else k
theorem beh_lt : ∀ k, k < 8 → ∀ m, m < 8 → behN k m < 8 := by decide
theorem back_lt : ∀ k, k < 8 → backN k < 8 := by decide
set_option maxRecDepth 100000 in
theorem plc_beh : ∀ k, k < 8 → ∀ m, m < 8 → ∀ j, j < 16 → plc k (plc m j) = plc (behN k m) j := by decide
theorem form_beh (f : Nat → Int) {k m : Nat} (hk : k < 8) (hm : m < 8) : ∀ j, j < 16 → formF (formF f k) m j = formF f (behN k m) j := by
  intro j hj
  show f (plc k (plc m j)) = f (plc (behN k m) j)
  rw [plc_beh k hk m hm j hj]
theorem beh_back : ∀ k, k < 8 → behN k (backN k) = 0 ∧ behN (backN k) k = 0 := by decide
theorem form_back (f : Nat → Int) {k : Nat} (hk : k < 8) : ∀ j, j < 16 → formF (formF f k) (backN k) j = f j := by
  intro j hj
  rw [form_beh f hk (back_lt k hk) j hj, (beh_back k hk).1]; rfl
/-- A board turned clockwise by a quarter n times. -/
def qrt (f : Nat → Int) (n : Nat) : Nat → Int := formF f (n % 4)
theorem qrt_step (f : Nat → Int) (n : Nat) (hn : n < 4) : ∀ j, j < 16 → qrt f n ((3 - j % 4) * 4 + j / 4) = qrt f (n + 1) j := by
  intro j hj
  have h := form_beh f (k := n % 4) (m := 1) (by omega) (by omega) j hj
  have e : behN (n % 4) 1 = (n + 1) % 4 := by
    rcases (by omega : n = 0 ∨ n = 1 ∨ n = 2 ∨ n = 3) with rfl | rfl | rfl | rfl <;> rfl
  rw [e] at h
  exact h
theorem qrt_mirror (f : Nat → Int) {k : Nat} (h0 : 4 ≤ k) (h1 : k < 8) : ∀ j, j < 16 → formF f (k % 4) (j / 4 * 4 + (3 - j % 4)) = formF f k j := by
  intro j hj
  have h := form_beh f (k := k % 4) (m := 4) (by omega) (by omega) j hj
  have e : behN (k % 4) 4 = k := by
    rcases (by omega : k = 4 ∨ k = 5 ∨ k = 6 ∨ k = 7) with rfl | rfl | rfl | rfl <;> rfl
  rw [e] at h
  exact h
/-- What FormBoard returns. -/
def FormOk (f : Nat → Int) (k : Int) : Prop := Vd f ∧ 0 ≤ k ∧ k ≤ 7
instance (f : Nat → Int) (k : Int) : Decidable (FormOk f k) := by unfold FormOk; infer_instance
def formR (f : Nat → Int) (k : Int) : Nat → Int := if FormOk f k then formF f k.toNat else fun _ => 0
def formO (f : Nat → Int) (k : Int) : Bool := decide (FormOk f k)
theorem form_yes {f : Nat → Int} {k : Int} (h : FormOk f k) : formR f k = formF f k.toNat ∧ formO f k = true := by simp [formR, formO, h]
theorem form_no {f : Nat → Int} {k : Int} (h : ¬ FormOk f k) : formR f k = (fun _ => 0) ∧ formO f k = false := by simp [formR, formO, h]
/-- What FormBehind, FormBack and FormSide return. -/
def behR (k m : Int) : Int := if (0 ≤ k ∧ k ≤ 7) ∧ 0 ≤ m ∧ m ≤ 7 then (behN k.toNat m.toNat : Nat) else 0
def behO (k m : Int) : Bool := decide ((0 ≤ k ∧ k ≤ 7) ∧ 0 ≤ m ∧ m ≤ 7)
def backR (k : Int) : Int := if 0 ≤ k ∧ k ≤ 7 then (backN k.toNat : Nat) else 0
def backO (k : Int) : Bool := decide (0 ≤ k ∧ k ≤ 7)
def sideN (k d : Nat) : Nat := if 4 ≤ k ∧ (d + k) % 2 = 0 then 2 - (d + k) % 4 else (d + k) % 4
def sideR (k d : Int) : Int := if (0 ≤ k ∧ k ≤ 7) ∧ 0 ≤ d ∧ d ≤ 3 then (sideN k.toNat d.toNat : Nat) else 0
def sideO (k d : Int) : Bool := decide ((0 ≤ k ∧ k ≤ 7) ∧ 0 ≤ d ∧ d ≤ 3)
theorem side_lt : ∀ k, k < 8 → ∀ d, d < 4 → sideN k d < 4 := by decide
/-- The least number, among the first n forms, of one before which none of them comes. -/
noncomputable def fstN (f : Nat → Int) : Nat → Nat
  | 0 => 0
  | n + 1 => if lessB (formF f n) (formF f (fstN f n)) = true then n else fstN f n
theorem fst_yes {f : Nat → Int} {n : Nat} (h : lessB (formF f n) (formF f (fstN f n)) = true) : fstN f (n + 1) = n := by simp [fstN, h]
theorem fst_not {f : Nat → Int} {n : Nat} (h : lessB (formF f n) (formF f (fstN f n)) = false) : fstN f (n + 1) = fstN f n := by simp [fstN, h]
theorem fst_one (f : Nat → Int) : fstN f 1 = 0 := by
  refine (fst_not (f := f) (n := 0) ?_).trans rfl
  exact lessB_none fun _ _ => rfl
theorem fst_lt (f : Nat → Int) : ∀ n, 0 < n → fstN f n < n
  | n + 1, _ => by
    unfold fstN
    split
    · omega
    · cases n with
      | zero => exact Nat.lt_succ_self _
      | succ n => have := fst_lt f (n + 1) (by omega); omega
/-- The first form, and its number. -/
noncomputable def fstF (f : Nat → Int) : Nat → Int := formF f (fstN f 8)
/-- The numbers of the forms that are the board itself, among the first n. -/
def isSym (f : Nat → Int) (k : Nat) : Bool := sameB (formF f k) f
def symL (f : Nat → Int) : Nat → List Int
  | 0 => []
  | k + 1 => if isSym f k = true then symL f k ++ [(k : Int)] else symL f k
theorem sym_yes {f : Nat → Int} {k : Nat} (h : isSym f k = true) : symL f (k + 1) = symL f k ++ [(k : Int)] := by simp [symL, h]
theorem sym_not {f : Nat → Int} {k : Nat} (h : isSym f k = false) : symL f (k + 1) = symL f k := by simp [symL, h]
theorem symL_le (f : Nat → Int) : ∀ k, (symL f k).length ≤ k
  | 0 => Nat.le_refl _
  | k + 1 => by
    have := symL_le f k
    unfold symL
    split <;> simp <;> omega
theorem symL_pos (f : Nat → Int) : ∀ k, 0 < k → 0 < (symL f k).length
  | k + 1, _ => by
    cases k with
    | zero =>
      have : isSym f 0 = true := sameB_iff.2 fun _ _ => rfl
      rw [sym_yes this]; simp
    | succ k =>
      have := symL_pos f (k + 1) (by omega)
      unfold symL
      split <;> simp <;> omega
/-- What SymmetriesOf and CountForms return. -/
def symR (f : Nat → Int) : List Int := if Vd f then symL f 8 else []
theorem symR_yes {f : Nat → Int} (h : Vd f) : symR f = symL f 8 := by simp [symR, h]
theorem symR_no {f : Nat → Int} (h : ¬ Vd f) : symR f = [] := by simp [symR, h]
theorem symR_le (f : Nat → Int) : (symR f).length ≤ 8 := by
  unfold symR; split
  · exact symL_le f 8
  · exact Nat.zero_le _
def cfmR (f : Nat → Int) : Int := if Vd f then (8 : Int).tdiv (symL f 8).length else 0
/-- Two directions commute. -/
def comB (f : Nat → Int) (d e : Nat) : Bool := sameB (slideB (slideB f d) e) (slideB (slideB f e) d)
def comR (f : Nat → Int) (d e : Int) : Bool := if Vd f ∧ (0 ≤ d ∧ d ≤ 3) ∧ 0 ≤ e ∧ e ≤ 3 then comB f d.toNat e.toNat else false
def comO (f : Nat → Int) (d e : Int) : Bool := decide (Vd f ∧ (0 ≤ d ∧ d ≤ 3) ∧ 0 ≤ e ∧ e ≤ 3)
end Go.Proofs.Ytpiegllffkjneaa.Plain
