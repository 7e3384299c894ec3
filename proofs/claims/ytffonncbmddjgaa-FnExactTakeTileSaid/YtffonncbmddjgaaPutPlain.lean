/-
  Plain facts on what PutTile and TakeTile return. No program stands in this text.
-/
import Derived.Test.YtffonncbmddjgaaBoardPlain
namespace Go.Proofs.Ytffonncbmddjgaa.Plain
/-- The cell lies on a board. -/
def CellIn (g : Nat → Int) : Prop := (0 ≤ g 0 ∧ g 0 ≤ 3) ∧ 0 ≤ g 1 ∧ g 1 ≤ 3
instance (g : Nat → Int) : Decidable (CellIn g) := by unfold CellIn; infer_instance
/-- The place of a cell. -/
def placeAt (g : Nat → Int) : Nat := (g 0).toNat * 4 + (g 1).toNat
def PutOk (f g : Nat → Int) (t : Int) : Prop := Vd f ∧ CellIn g ∧ (1 ≤ t ∧ t ≤ 17) ∧ f (placeAt g) = 0
instance (f g : Nat → Int) (t : Int) : Decidable (PutOk f g t) := by unfold PutOk; infer_instance
def putO (f g : Nat → Int) (t : Int) : Bool := decide (PutOk f g t)
def putB (f g : Nat → Int) (t : Int) : Nat → Int := if PutOk f g t then upd f (placeAt g) t else fun _ => 0
theorem put_yes {f g : Nat → Int} {t : Int} (h : PutOk f g t) : putO f g t = true ∧ putB f g t = upd f (placeAt g) t := by
  unfold putO putB; simp [h]
theorem put_no {f g : Nat → Int} {t : Int} (h : ¬ PutOk f g t) : putO f g t = false ∧ putB f g t = fun _ => 0 := by
  unfold putO putB; simp [h]
def TakeOk (f g : Nat → Int) : Prop := Vd f ∧ CellIn g ∧ f (placeAt g) ≠ 0
instance (f g : Nat → Int) : Decidable (TakeOk f g) := by unfold TakeOk; infer_instance
def takeO (f g : Nat → Int) : Bool := decide (TakeOk f g)
def takeB (f g : Nat → Int) : Nat → Int := if TakeOk f g then upd f (placeAt g) 0 else fun _ => 0
def takeT (f g : Nat → Int) : Int := if TakeOk f g then f (placeAt g) else 0
theorem take_yes {f g : Nat → Int} (h : TakeOk f g) : takeO f g = true ∧ takeB f g = upd f (placeAt g) 0 ∧ takeT f g = f (placeAt g) := by
  unfold takeO takeB takeT; simp [h]
theorem take_no {f g : Nat → Int} (h : ¬ TakeOk f g) : takeO f g = false ∧ takeB f g = (fun _ => 0) ∧ takeT f g = 0 := by
  unfold takeO takeB takeT; simp [h]
/-- A cell that lies on a board, told by two naturals. -/
theorem cell_nat {g : Nat → Int} (h : CellIn g) : ∃ r c : Nat, r < 4 ∧ c < 4 ∧ g 0 = r ∧ g 1 = c ∧ placeAt g = r * 4 + c := by
  obtain ⟨⟨a, b⟩, c, d⟩ := h
  exact ⟨(g 0).toNat, (g 1).toNat, by omega, by omega, by omega, by omega, rfl⟩
end Go.Proofs.Ytffonncbmddjgaa.Plain
