/-
  Plain facts on the texts of boards. No program stands in this text.
-/
import Derived.Test.YtffonncbmddjgaaBoardPlain
namespace Go.Proofs.Ytffonncbmddjgaa.Plain
/-- The sign of a number of a cell. -/
def letB (t : Int) : UInt8 := UInt8.ofNat (if t = 0 then 46 else 96 + t.toNat)
theorem letB_nat {t : Int} (h0 : 0 ≤ t) (h1 : t ≤ 17) : ((letB t).toNat : Int) = if t = 0 then 46 else 96 + t := by
  rcases (by omega : t = 0 ∨ t = 1 ∨ t = 2 ∨ t = 3 ∨ t = 4 ∨ t = 5 ∨ t = 6 ∨ t = 7 ∨ t = 8 ∨ t = 9 ∨ t = 10 ∨ t = 11 ∨ t = 12 ∨ t = 13 ∨ t = 14 ∨ t = 15 ∨ t = 16 ∨ t = 17) with rfl | rfl | rfl | rfl | rfl | rfl | rfl | rfl | rfl | rfl | rfl | rfl | rfl | rfl | rfl | rfl | rfl | rfl <;> decide
/-- The signs of c cells of a row; the mark ahead of a row; r rows. -/
def rowT (f : Nat → Int) (r c : Nat) : List UInt8 := (List.range c).map fun i => letB (f (r * 4 + i))
def sepT (r : Nat) : List UInt8 := if r = 0 then [] else [47]
def rowsT (f : Nat → Int) : Nat → List UInt8
  | 0 => []
  | r + 1 => rowsT f r ++ sepT r ++ rowT f r 4
theorem rowT_zero (f : Nat → Int) (r : Nat) : rowT f r 0 = [] := rfl
theorem rowT_step (f : Nat → Int) (r c : Nat) : rowT f r (c + 1) = rowT f r c ++ [letB (f (r * 4 + c))] := by
  simp [rowT, List.range_succ]
theorem rowT_len (f : Nat → Int) (r c : Nat) : (rowT f r c).length = c := by simp [rowT]
theorem sepT_len (r : Nat) : (sepT r).length ≤ 1 := by unfold sepT; split <;> simp
theorem rowsT_len (f : Nat → Int) : ∀ r, (rowsT f r).length ≤ r * 5
  | 0 => Nat.le_refl _
  | r + 1 => by
    have h1 := rowsT_len f r
    have h2 := sepT_len r
    have h3 := rowT_len f r 4
    unfold rowsT
    simp only [List.length_append]
    omega
/-- A text told by its bytes. -/
def tbs (l : List UInt8) : ByteArray := ⟨l.toArray⟩
theorem tbs_app (a b : List UInt8) : tbs (a ++ b) = tbs a ++ tbs b := by
  apply ByteArray.ext
  simp [tbs, ByteArray.data_append]
theorem tbs_size (l : List UInt8) : (tbs l).size = l.length := rfl
theorem tbs_inj {a b : List UInt8} (h : tbs a = tbs b) : a = b := by
  have : (tbs a).data.toList = (tbs b).data.toList := by rw [h]
  simpa [tbs] using this
/-- The text of a board. -/
def textL (f : Nat → Int) : List UInt8 := rowsT f 4
end Go.Proofs.Ytffonncbmddjgaa.Plain
