/-
  The contracts of TurnRow, in the reference and in the program, for every row, and of slices.Reverse of four integers.
-/
import Derived.Test.YtphkidkkcknnmaaRowsA
import Derived.Test.YtphkidkkcknnmaaBaseA
import Derived.Sort.WalkB12
import Derived.Shelf.RegionOpenPlain
namespace Go.Proofs.Ytphkidkkcknnmaa
open Go.RowKit Plain
attribute [local go_sem] store_new

/-- A row of which i places from each end have been turned. -/
def revTo (f : Nat → Int) (i : Nat) : Nat → Int := fun j => if j < i ∨ 3 - j < i then f (3 - j) else f j
theorem revTo_zero (f : Nat → Int) (j : Nat) : revTo f 0 j = f j := by simp [revTo]
theorem revTo_two (f : Nat → Int) {j : Nat} (hj : j < 4) : revTo f 2 j = rev f j := by
  unfold revTo rev
  rw [if_pos (by omega)]
theorem revTo_step (f : Nat → Int) {i j : Nat} (hi : i < 2) (hj : j < 4) : upd (upd (revTo f i) i (f (3 - i))) (3 - i) (f i) j = revTo f (i + 1) j := by
  unfold upd revTo
  rcases (by omega : i = 0 ∨ i = 1) with rfl | rfl <;> rcases (by omega : j = 0 ∨ j = 1 ∨ j = 2 ∨ j = 3) with rfl | rfl | rfl | rfl <;> simp
theorem gset {b : Nat} {a w : World} (h : a.grownBy w (some b)) (j : Nat) (v : Value) : a.grownBy (w.setCell ⟨b, j, none⟩ v) (some b) :=
  ⟨h.os, h.tape, h.output, by simpa [World.setCell] using h.size, fun k hk hne => (Below.heap_setCell _ _ _ _ (fun e => hne (congrArg some e))).trans (h.block k hk hne)⟩
theorem gdrew {b : Nat} {a w : World} (h : a.grownBy w (some b)) (n : Nat) : a.grownBy (w.drewN n) (some b) := ⟨h.os, h.tape, h.output, h.size, h.block⟩
theorem rev_lit (f : Nat → Int) : (#[.int .i64 (f 3), .int .i64 (f 2), .int .i64 (f 1), .int .i64 (f 0)] : Array Value) = mk 4 (rev f) := rfl
end Go.Proofs.Ytphkidkkcknnmaa
