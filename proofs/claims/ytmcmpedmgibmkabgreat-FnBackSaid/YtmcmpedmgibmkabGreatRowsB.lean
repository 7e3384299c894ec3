/-
  The contracts of RowPairs and IsFlush, in the reference and in the program, for every row.
-/
import Derived.Test.YtmcmpedmgibmkabGreatRowsA
import Derived.Test.YtmcmpedmgibmkabGreatBaseA
import Derived.Deep.RegionHeld3
namespace Go.Proofs.YtmcmpedmgibmkabGreat
open Go.RowKit Plain
attribute [local go_sem] store_new

theorem held4_step {w W w6 : World} {b n : Nat} {f : Nat → Int} {t : TypeId} (h : Blk W b n f t ∧ Below w.heap.size w W) (hb : Below W.heap.size W w6) : Blk w6 b n f t ∧ Below w.heap.size w w6 :=
  ⟨h.1.below hb h.1.lt, h.2.trans (hb.mono h.2.size)⟩
theorem held44_step {w W w6 : World} {b n c m : Nat} {f g : Nat → Int} {t u : TypeId} (h : Blk W b n f t ∧ Blk W c m g u ∧ Below w.heap.size w W) (hb : Below W.heap.size W w6) : Blk w6 b n f t ∧ Blk w6 c m g u ∧ Below w.heap.size w w6 :=
  ⟨h.1.below hb h.1.lt, h.2.1.below hb h.2.1.lt, h.2.2.trans (hb.mono h.2.2.size)⟩
theorem held44_below {w W : World} {b n c m B : Nat} {f g : Nat → Int} {t u : TypeId} (h : Blk W b n f t ∧ Blk W c m g u ∧ Below B w W) : Below B w W := h.2.2
theorem held4_below {w W : World} {b n B : Nat} {f : Nat → Int} {t : TypeId} (h : Blk W b n f t ∧ Below B w W) : Below B w W := h.2

/-- As far as the first k numbers tell, no 0 comes before another number. -/
def FlTo (f : Nat → Int) (c : Nat) : Prop := ∀ k, 1 ≤ k → k < c → f k ≠ 0 → f (k - 1) ≠ 0
end Go.Proofs.YtmcmpedmgibmkabGreat
