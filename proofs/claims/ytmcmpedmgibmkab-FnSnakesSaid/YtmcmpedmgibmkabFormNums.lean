/-
  The contracts of FormBehind, FormBack and FormSide, in the reference and in the program, for all numbers.
-/
import Derived.Test.YtmcmpedmgibmkabSpecMade
import Derived.Test.YtmcmpedmgibmkabBaseA
import Derived.Deep.RegionHeld3
namespace Go.Proofs.Ytmcmpedmgibmkab
open Go.RowKit Plain
attribute [local go_sem] store_new

/-- The marked board. -/
def markF : Nat → Int := fun j => if j = 0 then 1 else if j = 1 then 2 else 0
theorem mk_mark : (#[.int .i64 1, .int .i64 2, .int .i64 0, .int .i64 0, .int .i64 0, .int .i64 0, .int .i64 0, .int .i64 0, .int .i64 0, .int .i64 0, .int .i64 0, .int .i64 0, .int .i64 0, .int .i64 0, .int .i64 0, .int .i64 0] : Array Value) = mk 16 markF := rfl
set_option maxRecDepth 100000 in
theorem mark_beh : ∀ k, k < 8 → ∀ m, m < 8 → ∀ j, j < 8 → sameB (formF markF j) (formF (formF markF k) m) = decide (j = behN k m) := by decide
set_option maxRecDepth 100000 in
theorem mark_back : ∀ k, k < 8 → ∀ m, m < 8 → sameB (formF (formF markF k) m) markF = decide (m = backN k) := by decide
theorem held1_step {w W W' : World} {g : Nat → Int} {t : TypeId} (h : Blk W w.heap.size 16 g t ∧ Below w.heap.size w W) (hb : Below W.heap.size W W') : Blk W' w.heap.size 16 g t ∧ Below w.heap.size w W' :=
  ⟨h.1.below hb h.1.lt, h.2.trans (hb.mono h.2.size)⟩
end Go.Proofs.Ytmcmpedmgibmkab
