/-
  The contracts of MovesOf and IsOver, in the reference and in the program, for every board.
-/
import Derived.Test.YtmcmpedmgibmkaaRowsKit
import Derived.Test.YtmcmpedmgibmkaaPlainA
namespace Go.Proofs.Ytmcmpedmgibmkaa
open Go.RowKit Plain
attribute [local go_sem] store_new


theorem heldO_step {w W w6 : World} {b n : Nat} {f : Nat → Int} {t : TypeId} (h : Blk W b n f t ∧ Below w.heap.size w W) (hb : Below W.heap.size W w6) : Blk w6 b n f t ∧ Below w.heap.size w w6 :=
  ⟨h.1.below hb h.1.lt, h.2.trans (hb.mono h.2.size)⟩
theorem heldO_below {w W : World} {b n B : Nat} {f : Nat → Int} {t : TypeId} (h : Blk W b n f t ∧ Below B w W) : Below B w W := h.2
theorem fieldB0 (g : Nat → Int) (w : World) : (Instr.field 28 (.agg (mk 16 g)) 0).run Try.prog w = .ok (.agg (mk 16 g)) w := by kernel_rfl
theorem fieldS0 (g : Nat → Int) (w : World) : (Instr.field 95 (.agg (mk 18 g)) 0).run Try.prog w = .ok (.agg (mk 16 g)) w := by kernel_rfl
theorem isMv_of (f : Nat → Int) (d : Nat) : (!sameB (slideV f d) f) = isMv f d := by
  have e : ∀ j, j < 16 → slideV f d j = slideB f d j := by intro j hj; unfold slideV; rw [if_pos hj]
  have e2 : sameB (slideV f d) f = sameB (slideB f d) f := by
    rw [Bool.eq_iff_iff, sameB_iff, sameB_iff]
    constructor
    · intro h j hj; rw [← e j hj]; exact h j hj
    · intro h j hj; rw [e j hj]; exact h j hj
  unfold isMv
  rw [e2]

end Go.Proofs.Ytmcmpedmgibmkaa
