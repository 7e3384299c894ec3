/-
  The contracts of MergersOf, in the reference and in the program, for every board and every number of a direction.
-/
import Derived.Test.YtfjpdopljmilpaaSlideTo
import Derived.Test.YtfjpdopljmilpaaSpecSlide
import Derived.Test.YtfjpdopljmilpaaBaseA
import Derived.Test.YtfjpdopljmilpaaPlainA
import Derived.Deep.RegionHeld3
namespace Go.Proofs.Ytfjpdopljmilpaa
open Go.RowKit Plain
attribute [local go_sem] store_new

/-- What the loads of a drawn region find in every world that comes up. -/
theorem heldM_step {w W w6 : World} {b c n m : Nat} {f g : Nat → Int} {t u : TypeId} (h : Blk W b n f t ∧ Blk W c m g u ∧ Below w.heap.size w W) (hb : Below W.heap.size W w6) : Blk w6 b n f t ∧ Blk w6 c m g u ∧ Below w.heap.size w w6 :=
  ⟨h.1.below hb h.1.lt, h.2.1.below hb h.2.1.lt, h.2.2.trans (hb.mono h.2.2.size)⟩
theorem heldM_row {w W : World} {b c d n m : Nat} {f g : Nat → Int} {t u : TypeId} {cs : Array Value} (h : Blk W b n f t ∧ Blk W c m g u ∧ Below w.heap.size w W) (h1 : b ≠ d) (h2 : c ≠ d) (h3 : w.heap.size ≤ d) : Blk (W.setRow d cs) b n f t ∧ Blk (W.setRow d cs) c m g u ∧ Below w.heap.size w (W.setRow d cs) :=
  ⟨h.1.rowOther _ _ h1, h.2.1.rowOther _ _ h2, below_setRow h.2.2 h3 _⟩
theorem heldM_below {w W : World} {b c n m B : Nat} {f g : Nat → Int} {t u : TypeId} (h : Blk W b n f t ∧ Blk W c m g u ∧ Below B w W) : Below B w W := h.2.2
theorem l2Many_any (f : Nat → Int) (w : World) :
    Calls Try.prog 215 #[.agg (mk 16 f)] w fun e w' => e = .returned (.int .i64 (16 - (empN f 16 : Int))) ∧ Below w.heap.size w w' := by
  have K1 := Blk.new w 16 f 26
  have HB := Lib.hid ((Below.refl w.heap.size w).alloc (Nat.le_refl _) (.cells (mk 16 f) 26))
  have hn := empN_le f 16
  go_enter Try.func215, Try.ntmps215
  go_wp2_with ((with_reducible show wpList _ _ _ (Oper.mk _ (Op.load 26 _) _ _ _ _ :: _) _ _); refine loadB (K1) rfl rfl rfl ?_)
  refine (l2Empty_any f _).mono ?_
  rintro e w1 ⟨g, cap, rfl, _, hb⟩
  have HB1 : Hid (Below w.heap.size w w1) := HB.out.trans (hb.mono HB.out.size)
  clear hb HB
  go_wp2_with fail
  go_ret
  exact ⟨rfl, HB1.out⟩

theorem fieldM (g : Nat → Int) (w : World) : (Instr.field 210 (.agg (mk 18 g)) 2).run Try.prog w = .ok (.int .i64 (g 17)) w := by kernel_rfl

end Go.Proofs.Ytfjpdopljmilpaa
