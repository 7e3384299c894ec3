/-
  The contracts of MergersOf, in the reference and in the program, for every board and every number of a direction.
-/
import Derived.Test.YtmcmpedmgibmkaaSlideTo
import Derived.Test.YtmcmpedmgibmkaaSpecSlide
import Derived.Test.YtmcmpedmgibmkaaBaseA
import Derived.Test.YtmcmpedmgibmkaaPlainA
import Derived.Deep.RegionHeld3
namespace Go.Proofs.Ytmcmpedmgibmkaa
open Go.RowKit Plain
attribute [local go_sem] store_new

/-- What the loads of a drawn region find in every world that comes up. -/
theorem heldM_step {w W w6 : World} {b c n m : Nat} {f g : Nat → Int} {t u : TypeId} (h : Blk W b n f t ∧ Blk W c m g u ∧ Below w.heap.size w W) (hb : Below W.heap.size W w6) : Blk w6 b n f t ∧ Blk w6 c m g u ∧ Below w.heap.size w w6 :=
  ⟨h.1.below hb h.1.lt, h.2.1.below hb h.2.1.lt, h.2.2.trans (hb.mono h.2.2.size)⟩
theorem heldM_row {w W : World} {b c d n m : Nat} {f g : Nat → Int} {t u : TypeId} {cs : Array Value} (h : Blk W b n f t ∧ Blk W c m g u ∧ Below w.heap.size w W) (h1 : b ≠ d) (h2 : c ≠ d) (h3 : w.heap.size ≤ d) : Blk (W.setRow d cs) b n f t ∧ Blk (W.setRow d cs) c m g u ∧ Below w.heap.size w (W.setRow d cs) :=
  ⟨h.1.rowOther _ _ h1, h.2.1.rowOther _ _ h2, below_setRow h.2.2 h3 _⟩
theorem heldM_below {w W : World} {b c n m B : Nat} {f g : Nat → Int} {t u : TypeId} (h : Blk W b n f t ∧ Blk W c m g u ∧ Below B w W) : Below B w W := h.2.2
theorem l2Many_any (f : Nat → Int) (w : World) :
    Calls Try.prog 63 #[.agg (mk 16 f)] w fun e w' => e = .returned (.int .i64 (16 - (empN f 16 : Int))) ∧ Below w.heap.size w w' := by
  have K1 := Blk.new w 16 f 28
  have HB := Lib.hid ((Below.refl w.heap.size w).alloc (Nat.le_refl _) (.cells (mk 16 f) 28))
  have hn := empN_le f 16
  go_enter Try.func63, Try.ntmps63
  go_wp2_with ((with_reducible show wpList _ _ _ (Oper.mk _ (Op.load 28 _) _ _ _ _ :: _) _ _); refine loadB (K1) rfl rfl rfl ?_)
  refine (l2Empty_any f _).mono ?_
  rintro e w1 ⟨g, cap, rfl, _, hb⟩
  have HB1 : Hid (Below w.heap.size w w1) := HB.out.trans (hb.mono HB.out.size)
  clear hb HB
  go_wp2_with fail
  go_ret
  exact ⟨rfl, HB1.out⟩

theorem fieldM (g : Nat → Int) (w : World) : (Instr.field 95 (.agg (mk 18 g)) 2).run Try.prog w = .ok (.int .i64 (g 17)) w := by kernel_rfl

set_option maxHeartbeats 1000000 in
theorem implMergers_any (f : Nat → Int) (d : Int) (w : World) :
    Calls Try.prog 48 #[.agg (mk 16 f), .int .i64 d] w fun e w' => e = .returned (.tuple #[.int .i64 (slideRM f d), .bool (slideRO f d)]) ∧ Below w.heap.size w w' := by
  have K1 := Blk.new w 16 f 28
  have HB := Lib.hid ((Below.refl w.heap.size w).alloc (Nat.le_refl _) (.cells (mk 16 f) 28))
  by_cases hV : Vd f
  · have HV := Lib.hid hV
    by_cases hd : 0 ≤ d ∧ d ≤ 3
    · obtain ⟨y1, _, _, y4⟩ := slide_yes (f := f) (d := d) ⟨HV.out, hd⟩
      rw [y1, y4]
      clear y1 y4
      obtain ⟨hd0, hd3⟩ := hd
      go_enter Try.func48, Try.ntmps48
      go_wp2_with ((with_reducible show wpList _ _ _ (Oper.mk _ (Op.load 28 _) _ _ _ _ :: _) _ _); refine loadB (K1) rfl rfl rfl ?_)
      refine (implBoard_yes _ _ hV).mono ?_
      rintro e w1 ⟨rfl, hb1⟩
      have k1 := K1.below hb1 K1.lt
      have HB1 : Hid (Below w.heap.size w w1) := HB.out.trans (hb1.mono HB.out.size)
      clear hb1 HB K1 hV
      go_wp2_with fail
      refine (isDirection_yes _ _ hd0 hd3).mono ?_
      rintro e w2 ⟨rfl, rfl⟩
      go_wp2_with ((with_reducible show wpList _ _ _ (Oper.mk _ (Op.load 28 _) _ _ _ _ :: _) _ _); refine loadB (k1) rfl rfl rfl ?_)
      refine (slideTo_any _ _ _ HV.out hd0 hd3).mono ?_
      rintro e w3 ⟨rfl, hb3⟩
      have HB3 : Hid (Below w.heap.size w w3) := HB1.out.trans (hb3.mono HB1.out.size)
      clear hb3 HB1 k1
      have HG : Hid (slideV f d.toNat 17 = slideM f d.toNat 4) := rfl
      have iM := fieldM
      go_wp2_with fail
      go_ret2
      exact ⟨by rw [HG.out]; rfl, HB3.out⟩
    · obtain ⟨y1, _, _, y4⟩ := slide_no (f := f) (d := d) (fun h => hd h.2)
      rw [y1, y4]
      clear y1 y4
      have HD := Lib.hid (show d < 0 ∨ 3 < d by omega)
      clear hd
      go_enter Try.func48, Try.ntmps48
      go_wp2_with ((with_reducible show wpList _ _ _ (Oper.mk _ (Op.load 28 _) _ _ _ _ :: _) _ _); refine loadB (K1) rfl rfl rfl ?_)
      refine (implBoard_yes _ _ hV).mono ?_
      rintro e w1 ⟨rfl, hb1⟩
      have HB1 : Hid (Below w.heap.size w w1) := HB.out.trans (hb1.mono HB.out.size)
      clear hb1 HB K1 hV
      go_wp2_with fail
      refine (isDirection_no _ _ HD.out).mono ?_
      rintro e w2 ⟨rfl, rfl⟩
      go_wp2_with fail
      go_ret2
      exact ⟨rfl, HB1.out⟩
  · obtain ⟨y1, _, _, y4⟩ := slide_no (f := f) (d := d) (fun h => hV h.1)
    rw [y1, y4]
    clear y1 y4
    go_enter Try.func48, Try.ntmps48
    go_wp2_with ((with_reducible show wpList _ _ _ (Oper.mk _ (Op.load 28 _) _ _ _ _ :: _) _ _); refine loadB (K1) rfl rfl rfl ?_)
    refine (implBoard_no _ _ hV).mono ?_
    rintro e w1 ⟨rfl, hb1⟩
    have HB1 : Hid (Below w.heap.size w w1) := HB.out.trans (hb1.mono HB.out.size)
    clear hb1 HB K1 hV
    go_wp2_with fail
    go_ret2
    exact ⟨rfl, HB1.out⟩
end Go.Proofs.Ytmcmpedmgibmkaa
