/-
  The contracts of MergersOf, in the reference and in the program, for every board and every number of a direction.
-/
import Derived.Test.YtffonncbmddjgaaSlideTo
import Derived.Test.YtffonncbmddjgaaSpecSlide
import Derived.Test.YtffonncbmddjgaaEmpty
import Derived.Test.YtffonncbmddjgaaMergersPlain
import Derived.Test.YtffonncbmddjgaaValid
import Derived.Test.YtffonncbmddjgaaSlidePlain
import Derived.Deep.RegionHeld3
namespace Go.Proofs.Ytffonncbmddjgaa
open Go.RowKit Plain
attribute [local go_sem] store_new

/-- What the loads of a drawn region find in every world that comes up. -/
theorem heldM_step {w W w6 : World} {b c n m : Nat} {f g : Nat → Int} {t u : TypeId} (h : Blk W b n f t ∧ Blk W c m g u ∧ Below w.heap.size w W) (hb : Below W.heap.size W w6) : Blk w6 b n f t ∧ Blk w6 c m g u ∧ Below w.heap.size w w6 :=
  ⟨h.1.below hb h.1.lt, h.2.1.below hb h.2.1.lt, h.2.2.trans (hb.mono h.2.2.size)⟩
theorem heldM_row {w W : World} {b c d n m : Nat} {f g : Nat → Int} {t u : TypeId} {cs : Array Value} (h : Blk W b n f t ∧ Blk W c m g u ∧ Below w.heap.size w W) (h1 : b ≠ d) (h2 : c ≠ d) (h3 : w.heap.size ≤ d) : Blk (W.setRow d cs) b n f t ∧ Blk (W.setRow d cs) c m g u ∧ Below w.heap.size w (W.setRow d cs) :=
  ⟨h.1.rowOther _ _ h1, h.2.1.rowOther _ _ h2, below_setRow h.2.2 h3 _⟩
theorem heldM_below {w W : World} {b c n m B : Nat} {f g : Nat → Int} {t u : TypeId} (h : Blk W b n f t ∧ Blk W c m g u ∧ Below B w W) : Below B w W := h.2.2
theorem l2Many_any (f : Nat → Int) (w : World) :
    Calls Try.prog 142 #[.agg (mk 16 f)] w fun e w' => e = .returned (.int .i64 (16 - (empN f 16 : Int))) ∧ Below w.heap.size w w' := by
  have K1 := Blk.new w 16 f 27
  have HB := Lib.hid ((Below.refl w.heap.size w).alloc (Nat.le_refl _) (.cells (mk 16 f) 27))
  have hn := empN_le f 16
  go_enter Try.func142, Try.ntmps142
  go_wp2_with ((with_reducible show wpList _ _ _ (Oper.mk _ (Op.load 27 _) _ _ _ _ :: _) _ _); refine loadB (K1) rfl rfl rfl ?_)
  refine (l2Empty_any f _).mono ?_
  rintro e w1 ⟨g, cap, rfl, _, hb⟩
  have HB1 : Hid (Below w.heap.size w w1) := HB.out.trans (hb.mono HB.out.size)
  clear hb HB
  go_wp2_with fail
  go_ret
  exact ⟨rfl, HB1.out⟩

theorem fieldM (g : Nat → Int) (w : World) : (Instr.field 113 (.agg (mk 18 g)) 2).run Try.prog w = .ok (.int .i64 (g 17)) w := by kernel_rfl

set_option maxHeartbeats 1000000 in
theorem implMergers_any (f : Nat → Int) (d : Int) (w : World) :
    Calls Try.prog 65 #[.agg (mk 16 f), .int .i64 d] w fun e w' => e = .returned (.tuple #[.int .i64 (slideRM f d), .bool (slideRO f d)]) ∧ Below w.heap.size w w' := by
  have K1 := Blk.new w 16 f 27
  have HB := Lib.hid ((Below.refl w.heap.size w).alloc (Nat.le_refl _) (.cells (mk 16 f) 27))
  by_cases hV : Vd f
  · have HV := Lib.hid hV
    by_cases hd : 0 ≤ d ∧ d ≤ 3
    · obtain ⟨y1, _, _, y4⟩ := slide_yes (f := f) (d := d) ⟨HV.out, hd⟩
      rw [y1, y4]
      clear y1 y4
      obtain ⟨hd0, hd3⟩ := hd
      go_enter Try.func65, Try.ntmps65
      go_wp2_with ((with_reducible show wpList _ _ _ (Oper.mk _ (Op.load 27 _) _ _ _ _ :: _) _ _); refine loadB (K1) rfl rfl rfl ?_)
      refine (implBoard_yes _ _ hV).mono ?_
      rintro e w1 ⟨rfl, hb1⟩
      have k1 := K1.below hb1 K1.lt
      have HB1 : Hid (Below w.heap.size w w1) := HB.out.trans (hb1.mono HB.out.size)
      clear hb1 HB K1 hV
      go_wp2_with fail
      refine (isDirection_yes _ _ hd0 hd3).mono ?_
      rintro e w2 ⟨rfl, rfl⟩
      go_wp2_with ((with_reducible show wpList _ _ _ (Oper.mk _ (Op.load 27 _) _ _ _ _ :: _) _ _); refine loadB (k1) rfl rfl rfl ?_)
      refine (slideTo_any _ _ _ HV.out hd0 hd3).mono ?_
      rintro e w3 ⟨rfl, hb3⟩
      have HB3 : Hid (Below w.heap.size w w3) := HB1.out.trans (hb3.mono HB1.out.size)
      clear hb3 HB1 k1
      have HG : Hid (slideV f d.toNat 17 = slideM f d.toNat 4) := rfl
      have iM := fieldM
      go_wp2_with fail
      go_ret2
      exact ⟨by rw [HG.out]; rfl, HB3.out⟩
    · obtain ⟨y1, _, _, y4⟩ := slide_no (f := f) (d := d) (fun h => hd h.2)
      rw [y1, y4]
      clear y1 y4
      have HD := Lib.hid (show d < 0 ∨ 3 < d by omega)
      clear hd
      go_enter Try.func65, Try.ntmps65
      go_wp2_with ((with_reducible show wpList _ _ _ (Oper.mk _ (Op.load 27 _) _ _ _ _ :: _) _ _); refine loadB (K1) rfl rfl rfl ?_)
      refine (implBoard_yes _ _ hV).mono ?_
      rintro e w1 ⟨rfl, hb1⟩
      have HB1 : Hid (Below w.heap.size w w1) := HB.out.trans (hb1.mono HB.out.size)
      clear hb1 HB K1 hV
      go_wp2_with fail
      refine (isDirection_no _ _ HD.out).mono ?_
      rintro e w2 ⟨rfl, rfl⟩
      go_wp2_with fail
      go_ret2
      exact ⟨rfl, HB1.out⟩
  · obtain ⟨y1, _, _, y4⟩ := slide_no (f := f) (d := d) (fun h => hV h.1)
    rw [y1, y4]
    clear y1 y4
    go_enter Try.func65, Try.ntmps65
    go_wp2_with ((with_reducible show wpList _ _ _ (Oper.mk _ (Op.load 27 _) _ _ _ _ :: _) _ _); refine loadB (K1) rfl rfl rfl ?_)
    refine (implBoard_no _ _ hV).mono ?_
    rintro e w1 ⟨rfl, hb1⟩
    have HB1 : Hid (Below w.heap.size w w1) := HB.out.trans (hb1.mono HB.out.size)
    clear hb1 HB K1 hV
    go_wp2_with fail
    go_ret2
    exact ⟨rfl, HB1.out⟩
set_option maxHeartbeats 4000000 in
theorem specMergers_any (f : Nat → Int) (d : Int) (w : World) :
    Calls Try.prog 66 #[.agg (mk 16 f), .int .i64 d] w fun e w' => e = .returned (.tuple #[.int .i64 (slideRM f d), .bool (slideRO f d)]) ∧ Below w.heap.size w w' := by
  have z16 := zero16
  have K1 := Blk.new w 16 f 27
  have HB := Lib.hid ((Below.refl w.heap.size w).alloc (Nat.le_refl _) (.cells (mk 16 f) 27))
  by_cases hV : Vd f
  · have HV := Lib.hid hV
    by_cases hd : 0 ≤ d ∧ d ≤ 3
    · obtain ⟨y1, _, _, y4⟩ := slide_yes (f := f) (d := d) ⟨HV.out, hd⟩
      rw [y1, y4]
      clear y1 y4
      obtain ⟨hd0, hd3⟩ := hd
      have hE := emp_slide HV.out (d := d.toNat) (by omega)
      have n0 := empN_le f 16
      have n1 := empN_le (slideB f d.toNat) 16
      have ew : IntKind.i64.wrap (16 - (empN f 16 : Int) - (16 - (empN (slideB f d.toNat) 16 : Int))) = slideM f d.toNat 4 := by
        rw [show 16 - (empN f 16 : Int) - (16 - (empN (slideB f d.toNat) 16 : Int)) = slideM f d.toNat 4 by omega]
        exact IntWalk.i64_in _ (by have := slideM_bd HV.out d.toNat 4 (by omega); omega)
      have EW := Lib.hid ew
      clear hE ew
      go_enter Try.func66, Try.ntmps66
      go_wp2_with ((with_reducible show wpList _ _ _ (Oper.mk _ (Op.load 27 _) _ _ _ _ :: _) _ _); refine loadB (K1) rfl rfl rfl ?_)
      refine (l2Board_yes _ _ hV).mono ?_
      rintro e w1 ⟨rfl, hb1⟩
      have k1 := K1.below hb1 K1.lt
      have HB1 : Hid (Below w.heap.size w w1) := HB.out.trans (hb1.mono HB.out.size)
      clear hb1 HB K1 hV
      go_wp2_with fail
      refine (l2Side_yes _ _ hd0 hd3).mono ?_
      rintro e w2 ⟨rfl, rfl⟩
      go_wp2_with ((with_reducible show wpList _ _ _ (Oper.mk _ (Op.load 27 _) _ _ _ _ :: _) _ _); refine loadB (k1) rfl rfl rfl ?_)
      refine (l2Slide_any _ _ _ HV.out hd0 hd3).mono ?_
      rintro e w3 ⟨rfl, hb3⟩
      have k1 := (k1.below hb3 k1.lt).alloc (.cells (mk 16 (slideB f d.toNat)) 27)
      have k3 := Blk.new w3 16 (slideB f d.toNat) 27
      have HB3 : Hid (Below w.heap.size w w3) := HB1.out.trans (hb3.mono HB1.out.size)
      have HB4 : Hid (Below w.heap.size w (w3.alloc (.cells (mk 16 (slideB f d.toNat)) 27))) := HB3.out.alloc HB3.out.size _
      clear hb3 HB1 HB3
      go_wp2_with fail
      generalize slideB f d.toNat = v at *
      clear z16
      have a0 := fun (W : World) (h : Blk W w.heap.size 16 f 27) => h.cell (i := 0) (by omega)
      have a1 := fun (W : World) (h : Blk W w.heap.size 16 f 27) => h.cell (i := 1) (by omega)
      have a2 := fun (W : World) (h : Blk W w.heap.size 16 f 27) => h.cell (i := 2) (by omega)
      have a3 := fun (W : World) (h : Blk W w.heap.size 16 f 27) => h.cell (i := 3) (by omega)
      have a4 := fun (W : World) (h : Blk W w.heap.size 16 f 27) => h.cell (i := 4) (by omega)
      have a5 := fun (W : World) (h : Blk W w.heap.size 16 f 27) => h.cell (i := 5) (by omega)
      have a6 := fun (W : World) (h : Blk W w.heap.size 16 f 27) => h.cell (i := 6) (by omega)
      have a7 := fun (W : World) (h : Blk W w.heap.size 16 f 27) => h.cell (i := 7) (by omega)
      have a8 := fun (W : World) (h : Blk W w.heap.size 16 f 27) => h.cell (i := 8) (by omega)
      have a9 := fun (W : World) (h : Blk W w.heap.size 16 f 27) => h.cell (i := 9) (by omega)
      have a10 := fun (W : World) (h : Blk W w.heap.size 16 f 27) => h.cell (i := 10) (by omega)
      have a11 := fun (W : World) (h : Blk W w.heap.size 16 f 27) => h.cell (i := 11) (by omega)
      have a12 := fun (W : World) (h : Blk W w.heap.size 16 f 27) => h.cell (i := 12) (by omega)
      have a13 := fun (W : World) (h : Blk W w.heap.size 16 f 27) => h.cell (i := 13) (by omega)
      have a14 := fun (W : World) (h : Blk W w.heap.size 16 f 27) => h.cell (i := 14) (by omega)
      have a15 := fun (W : World) (h : Blk W w.heap.size 16 f 27) => h.cell (i := 15) (by omega)
      have ae : (#[.int .i64 (f 0), .int .i64 (f 1), .int .i64 (f 2), .int .i64 (f 3), .int .i64 (f 4), .int .i64 (f 5), .int .i64 (f 6), .int .i64 (f 7), .int .i64 (f 8), .int .i64 (f 9), .int .i64 (f 10), .int .i64 (f 11), .int .i64 (f 12), .int .i64 (f 13), .int .i64 (f 14), .int .i64 (f 15)] : Array Value) = mk 16 f := rfl
      have b0 := fun (W : World) (h : Blk W w3.heap.size 16 v 27) => h.cell (i := 0) (by omega)
      have b1 := fun (W : World) (h : Blk W w3.heap.size 16 v 27) => h.cell (i := 1) (by omega)
      have b2 := fun (W : World) (h : Blk W w3.heap.size 16 v 27) => h.cell (i := 2) (by omega)
      have b3 := fun (W : World) (h : Blk W w3.heap.size 16 v 27) => h.cell (i := 3) (by omega)
      have b4 := fun (W : World) (h : Blk W w3.heap.size 16 v 27) => h.cell (i := 4) (by omega)
      have b5 := fun (W : World) (h : Blk W w3.heap.size 16 v 27) => h.cell (i := 5) (by omega)
      have b6 := fun (W : World) (h : Blk W w3.heap.size 16 v 27) => h.cell (i := 6) (by omega)
      have b7 := fun (W : World) (h : Blk W w3.heap.size 16 v 27) => h.cell (i := 7) (by omega)
      have b8 := fun (W : World) (h : Blk W w3.heap.size 16 v 27) => h.cell (i := 8) (by omega)
      have b9 := fun (W : World) (h : Blk W w3.heap.size 16 v 27) => h.cell (i := 9) (by omega)
      have b10 := fun (W : World) (h : Blk W w3.heap.size 16 v 27) => h.cell (i := 10) (by omega)
      have b11 := fun (W : World) (h : Blk W w3.heap.size 16 v 27) => h.cell (i := 11) (by omega)
      have b12 := fun (W : World) (h : Blk W w3.heap.size 16 v 27) => h.cell (i := 12) (by omega)
      have b13 := fun (W : World) (h : Blk W w3.heap.size 16 v 27) => h.cell (i := 13) (by omega)
      have b14 := fun (W : World) (h : Blk W w3.heap.size 16 v 27) => h.cell (i := 14) (by omega)
      have b15 := fun (W : World) (h : Blk W w3.heap.size 16 v 27) => h.cell (i := 15) (by omega)
      have be : (#[.int .i64 (v 0), .int .i64 (v 1), .int .i64 (v 2), .int .i64 (v 3), .int .i64 (v 4), .int .i64 (v 5), .int .i64 (v 6), .int .i64 (v 7), .int .i64 (v 8), .int .i64 (v 9), .int .i64 (v 10), .int .i64 (v 11), .int .i64 (v 12), .int .i64 (v 13), .int .i64 (v 14), .int .i64 (v 15)] : Array Value) = mk 16 v := rfl
      have ew := EW.out
      generalize hw4 : w3.alloc (.cells (mk 16 v) 27) = w4 at *
      clear hw4
      go_region_held3 (fun w' => Blk w' w.heap.size 16 f 27 ∧ Blk w' w3.heap.size 16 v 27 ∧ Below w.heap.size w w') (first | exact ⟨k1.drew, k3.drew, HB4.out.drew⟩ | assumption) (first | (go_at_call 142; (first | (with_reducible refine (l2Many_any f _).mono ?_) | (with_reducible refine (l2Many_any v _).mono ?_)); rintro e w6 ⟨rfl, hb6⟩; have J := heldM_step (by assumption) hb6; clear hb6) | fail)
      all_goals
        clear a0 a1 a2 a3 a4 a5 a6 a7 a8 a9 a10 a11 a12 a13 a14 a15 ae b0 b1 b2 b3 b4 b5 b6 b7 b8 b9 b10 b11 b12 b13 b14 b15 be ew
        go_wp2_with fail
        go_ret2
        exact ⟨rfl, heldM_below (by assumption)⟩
    · obtain ⟨y1, _, _, y4⟩ := slide_no (f := f) (d := d) (fun h => hd h.2)
      rw [y1, y4]
      clear y1 y4
      have HD := Lib.hid (show d < 0 ∨ 3 < d by omega)
      clear hd
      go_enter Try.func66, Try.ntmps66
      go_wp2_with ((with_reducible show wpList _ _ _ (Oper.mk _ (Op.load 27 _) _ _ _ _ :: _) _ _); refine loadB (K1) rfl rfl rfl ?_)
      refine (l2Board_yes _ _ hV).mono ?_
      rintro e w1 ⟨rfl, hb1⟩
      have HB1 : Hid (Below w.heap.size w w1) := HB.out.trans (hb1.mono HB.out.size)
      clear hb1 HB K1 hV
      go_wp2_with fail
      refine (l2Side_no _ _ HD.out).mono ?_
      rintro e w2 ⟨rfl, rfl⟩
      go_wp2_with fail
      go_ret2
      exact ⟨rfl, HB1.out⟩
  · obtain ⟨y1, _, _, y4⟩ := slide_no (f := f) (d := d) (fun h => hV h.1)
    rw [y1, y4]
    clear y1 y4
    go_enter Try.func66, Try.ntmps66
    go_wp2_with ((with_reducible show wpList _ _ _ (Oper.mk _ (Op.load 27 _) _ _ _ _ :: _) _ _); refine loadB (K1) rfl rfl rfl ?_)
    refine (l2Board_no _ _ hV).mono ?_
    rintro e w1 ⟨rfl, hb1⟩
    have HB1 : Hid (Below w.heap.size w w1) := HB.out.trans (hb1.mono HB.out.size)
    clear hb1 HB K1 hV
    go_wp2_with fail
    go_ret2
    exact ⟨rfl, HB1.out⟩
end Go.Proofs.Ytffonncbmddjgaa
