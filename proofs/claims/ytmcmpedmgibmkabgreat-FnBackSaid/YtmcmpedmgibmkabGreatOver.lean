/-
  The contracts of MovesOf and IsOver, in the reference and in the program, for every board.
-/
import Derived.Test.YtmcmpedmgibmkabGreatRowsKit
import Derived.Test.YtmcmpedmgibmkabGreatPlainA
namespace Go.Proofs.YtmcmpedmgibmkabGreat
open Go.RowKit Plain
attribute [local go_sem] store_new


theorem heldO_step {w W w6 : World} {b n : Nat} {f : Nat → Int} {t : TypeId} (h : Blk W b n f t ∧ Below w.heap.size w W) (hb : Below W.heap.size W w6) : Blk w6 b n f t ∧ Below w.heap.size w w6 :=
  ⟨h.1.below hb h.1.lt, h.2.trans (hb.mono h.2.size)⟩
theorem heldO_below {w W : World} {b n B : Nat} {f : Nat → Int} {t : TypeId} (h : Blk W b n f t ∧ Below B w W) : Below B w W := h.2
theorem fieldB0 (g : Nat → Int) (w : World) : (Instr.field 27 (.agg (mk 16 g)) 0).run Tryz.prog w = .ok (.agg (mk 16 g)) w := by kernel_rfl
theorem fieldS0 (g : Nat → Int) (w : World) : (Instr.field 89 (.agg (mk 18 g)) 0).run Tryz.prog w = .ok (.agg (mk 16 g)) w := by kernel_rfl
theorem isMv_of (f : Nat → Int) (d : Nat) : (!sameB (slideV f d) f) = isMv f d := by
  have e : ∀ j, j < 16 → slideV f d j = slideB f d j := by intro j hj; unfold slideV; rw [if_pos hj]
  have e2 : sameB (slideV f d) f = sameB (slideB f d) f := by
    rw [Bool.eq_iff_iff, sameB_iff, sameB_iff]
    constructor
    · intro h j hj; rw [← e j hj]; exact h j hj
    · intro h j hj; rw [e j hj]; exact h j hj
  unfold isMv
  rw [e2]

set_option maxHeartbeats 1000000 in
set_option maxRecDepth 20000 in
theorem isMove_any (f : Nat → Int) (d : Nat) (w : World) (hV : Vd f) (hd : d < 4) :
    Calls Tryz.prog 41 #[.agg (mk 16 f), .int .i64 d] w fun e w' => e = .returned (.bool (isMv f d)) ∧ Below w.heap.size w w' := by
  have K1 := Blk.new w 16 f 27
  have HB := Lib.hid ((Below.refl w.heap.size w).alloc (Nat.le_refl _) (.cells (mk 16 f) 27))
  have HV := Lib.hid hV
  have hd0 : (0 : Int) ≤ (d : Int) := by omega
  have hd3 : (d : Int) ≤ 3 := by omega
  have HQ := Lib.hid (isMv_of f d)
  clear hV hd
  go_enter Tryz.func41, Tryz.ntmps41
  go_wp2_with fail
  have a0 := fun (W : World) (h : Blk W w.heap.size 16 f 27) => h.cell (i := 0) (by omega)
  have a1 := fun (W : World) (h : Blk W w.heap.size 16 f 27) => h.cell (i := 1) (by omega)
  have a2 := fun (W : World) (h : Blk W w.heap.size 16 f 27) => h.cell (i := 2) (by omega)
  have a3 := fun (W : World) (h : Blk W w.heap.size 16 f 27) => h.cell (i := 3) (by omega)
  have a4 := fun (W : World) (h : Blk W w.heap.size 16 f 27) => h.cell (i := 4) (by omega)
  have a5 := fun (W : World) (h : Blk W w.heap.size 16 f 27) => h.cell (i := 5) (by omega)
  have a6 := fun (W : World) (h : Blk W w.heap.size 16 f 27) => h.cell (i := 6) (by omega)
  have a7 := fun (W : World) (h : Blk W w.heap.size 16 f 27) => h.cell (i := 7) (by omega)
  have a8 := fun (W : World) (h : Blk W w.heap.size 16 f 27) => h.cell (i := 8) (by omega)
  have a9 := fun (W : World) (h : Blk W w.heap.size 16 f 27) => h.cell (i := 9) (by omega)
  have a10 := fun (W : World) (h : Blk W w.heap.size 16 f 27) => h.cell (i := 10) (by omega)
  have a11 := fun (W : World) (h : Blk W w.heap.size 16 f 27) => h.cell (i := 11) (by omega)
  have a12 := fun (W : World) (h : Blk W w.heap.size 16 f 27) => h.cell (i := 12) (by omega)
  have a13 := fun (W : World) (h : Blk W w.heap.size 16 f 27) => h.cell (i := 13) (by omega)
  have a14 := fun (W : World) (h : Blk W w.heap.size 16 f 27) => h.cell (i := 14) (by omega)
  have a15 := fun (W : World) (h : Blk W w.heap.size 16 f 27) => h.cell (i := 15) (by omega)
  have ae : (#[.int .i64 (f 0), .int .i64 (f 1), .int .i64 (f 2), .int .i64 (f 3), .int .i64 (f 4), .int .i64 (f 5), .int .i64 (f 6), .int .i64 (f 7), .int .i64 (f 8), .int .i64 (f 9), .int .i64 (f 10), .int .i64 (f 11), .int .i64 (f 12), .int .i64 (f 13), .int .i64 (f 14), .int .i64 (f 15)] : Array Value) = mk 16 f := rfl
  have iS := fieldS0
  have iB := fieldB0
  have iN := neqG
  go_region_held3 (fun w' => Blk w' w.heap.size 16 f 27 ∧ Below w.heap.size w w') (first | exact ⟨K1.drew, HB.out.drew⟩ | assumption) (first | (go_at_call 52; refine (slideTo_nat f d _ HV.out hd0 hd3).mono ?_; rintro e w6 ⟨rfl, hb6⟩; have J := heldO_step (by assumption) hb6; clear hb6) | fail)
  all_goals
    clear a0 a1 a2 a3 a4 a5 a6 a7 a8 a9 a10 a11 a12 a13 a14 a15 ae iS iB iN
    go_wp2_with fail
    go_ret
    exact ⟨rfl, heldO_below (by assumption)⟩

end Go.Proofs.YtmcmpedmgibmkabGreat
