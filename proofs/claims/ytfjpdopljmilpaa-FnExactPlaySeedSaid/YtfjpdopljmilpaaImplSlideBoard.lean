/-
  The contract of the program's SlideBoard, for every board and every number of a direction.
-/
import Derived.Test.YtfjpdopljmilpaaSlideTo
import Derived.Test.YtfjpdopljmilpaaBaseA
import Derived.Test.YtfjpdopljmilpaaPlainA
import Derived.RegionTactic
namespace Go.Proofs.Ytfjpdopljmilpaa
open Go.RowKit Plain
attribute [local go_sem] store_new

set_option maxHeartbeats 1000000 in
theorem implSlide_any (f : Nat → Int) (d : Int) (w : World) :
    Calls Try.prog 108 #[.agg (mk 16 f), .int .i64 d] w fun e w' => e = .returned (.tuple #[.agg (mk 16 (slideRB f d)), .int .i64 (slideRS f d), .bool (slideRO f d)]) ∧ Below w.heap.size w w' := by
  have z16 := zero16
  have z18 := zero18
  have K1 := (Blk.new w 16 f 26).alloc (.cells (mk 16 fun _ => 0) 26)
  have K2 := Blk.new (w.alloc (.cells (mk 16 f) 26)) 16 (fun _ => 0) 26
  have HB := Lib.hid (((Below.refl w.heap.size w).alloc (Nat.le_refl _) (.cells (mk 16 f) 26)).alloc (by simp) (.cells (mk 16 fun _ => 0) 26))
  simp only [World.size_alloc] at K2
  by_cases hV : Vd f
  · have HV := Lib.hid hV
    by_cases hd : 0 ≤ d ∧ d ≤ 3
    · obtain ⟨y1, y2, y3, _⟩ := slide_yes (f := f) (d := d) ⟨HV.out, hd⟩
      rw [y1, y2, y3]
      clear y1 y2 y3
      obtain ⟨hd0, hd3⟩ := hd
      go_enter Try.func108, Try.ntmps108
      go_wp2_with ((with_reducible show wpList _ _ _ (Oper.mk _ (Op.load 26 _) _ _ _ _ :: _) _ _); refine loadB (K1) rfl rfl rfl ?_)
      refine (implBoard_yes _ _ hV).mono ?_
      rintro e w1 ⟨rfl, hb1⟩
      have k1 := K1.below hb1 K1.lt
      have k2 := K2.below hb1 K2.lt
      have HB1 : Hid (Below w.heap.size w w1) := HB.out.trans (hb1.mono HB.out.size)
      clear hb1 HB K1 K2 hV
      go_wp2_with fail
      refine (isDirection_yes _ _ hd0 hd3).mono ?_
      rintro e w2 ⟨rfl, rfl⟩
      go_wp2_with ((with_reducible show wpList _ _ _ (Oper.mk _ (Op.load 26 _) _ _ _ _ :: _) _ _); refine loadB (k1) rfl rfl rfl ?_)
      refine (slideTo_any _ _ _ HV.out hd0 hd3).mono ?_
      rintro e w3 ⟨rfl, hb3⟩
      have k2 := k2.below hb3 k2.lt
      have HB3 : Hid (Below w.heap.size w w3) := HB1.out.trans (hb3.mono HB1.out.size)
      clear hb3 HB1 k1
      have l3 := k2.lt
      have HG : Hid (∀ j, j < 16 → slideV f d.toNat j = slideB f d.toNat j) := by intro j hj; unfold slideV; rw [if_pos hj]
      have HS : Hid (slideV f d.toNat 16 = slideS f d.toNat 4) := rfl
      go_wp2_with fail
      have k2 := k2.alloc (.cells (mk 18 (slideV f d.toNat)) 210)
      have k7 := Blk.new w3 18 (slideV f d.toNat) 210
      have HB4 : Hid (Below w.heap.size w (w3.alloc (.cells (mk 18 (slideV f d.toNat)) 210))) := HB3.out.alloc HB3.out.size _
      clear HB3
      generalize w3.alloc (.cells (mk 18 (slideV f d.toNat)) 210) = w4 at *
      generalize slideV f d.toNat = v at *
      have a0 := k7.cell (i := 0) (by omega)
      have a1 := k7.cell (i := 1) (by omega)
      have a2 := k7.cell (i := 2) (by omega)
      have a3 := k7.cell (i := 3) (by omega)
      have a4 := k7.cell (i := 4) (by omega)
      have a5 := k7.cell (i := 5) (by omega)
      have a6 := k7.cell (i := 6) (by omega)
      have a7 := k7.cell (i := 7) (by omega)
      have a8 := k7.cell (i := 8) (by omega)
      have a9 := k7.cell (i := 9) (by omega)
      have a10 := k7.cell (i := 10) (by omega)
      have a11 := k7.cell (i := 11) (by omega)
      have a12 := k7.cell (i := 12) (by omega)
      have a13 := k7.cell (i := 13) (by omega)
      have a14 := k7.cell (i := 14) (by omega)
      have a15 := k7.cell (i := 15) (by omega)
      have a16 := k7.cell (i := 16) (by omega)
      have e16 : (#[.int .i64 (v 0), .int .i64 (v 1), .int .i64 (v 2), .int .i64 (v 3), .int .i64 (v 4), .int .i64 (v 5), .int .i64 (v 6), .int .i64 (v 7), .int .i64 (v 8), .int .i64 (v 9), .int .i64 (v 10), .int .i64 (v 11), .int .i64 (v 12), .int .i64 (v 13), .int .i64 (v 14), .int .i64 (v 15)] : Array Value) = mk 16 v := rfl
      have ms := mk_size 16 v
      have hst := run_store_blk (P := Try.prog) v k2.drew
      have a16' := (k7.drew.rowOther (w.heap.size + 1) (mk 16 v) (by omega)).cell (i := 16) (by omega)
      clear z16 z18
      go_region
      all_goals
        clear a0 a1 a2 a3 a4 a5 a6 a7 a8 a9 a10 a11 a12 a13 a14 a15 a16 a16' e16 hst ms
        go_wp2_with fail
        try simp only [Exit.inBlock, Exit.then]
        refine retcttB (k2.drew.row 16 _) rfl rfl rfl ⟨?_, below_setRow HB4.out.drew (by omega) _⟩
        rw [mk_congr HG.out, ← HS.out]
        rfl
    · obtain ⟨y1, y2, y3, _⟩ := slide_no (f := f) (d := d) (fun h => hd h.2)
      rw [y1, y2, y3]
      clear y1 y2 y3
      have HD := Lib.hid (show d < 0 ∨ 3 < d by omega)
      clear hd
      go_enter Try.func108, Try.ntmps108
      go_wp2_with ((with_reducible show wpList _ _ _ (Oper.mk _ (Op.load 26 _) _ _ _ _ :: _) _ _); refine loadB (K1) rfl rfl rfl ?_)
      refine (implBoard_yes _ _ hV).mono ?_
      rintro e w1 ⟨rfl, hb1⟩
      have k1 := K1.below hb1 K1.lt
      have k2 := K2.below hb1 K2.lt
      have HB1 : Hid (Below w.heap.size w w1) := HB.out.trans (hb1.mono HB.out.size)
      clear hb1 HB K1 K2 hV
      go_wp2_with fail
      refine (isDirection_no _ _ HD.out).mono ?_
      rintro e w2 ⟨rfl, rfl⟩
      go_wp2_with ((with_reducible show wpList _ _ _ (Oper.mk _ (Op.store 26 _ _) _ _ _ _ :: _) _ _); refine storeB (k2) rfl rfl rfl rfl ?_)
      try simp only [Exit.inBlock, Exit.then]
      exact retcttB (k2.row 16 _) rfl rfl rfl ⟨rfl, below_setRow HB1.out (by omega) _⟩
  · obtain ⟨y1, y2, y3, _⟩ := slide_no (f := f) (d := d) (fun h => hV h.1)
    rw [y1, y2, y3]
    clear y1 y2 y3
    go_enter Try.func108, Try.ntmps108
    go_wp2_with ((with_reducible show wpList _ _ _ (Oper.mk _ (Op.load 26 _) _ _ _ _ :: _) _ _); refine loadB (K1) rfl rfl rfl ?_)
    refine (implBoard_no _ _ hV).mono ?_
    rintro e w1 ⟨rfl, hb1⟩
    have k2 := K2.below hb1 K2.lt
    have HB1 : Hid (Below w.heap.size w w1) := HB.out.trans (hb1.mono HB.out.size)
    clear hb1 HB K1 K2 hV
    go_wp2_with ((with_reducible show wpList _ _ _ (Oper.mk _ (Op.store 26 _ _) _ _ _ _ :: _) _ _); refine storeB (k2) rfl rfl rfl rfl ?_)
    try simp only [Exit.inBlock, Exit.then]
    exact retcttB (k2.row 16 _) rfl rfl rfl ⟨rfl, below_setRow HB1.out (by omega) _⟩
end Go.Proofs.Ytfjpdopljmilpaa
