/-
  The contract of the reference's SlideBoard, for every board and every number of a direction.
-/
import Derived.Test.YtffonncbmddjgaaSpecSlide
import Derived.Test.YtffonncbmddjgaaValid
import Derived.Test.YtffonncbmddjgaaSlidePlain
namespace Go.Proofs.Ytffonncbmddjgaa
open Go.RowKit Plain
attribute [local go_sem] store_new

set_option maxHeartbeats 400000 in
theorem specSlide_any (f : Nat → Int) (d : Int) (w : World) :
    Calls Try.prog 59 #[.agg (mk 16 f), .int .i64 d] w fun e w' => e = .returned (.tuple #[.agg (mk 16 (slideRB f d)), .int .i64 (slideRS f d), .bool (slideRO f d)]) ∧ Below w.heap.size w w' := by
  have z16 := zero16
  have K1 := (Blk.new w 16 f 27).alloc (.cells (mk 16 fun _ => 0) 27)
  have K2 := Blk.new (w.alloc (.cells (mk 16 f) 27)) 16 (fun _ => 0) 27
  have HB := Lib.hid (((Below.refl w.heap.size w).alloc (Nat.le_refl _) (.cells (mk 16 f) 27)).alloc (by simp) (.cells (mk 16 fun _ => 0) 27))
  simp only [World.size_alloc] at K2
  by_cases hV : Vd f
  · have HV := Lib.hid hV
    by_cases hd : 0 ≤ d ∧ d ≤ 3
    · obtain ⟨y1, y2, y3, _⟩ := slide_yes (f := f) (d := d) ⟨HV.out, hd⟩
      rw [y1, y2, y3]
      clear y1 y2 y3
      obtain ⟨hd0, hd3⟩ := hd
      go_enter Try.func59, Try.ntmps59
      go_wp2_with ((with_reducible show wpList _ _ _ (Oper.mk _ (Op.load 27 _) _ _ _ _ :: _) _ _); refine loadB (K1) rfl rfl rfl ?_)
      refine (l2Board_yes _ _ hV).mono ?_
      rintro e w1 ⟨rfl, hb1⟩
      have k1 := K1.below hb1 K1.lt
      have k2 := K2.below hb1 K2.lt
      have HB1 : Hid (Below w.heap.size w w1) := HB.out.trans (hb1.mono HB.out.size)
      clear hb1 HB K1 K2 hV
      go_wp2_with fail
      refine (l2Side_yes _ _ hd0 hd3).mono ?_
      rintro e w2 ⟨rfl, rfl⟩
      go_wp2_with ((with_reducible show wpList _ _ _ (Oper.mk _ (Op.load 27 _) _ _ _ _ :: _) _ _); refine loadB (k1) rfl rfl rfl ?_)
      refine (l2Slide_any _ _ _ HV.out hd0 hd3).mono ?_
      rintro e w3 ⟨rfl, hb3⟩
      have k2 := k2.below hb3 k2.lt
      have HB3 : Hid (Below w.heap.size w w3) := HB1.out.trans (hb3.mono HB1.out.size)
      clear hb3 HB1 k1
      have l3 := k2.lt
      go_wp2_with (first | ((with_reducible show wpList _ _ _ (Oper.mk _ (Op.load 27 _) _ _ _ _ :: _) _ _); refine loadB (Blk.new _ _ _ _) rfl rfl rfl ?_) | ((with_reducible show wpList _ _ _ (Oper.mk _ (Op.store 27 _ _) _ _ _ _ :: _) _ _); refine storeB (k2.alloc _) rfl rfl rfl rfl ?_))
      try simp only [Exit.inBlock, Exit.then]
      exact retcttB ((k2.alloc _).row 16 _) rfl rfl rfl ⟨rfl, below_setRow (HB3.out.alloc HB3.out.size _) (by omega) _⟩
    · obtain ⟨y1, y2, y3, _⟩ := slide_no (f := f) (d := d) (fun h => hd h.2)
      rw [y1, y2, y3]
      clear y1 y2 y3
      have HD := Lib.hid (show d < 0 ∨ 3 < d by omega)
      clear hd
      go_enter Try.func59, Try.ntmps59
      go_wp2_with ((with_reducible show wpList _ _ _ (Oper.mk _ (Op.load 27 _) _ _ _ _ :: _) _ _); refine loadB (K1) rfl rfl rfl ?_)
      refine (l2Board_yes _ _ hV).mono ?_
      rintro e w1 ⟨rfl, hb1⟩
      have k1 := K1.below hb1 K1.lt
      have k2 := K2.below hb1 K2.lt
      have HB1 : Hid (Below w.heap.size w w1) := HB.out.trans (hb1.mono HB.out.size)
      clear hb1 HB K1 K2 hV
      go_wp2_with fail
      refine (l2Side_no _ _ HD.out).mono ?_
      rintro e w2 ⟨rfl, rfl⟩
      go_wp2_with ((with_reducible show wpList _ _ _ (Oper.mk _ (Op.store 27 _ _) _ _ _ _ :: _) _ _); refine storeB (k2) rfl rfl rfl rfl ?_)
      try simp only [Exit.inBlock, Exit.then]
      exact retcttB (k2.row 16 _) rfl rfl rfl ⟨rfl, below_setRow HB1.out (by omega) _⟩
  · obtain ⟨y1, y2, y3, _⟩ := slide_no (f := f) (d := d) (fun h => hV h.1)
    rw [y1, y2, y3]
    clear y1 y2 y3
    go_enter Try.func59, Try.ntmps59
    go_wp2_with ((with_reducible show wpList _ _ _ (Oper.mk _ (Op.load 27 _) _ _ _ _ :: _) _ _); refine loadB (K1) rfl rfl rfl ?_)
    refine (l2Board_no _ _ hV).mono ?_
    rintro e w1 ⟨rfl, hb1⟩
    have k2 := K2.below hb1 K2.lt
    have HB1 : Hid (Below w.heap.size w w1) := HB.out.trans (hb1.mono HB.out.size)
    clear hb1 HB K1 K2 hV
    go_wp2_with ((with_reducible show wpList _ _ _ (Oper.mk _ (Op.store 27 _ _) _ _ _ _ :: _) _ _); refine storeB (k2) rfl rfl rfl rfl ?_)
    try simp only [Exit.inBlock, Exit.then]
    exact retcttB (k2.row 16 _) rfl rfl rfl ⟨rfl, below_setRow HB1.out (by omega) _⟩
end Go.Proofs.Ytffonncbmddjgaa
