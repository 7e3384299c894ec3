/-
  The contracts of MovesOf and IsOver, in the reference and in the program, for every board.
-/
import Derived.Test.YtfjpdopljmilpaaRowsKit
import Derived.Test.YtfjpdopljmilpaaPlainA
namespace Go.Proofs.Ytfjpdopljmilpaa
open Go.RowKit Plain
attribute [local go_sem] store_new


theorem heldO_step {w W w6 : World} {b n : Nat} {f : Nat → Int} {t : TypeId} (h : Blk W b n f t ∧ Below w.heap.size w W) (hb : Below W.heap.size W w6) : Blk w6 b n f t ∧ Below w.heap.size w w6 :=
  ⟨h.1.below hb h.1.lt, h.2.trans (hb.mono h.2.size)⟩
theorem heldO_below {w W : World} {b n B : Nat} {f : Nat → Int} {t : TypeId} (h : Blk W b n f t ∧ Below B w W) : Below B w W := h.2
theorem fieldB0 (g : Nat → Int) (w : World) : (Instr.field 26 (.agg (mk 16 g)) 0).run Try.prog w = .ok (.agg (mk 16 g)) w := by kernel_rfl
theorem fieldS0 (g : Nat → Int) (w : World) : (Instr.field 210 (.agg (mk 18 g)) 0).run Try.prog w = .ok (.agg (mk 16 g)) w := by kernel_rfl
theorem isMv_of (f : Nat → Int) (d : Nat) : (!sameB (slideV f d) f) = isMv f d := by
  have e : ∀ j, j < 16 → slideV f d j = slideB f d j := by intro j hj; unfold slideV; rw [if_pos hj]
  have e2 : sameB (slideV f d) f = sameB (slideB f d) f := by
    rw [Bool.eq_iff_iff, sameB_iff, sameB_iff]
    constructor
    · intro h j hj; rw [← e j hj]; exact h j hj
    · intro h j hj; rw [e j hj]; exact h j hj
  unfold isMv
  rw [e2]

set_option maxHeartbeats 1000000 in
set_option maxRecDepth 20000 in
theorem isMove_any (f : Nat → Int) (d : Nat) (w : World) (hV : Vd f) (hd : d < 4) :
    Calls Try.prog 183 #[.agg (mk 16 f), .int .i64 d] w fun e w' => e = .returned (.bool (isMv f d)) ∧ Below w.heap.size w w' := by
  have K1 := Blk.new w 16 f 26
  have HB := Lib.hid ((Below.refl w.heap.size w).alloc (Nat.le_refl _) (.cells (mk 16 f) 26))
  have HV := Lib.hid hV
  have hd0 : (0 : Int) ≤ (d : Int) := by omega
  have hd3 : (d : Int) ≤ 3 := by omega
  have HQ := Lib.hid (isMv_of f d)
  clear hV hd
  go_enter Try.func183, Try.ntmps183
  go_wp2_with fail
  have a0 := fun (W : World) (h : Blk W w.heap.size 16 f 26) => h.cell (i := 0) (by omega)
  have a1 := fun (W : World) (h : Blk W w.heap.size 16 f 26) => h.cell (i := 1) (by omega)
  have a2 := fun (W : World) (h : Blk W w.heap.size 16 f 26) => h.cell (i := 2) (by omega)
  have a3 := fun (W : World) (h : Blk W w.heap.size 16 f 26) => h.cell (i := 3) (by omega)
  have a4 := fun (W : World) (h : Blk W w.heap.size 16 f 26) => h.cell (i := 4) (by omega)
  have a5 := fun (W : World) (h : Blk W w.heap.size 16 f 26) => h.cell (i := 5) (by omega)
  have a6 := fun (W : World) (h : Blk W w.heap.size 16 f 26) => h.cell (i := 6) (by omega)
  have a7 := fun (W : World) (h : Blk W w.heap.size 16 f 26) => h.cell (i := 7) (by omega)
  have a8 := fun (W : World) (h : Blk W w.heap.size 16 f 26) => h.cell (i := 8) (by omega)
  have a9 := fun (W : World) (h : Blk W w.heap.size 16 f 26) => h.cell (i := 9) (by omega)
  have a10 := fun (W : World) (h : Blk W w.heap.size 16 f 26) => h.cell (i := 10) (by omega)
  have a11 := fun (W : World) (h : Blk W w.heap.size 16 f 26) => h.cell (i := 11) (by omega)
  have a12 := fun (W : World) (h : Blk W w.heap.size 16 f 26) => h.cell (i := 12) (by omega)
  have a13 := fun (W : World) (h : Blk W w.heap.size 16 f 26) => h.cell (i := 13) (by omega)
  have a14 := fun (W : World) (h : Blk W w.heap.size 16 f 26) => h.cell (i := 14) (by omega)
  have a15 := fun (W : World) (h : Blk W w.heap.size 16 f 26) => h.cell (i := 15) (by omega)
  have ae : (#[.int .i64 (f 0), .int .i64 (f 1), .int .i64 (f 2), .int .i64 (f 3), .int .i64 (f 4), .int .i64 (f 5), .int .i64 (f 6), .int .i64 (f 7), .int .i64 (f 8), .int .i64 (f 9), .int .i64 (f 10), .int .i64 (f 11), .int .i64 (f 12), .int .i64 (f 13), .int .i64 (f 14), .int .i64 (f 15)] : Array Value) = mk 16 f := rfl
  have iS := fieldS0
  have iB := fieldB0
  have iN := neqG
  go_region_held3 (fun w' => Blk w' w.heap.size 16 f 26 ∧ Below w.heap.size w w') (first | exact ⟨K1.drew, HB.out.drew⟩ | assumption) (first | (go_at_call 222; refine (slideTo_nat f d _ HV.out hd0 hd3).mono ?_; rintro e w6 ⟨rfl, hb6⟩; have J := heldO_step (by assumption) hb6; clear hb6) | fail)
  all_goals
    clear a0 a1 a2 a3 a4 a5 a6 a7 a8 a9 a10 a11 a12 a13 a14 a15 ae iS iB iN
    go_wp2_with fail
    go_ret
    exact ⟨rfl, heldO_below (by assumption)⟩

set_option maxHeartbeats 1000000 in
set_option maxRecDepth 20000 in
theorem implMoves_any (f : Nat → Int) (w : World) :
    Calls Try.prog 58 #[.agg (mk 16 f)] w fun e w' => ∃ g cap, e = .returned (.tuple #[.slice (some ⟨g, 0, none⟩) (movR f).length cap, .bool (vdO f)]) ∧
      OwnsInts w' w.heap.size (.slice (some ⟨g, 0, none⟩) (movR f).length cap) (movR f) ∧ Below w.heap.size w w' := by
  obtain ⟨i0, hi, hz0, hz1, hz2⟩ := info_parts infoInt
  have K1 := Blk.new w 16 f 26
  have HB := Lib.hid ((Below.refl w.heap.size w).alloc (Nat.le_refl _) (.cells (mk 16 f) 26))
  by_cases hV : Vd f
  · rw [movR_yes hV, vdO_yes hV]
    go_enter Try.func58, Try.ntmps58
    go_wp2_with ((with_reducible show wpList _ _ _ (Oper.mk _ (Op.load 26 _) _ _ _ _ :: _) _ _); refine loadB (K1) rfl rfl rfl ?_)
    refine (implBoard_yes _ _ hV).mono ?_
    rintro e w1 ⟨rfl, hb⟩
    have K1 := (K1.below hb K1.lt).alloc (.cells #[] 3)
    have HB1 : Hid (Below w.heap.size w w1) := HB.out.trans (hb.mono HB.out.size)
    have HB2 : Hid (Below w.heap.size w (w1.alloc (.cells #[] 3))) := HB1.out.alloc HB1.out.size _
    have HO : OwnsInts (w1.alloc (.cells #[] 3)) (w.heap.size + 1) (.slice (some ⟨w1.heap.size, 0, none⟩) 0 0) [] :=
      World.ownsRow_made (base := w.heap.size + 1) (e := 3) (size := 1) w1 #[] 0 (by have := hb.size; simpa using this) (by decide) rfl
    have HV := Lib.hid hV
    clear hb HB hV HB1
    go_wp2_with fail
    generalize w1.alloc (.cells #[] 3) = w9 at *
    go_loopg [4, 11] 4 (fun g s4 s11 wr => ∃ (d : Nat) (v : Value), d + g = 4 ∧ s11 = .int .i64 d ∧ v = s4 ∧ (∃ gg cap, v = .slice (some ⟨gg, 0, none⟩) (movL f d).length cap) ∧ OwnsInts wr (w.heap.size + 1) v (movL f d) ∧ Blk wr w.heap.size 16 f 26 ∧ Hid (Below w.heap.size w wr))
    case atStart => exact ⟨0, _, by omega, rfl, rfl, ⟨_, _, rfl⟩, HO, K1, HB2⟩
    case round =>
      obtain ⟨d, v, hdg, rfl, rfl, hv, ho, k1, hb⟩ := hrel
      cases gk with
      | zero =>
        have hd : ¬ ((d : Int) < 4) := by omega
        obtain rfl : d = 4 := by omega
        clear hdg hd
        obtain ⟨gg, cap, rfl⟩ := hv
        go_wp2_with fail
        go_ret2
        exact ⟨gg, cap, rfl, ownsRow_wide ho (by omega), hb.out⟩
      | succ g =>
        have hd4 : (d : Int) < 4 := by omega
        go_wp2_with ((with_reducible show wpList _ _ _ (Oper.mk _ (Op.load 26 _) _ _ _ _ :: _) _ _); refine loadB (k1) rfl rfl rfl ?_)
        refine (isMove_any f d _ HV.out (by omega)).mono ?_
        rintro e w3 ⟨rfl, hb3⟩
        have k1 := k1.below hb3 k1.lt
        have ho0 : w3.ownsRow (w.heap.size + 1) 3 1 v (movL f d).length ((movL f d).map (Value.int .i64)) := owns_below ho hb3
        have HB3 : Hid (Below w.heap.size w w3) := hb.out.trans (hb3.mono hb.out.size)
        have hn := movL_le f d
        have hsz := HB3.out.size
        have hlt := k1.lt
        clear ho hb3 hb
        by_cases hm : isMv f d = true
        · have Y := Lib.hid (mov_yes hm)
          have hn4 : (movL f d).length ≤ 4 := by omega
          rw [hm]
          clear hm
          go_wp2_with (at_builtin; refine wpList_append_own _ rfl _ _ 76 rfl (w.heap.size + 1) 3 i0 (.int .i64 0) 1 8 Try.underlying76 hi hz0 hz1 hz2 rfl (by decide) _ _ _ rfl (ho0.alloc _) ⟨w3.heap.size, 0, none⟩ 1 1 [.int .i64 d] rfl rfl ?c1 ?c2 ?c3 ?c4 ?c5 ?_)
          case c1 => exact cell_one_new _ _ _
          case c2 => simp [Value.oneCell']
          case c3 => unfold maxLen; omega
          case c4 => omega
          case c5 => simp; omega
          intro v' w2 hown' hgrow' _
          obtain ⟨gg, cap, hv'⟩ := ownsRow_succ hown'
          have HV' : Hid (∃ gg cap, v' = .slice (some ⟨gg, 0, none⟩) ((movL f d).length + 1) cap) := ⟨gg, cap, hv'⟩
          have HB4 : Hid (Below w.heap.size w w2) := ((HB3.out).alloc HB3.out.size _).grown hgrow' (by simp; omega) (fun j hj => by have := (ho0.lt j hj).1; omega)
          have K2 := (k1.alloc (.cells #[.int .i64 d] 3)).grown hgrow' (fun e => by have := (ho0.lt _ e.symm).1; omega)
          have HO : Hid (OwnsInts w2 (w.heap.size + 1) v' (movL f d ++ [(d : Int)])) := by
            show OwnsInts _ _ _ _
            unfold OwnsInts
            rw [List.map_append, List.length_append]
            exact hown'
          clear hown' hgrow' ho0 hv' k1
          go_wp2_with fail
          go_roundg g
          case rel => exact ⟨d + 1, _, by omega, by go_num, rfl, by rw [Y.out, List.length_append]; exact HV'.out, by rw [Y.out]; exact HO.out, K2, HB4⟩
          case measure => omega
        · have hm : isMv f d = false := by simpa using hm
          have Y := Lib.hid (mov_no hm)
          rw [hm]
          clear hm
          go_wp2_with fail
          go_roundg g
          case rel => exact ⟨d + 1, _, by omega, by go_num, rfl, by rw [Y.out]; exact hv, by rw [Y.out]; exact ho0, k1, HB3⟩
          case measure => omega
  · rw [movR_no hV, vdO_no hV]
    go_enter Try.func58, Try.ntmps58
    go_wp2_with ((with_reducible show wpList _ _ _ (Oper.mk _ (Op.load 26 _) _ _ _ _ :: _) _ _); refine loadB (K1) rfl rfl rfl ?_)
    refine (implBoard_no _ _ hV).mono ?_
    rintro e w1 ⟨rfl, hb⟩
    have HB1 : Hid (Below w.heap.size w w1) := HB.out.trans (hb.mono HB.out.size)
    clear hb HB K1 hV
    have HO := Lib.hid (World.ownsRow_made (base := w.heap.size) (e := 3) (size := 1) w1 #[] 0 HB1.out.size (by decide) rfl)
    have HB2 : Hid (Below w.heap.size w (w1.alloc (.cells #[] 3))) := HB1.out.alloc HB1.out.size _
    go_wp2_with fail
    go_ret2
    exact ⟨_, _, rfl, HO.out, HB2.out⟩

set_option maxHeartbeats 1000000 in
set_option maxRecDepth 20000 in
theorem implOver_any (f : Nat → Int) (w : World) :
    Calls Try.prog 57 #[.agg (mk 16 f)] w fun e w' => e = .returned (.tuple #[.bool (overR f), .bool (vdO f)]) ∧ Below w.heap.size w w' := by
  have K1 := Blk.new w 16 f 26
  have HB := Lib.hid ((Below.refl w.heap.size w).alloc (Nat.le_refl _) (.cells (mk 16 f) 26))
  by_cases hV : Vd f
  · have HO : Hid ((((movL f 4).length : Int) == 0) = overR f) := by
      show _ = _
      by_cases h0 : (movL f 4).length = 0
      · rw [over_yes hV h0, h0]; rfl
      · rw [over_not h0]; simpa using h0
    have HM := Lib.hid (movR_yes hV)
    have HD := Lib.hid (vdO_yes hV)
    rw [vdO_yes hV]
    clear hV
    go_enter Try.func57, Try.ntmps57
    go_wp2_with ((with_reducible show wpList _ _ _ (Oper.mk _ (Op.load 26 _) _ _ _ _ :: _) _ _); refine loadB (K1) rfl rfl rfl ?_)
    refine (implMoves_any f _).mono ?_
    rintro e w1 ⟨g, cap, rfl, _, hb⟩
    have HB1 : Hid (Below w.heap.size w w1) := HB.out.trans (hb.mono HB.out.size)
    clear hb HB K1
    rw [HD.out, HM.out]
    go_wp2_with fail
    go_ret2
    exact ⟨by rw [← HO.out]; rfl, HB1.out⟩
  · have HM := Lib.hid (movR_no hV)
    have HD := Lib.hid (vdO_no hV)
    rw [over_no hV, vdO_no hV]
    clear hV
    go_enter Try.func57, Try.ntmps57
    go_wp2_with ((with_reducible show wpList _ _ _ (Oper.mk _ (Op.load 26 _) _ _ _ _ :: _) _ _); refine loadB (K1) rfl rfl rfl ?_)
    refine (implMoves_any f _).mono ?_
    rintro e w1 ⟨g, cap, rfl, _, hb⟩
    have HB1 : Hid (Below w.heap.size w w1) := HB.out.trans (hb.mono HB.out.size)
    clear hb HB K1
    rw [HD.out, HM.out]
    go_wp2_with fail
    go_ret2
    exact ⟨rfl, HB1.out⟩
end Go.Proofs.Ytfjpdopljmilpaa
