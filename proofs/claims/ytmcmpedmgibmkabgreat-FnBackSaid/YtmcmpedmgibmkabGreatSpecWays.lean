/-
  The contracts of CountBefore, WaysInto, SidesInto and IsMade in the reference, for every board and every direction.
-/
import Derived.Test.YtmcmpedmgibmkabGreatSpecLists
import Derived.Test.YtmcmpedmgibmkabGreatOver
namespace Go.Proofs.YtmcmpedmgibmkabGreat
open Go.RowKit Plain
attribute [local go_sem] store_new
set_option linter.unusedVariables false
set_option linter.unusedSimpArgs false

set_option maxHeartbeats 1000000 in
theorem l6Still_any (f : Nat → Int) (d : Nat) (w : World) (hV : Vd f) (hd : d < 4) :
    Calls Tryz.prog 64 #[.agg (mk 16 f), .int .i64 (d : Int)] w fun e w' => e = .returned (.bool (sameB (slideB f d) f)) ∧ Below w.heap.size w w' := by
  have z16 := zero16
  have K1 := Blk.new w 16 f 27
  have HB := Lib.hid ((Below.refl w.heap.size w).alloc (Nat.le_refl _) (.cells (mk 16 f) 27))
  have d0 : (0 : Int) ≤ (d : Int) := by omega
  have d3 : (d : Int) ≤ 3 := by omega
  go_enter Tryz.func64, Tryz.ntmps64
  go_wp2_with ((with_reducible show wpList _ _ _ (Oper.mk _ (Op.load 27 _) _ _ _ _ :: _) _ _); refine loadB (K1) rfl rfl rfl ?_)
  refine (l2Slide_nat f d _ hV d0 d3).mono ?_
  rintro e w2 ⟨rfl, hb⟩
  have K1 := (K1.below hb K1.lt).alloc (.cells (mk 16 (slideB f d)) 27)
  have K5 := Blk.new w2 16 (slideB f d) 27
  have HB : Hid (Below w.heap.size w (w2.alloc (.cells (mk 16 (slideB f d)) 27))) := (HB.out.trans (hb.mono HB.out.size)).alloc ((HB.out.trans (hb.mono HB.out.size)).size) _
  have iE : ∀ (f g : Nat → Int) (w : World), (Op.equalIn 10000 27 (.agg (mk 16 f)) (.agg (mk 16 g))).run Tryz.prog w = .ok (sameB f g) w := eqB 9996
  clear hb
  go_wp2_with (first | ((with_reducible show wpList _ _ _ (Oper.mk _ (Op.load 27 _) _ _ _ _ :: _) _ _); refine loadB (K1) rfl rfl rfl ?_) | ((with_reducible show wpList _ _ _ (Oper.mk _ (Op.load 27 _) _ _ _ _ :: _) _ _); refine loadB (K5) rfl rfl rfl ?_))
  go_ret
  exact ⟨rfl, HB.out⟩

theorem isMv_not (f : Nat → Int) (d : Nat) : sameB (slideB f d) f = !isMv f d := by unfold isMv; simp
theorem cnt_wrap (f : Nat → Int) (d : Nat) {i : Nat} (hi : i < 4) : IntKind.i64.wrap ((cntP f d i : Int) * ((lnR f d i).length : Int)) = (cntP f d (i + 1) : Int) := by
  have e : (cntP f d i : Int) * ((lnR f d i).length : Int) = (cntP f d (i + 1) : Int) := by rw [cntP]; exact (Int.natCast_mul _ _).symm
  rw [e]
  have := cntP_bd f d (i := i + 1) (by omega)
  exact IntWalk.i64_in _ (by omega)
theorem cnt_less (f : Nat → Int) (d : Nat) : IntKind.i64.wrap ((cntP f d 4 : Int) - 1) = (cntP f d 4 : Int) - 1 := by
  have := cntP_bd f d (i := 4) (by omega)
  exact IntWalk.i64_in _ (by omega)
set_option maxHeartbeats 1000000 in
set_option maxRecDepth 20000 in
theorem l6Count_any (f : Nat → Int) (d : Nat) (w : World) (hV : Vd f) (hd : d < 4) :
    Calls Tryz.prog 36 #[.agg (mk 16 f), .int .i64 (d : Int)] w fun e w' => e = .returned (.int .i64 (cntB f d)) ∧ Below w.heap.size w w' := by
  have zl := zeroL
  have K1 := Blk.new w 16 f 27
  have HB := Lib.hid ((Below.refl w.heap.size w).alloc (Nat.le_refl _) (.cells (mk 16 f) 27))
  have HV := Lib.hid hV
  have HD := Lib.hid hd
  have HC4 := Lib.hid (cnt_less f d)
  clear hV hd
  go_enter Tryz.func36, Tryz.ntmps36
  go_wp2_with ((with_reducible show wpList _ _ _ (Oper.mk _ (Op.load 27 _) _ _ _ _ :: _) _ _); refine loadB (K1) rfl rfl rfl ?_)
  refine (l6Lists_any f d _ HV.out HD.out).mono ?_
  rintro e w2 ⟨v, rfl, hl, hb⟩
  have K1 := (K1.below hb K1.lt).alloc (.cells (vk 4 fun _ => .slice none 0 0) 65)
  have K5 := Oth.new w2 (vk 4 fun _ => .slice none 0 0) 65
  have HB : Hid (Below w.heap.size w (w2.alloc (.cells (vk 4 fun _ => .slice none 0 0) 65))) := (HB.out.trans (hb.mono HB.out.size)).alloc ((HB.out.trans (hb.mono HB.out.size)).size) _
  have HL : Hid (∀ i, i < 4 → ∃ g c, v i = .slice (some ⟨g, 0, none⟩) (lnR f d i).length c) := fun i hi => by obtain ⟨g, c, h, _⟩ := hl i hi; exact ⟨g, c, h⟩
  have H1 := Lib.hid (listsOne hl)
  have hz : w.heap.size < w2.heap.size := by have := hb.size; simp at this; omega
  clear hl hb
  have hlt := K1.lt
  go_wp2_with ((with_reducible show wpList _ _ _ (Oper.mk _ (Op.store 65 _ _) _ _ _ _ :: _) _ _); refine wpl_store_vk rfl _ _ _ rfl rfl rfl K5 sizeLL H1.out ?_)
  have K1 := K1.rowOther w2.heap.size (vk 4 v) (by omega)
  have HB := Lib.hid (below_setRow HB.out (show w.heap.size ≤ w2.heap.size by omega) (vk 4 v))
  have K5 := K5.row (vk 4 v)
  generalize World.setRow _ w2.heap.size (vk 4 v) = w3 at *
  go_loopg [6, 7] 4 (fun gk s6 s7 wr => ∃ i : Nat, i + gk = 4 ∧ s7 = .int .i64 i ∧ s6 = .int .i64 (cntP f d i : Int) ∧ w3 = wr)
  case atStart => exact ⟨0, by omega, rfl, rfl, rfl⟩
  case round =>
    obtain ⟨i, hig, rfl, rfl, rfl⟩ := hrel
    cases gk with
    | zero =>
      have hi : ¬ ((i : Int) < 4) := by omega
      obtain rfl : i = 4 := by omega
      clear hi hig
      go_wp2_with ((with_reducible show wpList _ _ _ (Oper.mk _ (Op.load 27 _) _ _ _ _ :: _) _ _); refine loadB (K1) rfl rfl rfl ?_)
      refine (l6Still_any f d _ HV.out HD.out).mono ?_
      rintro e w4 ⟨rfl, hb⟩
      have HB : Hid (Below w.heap.size w w4) := HB.out.trans (hb.mono HB.out.size)
      clear hb
      rw [isMv_not]
      cases hm : isMv f d with
      | true =>
        have HE := Lib.hid (cntB_yes hm)
        clear hm
        go_wp2_with fail
        go_ret
        exact ⟨by rw [HE.out]; rfl, HB.out⟩
      | false =>
        have HE := Lib.hid (cntB_no hm)
        have hw := HC4.out
        clear hm
        go_wp2_with fail
        go_ret
        exact ⟨by rw [HE.out]; rfl, HB.out⟩
    | succ g =>
      have hi4 : (i : Int) < 4 := by omega
      have hi0 : (0 : Int) ≤ (i : Int) := by omega
      have hi9 : i < 4 := by omega
      obtain ⟨gl, cl0, hv⟩ := HL.out i hi9
      have c5 := K5.get (i := i) hi9
      rw [hv] at c5
      have hw := cnt_wrap f d hi9
      clear hv
      obtain ⟨p1, hp1⟩ : ∃ p : Int, p = (cntP f d (i + 1) : Int) := ⟨_, rfl⟩
      rw [← hp1] at hw
      have HP := Lib.hid hp1
      clear hp1
      go_wp2_with fail
      go_roundg g
      case rel => exact ⟨i + 1, by omega, by go_num, by rw [HP.out], rfl⟩
      case measure => omega

set_option maxHeartbeats 400000 in
theorem specCountB_any (f : Nat → Int) (d : Int) (w : World) :
    Calls Tryz.prog 9 #[.agg (mk 16 f), .int .i64 d] w fun e w' => e = .returned (.tuple #[.int .i64 (cbR f d), .bool (slideRO f d)]) ∧ Below w.heap.size w w' := by
  have K1 := Blk.new w 16 f 27
  have HB := Lib.hid ((Below.refl w.heap.size w).alloc (Nat.le_refl _) (.cells (mk 16 f) 27))
  by_cases hV : Vd f
  · by_cases hd : 0 ≤ d ∧ d ≤ 3
    · rw [cbR_yes ⟨hV, hd⟩, (slide_yes ⟨hV, hd⟩).1]
      obtain ⟨k, rfl⟩ := Int.eq_ofNat_of_zero_le hd.1
      have HV := Lib.hid hV
      have HK : Hid (k < 4) := by show _ < _; omega
      have d0 : (0 : Int) ≤ (k : Int) := by omega
      have d3 : (k : Int) ≤ 3 := by omega
      clear hV hd
      rw [Int.toNat_natCast]
      go_enter Tryz.func9, Tryz.ntmps9
      go_wp2_with ((with_reducible show wpList _ _ _ (Oper.mk _ (Op.load 27 _) _ _ _ _ :: _) _ _); refine loadB (K1) rfl rfl rfl ?_)
      refine (l2Board_yes _ _ HV.out).mono ?_
      rintro e w1 ⟨rfl, hb⟩
      have K1 := K1.below hb K1.lt
      have HB : Hid (Below w.heap.size w w1) := HB.out.trans (hb.mono HB.out.size)
      clear hb
      go_wp2_with fail
      refine (l2Side_yes _ _ d0 d3).mono ?_
      rintro e w' ⟨rfl, rfl⟩
      go_wp2_with ((with_reducible show wpList _ _ _ (Oper.mk _ (Op.load 27 _) _ _ _ _ :: _) _ _); refine loadB (K1) rfl rfl rfl ?_)
      refine (l6Count_any f k _ HV.out HK.out).mono ?_
      rintro e w2 ⟨rfl, hb⟩
      have HB : Hid (Below w.heap.size w w2) := HB.out.trans (hb.mono HB.out.size)
      clear hb
      go_wp2_with fail
      go_ret2
      exact ⟨rfl, HB.out⟩
    · rw [cbR_no (fun h => hd h.2), (slide_no (fun h => hd h.2)).1]
      have HV := Lib.hid hV
      have HD := Lib.hid (show d < 0 ∨ 3 < d by omega)
      clear hV hd
      go_enter Tryz.func9, Tryz.ntmps9
      go_wp2_with ((with_reducible show wpList _ _ _ (Oper.mk _ (Op.load 27 _) _ _ _ _ :: _) _ _); refine loadB (K1) rfl rfl rfl ?_)
      refine (l2Board_yes _ _ HV.out).mono ?_
      rintro e w1 ⟨rfl, hb⟩
      have HB : Hid (Below w.heap.size w w1) := HB.out.trans (hb.mono HB.out.size)
      clear hb
      go_wp2_with fail
      refine (l2Side_no _ _ HD.out).mono ?_
      rintro e w' ⟨rfl, rfl⟩
      go_wp2_with fail
      go_ret2
      exact ⟨rfl, HB.out⟩
  · rw [cbR_no (fun h => hV h.1), (slide_no (fun h => hV h.1)).1]
    go_enter Tryz.func9, Tryz.ntmps9
    go_wp2_with ((with_reducible show wpList _ _ _ (Oper.mk _ (Op.load 27 _) _ _ _ _ :: _) _ _); refine loadB (K1) rfl rfl rfl ?_)
    refine (l2Board_no _ _ hV).mono ?_
    rintro e w1 ⟨rfl, hb⟩
    have HB : Hid (Below w.heap.size w w1) := HB.out.trans (hb.mono HB.out.size)
    clear hb
    go_wp2_with fail
    go_ret2
    exact ⟨rfl, HB.out⟩

set_option maxHeartbeats 1000000 in
set_option maxRecDepth 20000 in
theorem l6Sides_any (f : Nat → Int) (w : World) (hV : Vd f) :
    Calls Tryz.prog 42 #[.agg (mk 16 f)] w fun e w' => ∃ g cap, e = .returned (.slice (some ⟨g, 0, none⟩) (siR f).length cap) ∧
      OwnsInts w' w.heap.size (.slice (some ⟨g, 0, none⟩) (siR f).length cap) (siR f) ∧ Below w.heap.size w w' := by
  rw [siR_yes hV]
  obtain ⟨i0, hi, hz0, hz1, hz2⟩ := info_parts infoInt
  have HV := Lib.hid hV
  clear hV
  have K1 := (Blk.new w 16 f 27).alloc (.cells #[] 3)
  have HB := Lib.hid (((Below.refl w.heap.size w).alloc (Nat.le_refl _) (.cells (mk 16 f) 27)).alloc (by simp) (.cells #[] 3))
  have HO : OwnsInts ((w.alloc (.cells (mk 16 f) 27)).alloc (.cells #[] 3)) (w.heap.size + 1) (.slice (some ⟨w.heap.size + 1, 0, none⟩) 0 0) [] := by
    have := World.ownsRow_made (base := w.heap.size + 1) (e := 3) (size := 1) (w.alloc (.cells (mk 16 f) 27)) #[] 0 (by simp) (by decide) rfl
    simp only [World.size_alloc] at this
    exact this
  go_enter Tryz.func42, Tryz.ntmps42
  go_wp2_with fail
  go_loopg [3, 4] 4 (fun g s3 s4 wr => ∃ (d : Nat) (v : Value), d + g = 4 ∧ s4 = .int .i64 d ∧ v = s3 ∧ (∃ gg cap, v = .slice (some ⟨gg, 0, none⟩) (sdW (fun d => cntB f d) d).length cap) ∧ OwnsInts wr (w.heap.size + 1) v (sdW (fun d => cntB f d) d) ∧ Blk wr w.heap.size 16 f 27 ∧ Hid (Below w.heap.size w wr))
  case atStart => exact ⟨0, _, by omega, rfl, rfl, ⟨_, _, rfl⟩, HO, K1, HB⟩
  case round =>
    obtain ⟨d, v, hdg, rfl, rfl, hv, ho, k1, hb⟩ := hrel
    cases gk with
    | zero =>
      have hd : ¬ ((d : Int) < 4) := by omega
      obtain rfl : d = 4 := by omega
      clear hdg hd
      obtain ⟨gg, cap, rfl⟩ := hv
      go_wp2_with fail
      go_ret
      exact ⟨gg, cap, rfl, ownsRow_wide ho (by omega), hb.out⟩
    | succ g =>
      have hd4 : (d : Int) < 4 := by omega
      have hd9 : d < 4 := by omega
      go_wp2_with ((with_reducible show wpList _ _ _ (Oper.mk _ (Op.load 27 _) _ _ _ _ :: _) _ _); refine loadB (k1) rfl rfl rfl ?_)
      refine (l6Count_any f d _ HV.out hd9).mono ?_
      rintro e w3 ⟨rfl, hb3⟩
      have k1 := k1.below hb3 k1.lt
      have ho0 : w3.ownsRow (w.heap.size + 1) 3 1 v (sdW (fun d => cntB f d) d).length ((sdW (fun d => cntB f d) d).map (Value.int .i64)) := owns_below ho hb3
      have HB3 : Hid (Below w.heap.size w w3) := hb.out.trans (hb3.mono hb.out.size)
      have hn := sdW_len (fun d => cntB f d) d
      have hsz := HB3.out.size
      have hlt := k1.lt
      clear ho hb3 hb
      by_cases hm : 0 < cntB f d
      · have Y := Lib.hid (sdW_yes (v := fun d => cntB f d) hm)
        have hn4 : (sdW (fun d => cntB f d) d).length ≤ 4 := by omega
        generalize cntB f d = q at hm
        go_wp2_with (at_builtin; refine wpList_append_own _ rfl _ _ 35 rfl (w.heap.size + 1) 3 i0 (.int .i64 0) 1 8 Tryz.underlying35 hi hz0 hz1 hz2 rfl (by decide) _ _ _ rfl (ho0.alloc _) ⟨w3.heap.size, 0, none⟩ 1 1 [.int .i64 d] rfl rfl ?c1 ?c2 ?c3 ?c4 ?c5 ?_)
        case c1 => exact cell_one_new _ _ _
        case c2 => simp [Value.oneCell']
        case c3 => unfold maxLen; omega
        case c4 => omega
        case c5 => simp; omega
        intro v' w2 hown' hgrow' _
        obtain ⟨gg, cap, hv'⟩ := ownsRow_succ hown'
        have HV' : Hid (∃ gg cap, v' = .slice (some ⟨gg, 0, none⟩) ((sdW (fun d => cntB f d) d).length + 1) cap) := ⟨gg, cap, hv'⟩
        have HB4 : Hid (Below w.heap.size w w2) := ((HB3.out).alloc HB3.out.size _).grown hgrow' (by simp; omega) (fun j hj => by have := (ho0.lt j hj).1; omega)
        have K2 := (k1.alloc (.cells #[.int .i64 d] 3)).grown hgrow' (fun e => by have := (ho0.lt _ e.symm).1; omega)
        have HO : Hid (OwnsInts w2 (w.heap.size + 1) v' (sdW (fun d => cntB f d) d ++ [(d : Int)])) := by
          show OwnsInts _ _ _ _
          unfold OwnsInts
          rw [List.map_append, List.length_append]
          exact hown'
        clear hown' hgrow' ho0 hv' k1
        go_wp2_with fail
        go_roundg g
        case rel => exact ⟨d + 1, _, by omega, by go_num, rfl, by rw [Y.out, List.length_append]; exact HV'.out, by rw [Y.out]; exact HO.out, K2, HB4⟩
        case measure => omega
      · have Y := Lib.hid (sdW_no (v := fun d => cntB f d) hm)
        generalize cntB f d = q at hm
        have hm2 : q ≤ 0 := by omega
        go_wp2_with fail
        go_roundg g
        case rel => exact ⟨d + 1, _, by omega, by go_num, rfl, by rw [Y.out]; exact hv, by rw [Y.out]; exact ho0, k1, HB3⟩
        case measure => omega

set_option maxHeartbeats 400000 in
theorem specSides_any (f : Nat → Int) (w : World) :
    Calls Tryz.prog 11 #[.agg (mk 16 f)] w fun e w' => ∃ g cap, e = .returned (.tuple #[.slice (some ⟨g, 0, none⟩) (siR f).length cap, .bool (vdO f)]) ∧
      OwnsInts w' w.heap.size (.slice (some ⟨g, 0, none⟩) (siR f).length cap) (siR f) ∧ Below w.heap.size w w' := by
  have K1 := Blk.new w 16 f 27
  have HB := Lib.hid ((Below.refl w.heap.size w).alloc (Nat.le_refl _) (.cells (mk 16 f) 27))
  by_cases hV : Vd f
  · rw [vdO_yes hV]
    go_enter Tryz.func11, Tryz.ntmps11
    go_wp2_with ((with_reducible show wpList _ _ _ (Oper.mk _ (Op.load 27 _) _ _ _ _ :: _) _ _); refine loadB (K1) rfl rfl rfl ?_)
    refine (l2Board_yes _ _ hV).mono ?_
    rintro e w1 ⟨rfl, hb⟩
    have k1 := K1.below hb K1.lt
    have HB1 : Hid (Below w.heap.size w w1) := HB.out.trans (hb.mono HB.out.size)
    have HV := Lib.hid hV
    clear hb HB K1 hV
    go_wp2_with ((with_reducible show wpList _ _ _ (Oper.mk _ (Op.load 27 _) _ _ _ _ :: _) _ _); refine loadB (k1) rfl rfl rfl ?_)
    refine (l6Sides_any f _ HV.out).mono ?_
    rintro e w2 ⟨g, cap, rfl, ho, hb⟩
    have HB2 : Hid (Below w.heap.size w w2) := HB1.out.trans (hb.mono HB1.out.size)
    have HO := Lib.hid (ownsRow_wide ho HB1.out.size)
    clear hb ho HB1
    go_wp2_with fail
    go_ret2
    exact ⟨g, cap, rfl, HO.out, HB2.out⟩
  · rw [siR_no hV, vdO_no hV]
    go_enter Tryz.func11, Tryz.ntmps11
    go_wp2_with ((with_reducible show wpList _ _ _ (Oper.mk _ (Op.load 27 _) _ _ _ _ :: _) _ _); refine loadB (K1) rfl rfl rfl ?_)
    refine (l2Board_no _ _ hV).mono ?_
    rintro e w1 ⟨rfl, hb⟩
    have HB1 : Hid (Below w.heap.size w w1) := HB.out.trans (hb.mono HB.out.size)
    clear hb HB K1 hV
    have HO := Lib.hid (World.ownsRow_made (base := w.heap.size) (e := 3) (size := 1) w1 #[] 0 HB1.out.size (by decide) rfl)
    have HB2 : Hid (Below w.heap.size w (w1.alloc (.cells #[] 3))) := HB1.out.alloc HB1.out.size _
    go_wp2_with fail
    go_ret2
    exact ⟨_, _, rfl, HO.out, HB2.out⟩

set_option maxHeartbeats 400000 in
theorem specMade_any (f : Nat → Int) (w : World) :
    Calls Tryz.prog 15 #[.agg (mk 16 f)] w fun e w' => e = .returned (.tuple #[.bool (mdR f), .bool (vdO f)]) ∧ Below w.heap.size w w' := by
  have K1 := Blk.new w 16 f 27
  have HB := Lib.hid ((Below.refl w.heap.size w).alloc (Nat.le_refl _) (.cells (mk 16 f) 27))
  by_cases hV : Vd f
  · rw [vdO_yes hV]
    go_enter Tryz.func15, Tryz.ntmps15
    go_wp2_with ((with_reducible show wpList _ _ _ (Oper.mk _ (Op.load 27 _) _ _ _ _ :: _) _ _); refine loadB (K1) rfl rfl rfl ?_)
    refine (l2Board_yes _ _ hV).mono ?_
    rintro e w1 ⟨rfl, hb⟩
    have k1 := K1.below hb K1.lt
    have HB1 : Hid (Below w.heap.size w w1) := HB.out.trans (hb.mono HB.out.size)
    have HV := Lib.hid hV
    clear hb HB K1 hV
    go_wp2_with ((with_reducible show wpList _ _ _ (Oper.mk _ (Op.load 27 _) _ _ _ _ :: _) _ _); refine loadB (k1) rfl rfl rfl ?_)
    refine (l6Sides_any f _ HV.out).mono ?_
    rintro e w2 ⟨g, cap, rfl, ho, hb⟩
    have HB2 : Hid (Below w.heap.size w w2) := HB1.out.trans (hb.mono HB1.out.size)
    have hI := mdR_int f
    clear hb ho HB1
    generalize (siR f).length = n at *
    go_wp2_with fail
    go_ret2
    exact ⟨rfl, HB2.out⟩
  · rw [mdR_no hV, vdO_no hV]
    go_enter Tryz.func15, Tryz.ntmps15
    go_wp2_with ((with_reducible show wpList _ _ _ (Oper.mk _ (Op.load 27 _) _ _ _ _ :: _) _ _); refine loadB (K1) rfl rfl rfl ?_)
    refine (l2Board_no _ _ hV).mono ?_
    rintro e w1 ⟨rfl, hb⟩
    have HB1 : Hid (Below w.heap.size w w1) := HB.out.trans (hb.mono HB.out.size)
    clear hb HB K1 hV
    go_wp2_with fail
    go_ret2
    exact ⟨rfl, HB1.out⟩

set_option maxHeartbeats 1000000 in
theorem specWays_any (f : Nat → Int) (w : World) :
    Calls Tryz.prog 17 #[.agg (mk 16 f)] w fun e w' => e = .returned (.tuple #[.agg (mk 4 (wyR f)), .bool (vdO f)]) ∧ Below w.heap.size w w' := by
  have z4 := zero4
  have K1 := ((Blk.new w 16 f 27).alloc (.cells (mk 4 fun _ => 0) 24)).alloc (.cells (mk 4 fun _ => 0) 24)
  have K2 := (Blk.new (w.alloc (.cells (mk 16 f) 27)) 4 (fun _ => 0) 24).alloc (.cells (mk 4 fun _ => 0) 24)
  have K3 := Blk.new ((w.alloc (.cells (mk 16 f) 27)).alloc (.cells (mk 4 fun _ => 0) 24)) 4 (fun _ => 0) 24
  have HB := Lib.hid ((((Below.refl w.heap.size w).alloc (Nat.le_refl _) (.cells (mk 16 f) 27)).alloc (by simp) (.cells (mk 4 fun _ => 0) 24)).alloc (by simp; omega) (.cells (mk 4 fun _ => 0) 24))
  simp only [World.size_alloc] at K2 K3
  by_cases hV : Vd f
  · rw [wyR_yes hV, vdO_yes hV]
    have HV := Lib.hid hV
    clear hV
    go_enter Tryz.func17, Tryz.ntmps17
    go_wp2_with ((with_reducible show wpList _ _ _ (Oper.mk _ (Op.load 27 _) _ _ _ _ :: _) _ _); refine loadB (K1) rfl rfl rfl ?_)
    refine (l2Board_yes _ _ HV.out).mono ?_
    rintro e w1 ⟨rfl, hb⟩
    have K1 := K1.below hb K1.lt
    have K2 := K2.below hb K2.lt
    have K3 := K3.below hb K3.lt
    have HB : Hid (Below w.heap.size w w1) := HB.out.trans (hb.mono HB.out.size)
    clear hb
    go_wp2_with fail
    go_loopg [5] 4 (fun g s5 wr => ∃ d : Nat, d + g = 4 ∧ s5 = .int .i64 d ∧ Blk wr w.heap.size 16 f 27 ∧ Blk wr (w.heap.size + 1) 4 (fun _ => 0) 24 ∧ Blk wr (w.heap.size + 1 + 1) 4 (upto (fun d => cntB f d) d) 24 ∧ Hid (Below w.heap.size w wr))
    case atStart => exact ⟨0, by omega, rfl, K1, K2, K3.congr fun j _ => (upto_zero _ j).symm, HB⟩
    case round =>
      clear K1 K2 K3 HB
      obtain ⟨d, hdg, rfl, K1, K2, K3, HB⟩ := hrel
      cases gk with
      | zero =>
        have hd : ¬ ((d : Int) < 4) := by omega
        obtain rfl : d = 4 := by omega
        have K3 := K3.congr (g := fun d => cntB f d) fun j hj => upto_all hj
        go_wp2_with (first | ((with_reducible show wpList _ _ _ (Oper.mk _ (Op.load 24 _) _ _ _ _ :: _) _ _); refine loadR (K3) rfl rfl rfl ?_) | ((with_reducible show wpList _ _ _ (Oper.mk _ (Op.store 24 _ _) _ _ _ _ :: _) _ _); refine storeR (K2) rfl rfl rfl rfl ?_))
        try simp only [Exit.inBlock, Exit.then]
        exact retctR (K2.row 4 _) rfl rfl rfl ⟨rfl, below_setRow HB.out (by omega) _⟩
      | succ g =>
        have hd4 : (d : Int) < 4 := by omega
        have hd0 : (0 : Int) ≤ (d : Int) := by omega
        have hd9 : d < 4 := by omega
        go_wp2_with ((with_reducible show wpList _ _ _ (Oper.mk _ (Op.load 27 _) _ _ _ _ :: _) _ _); refine loadB (K1) rfl rfl rfl ?_)
        refine (l6Count_any f d _ HV.out hd9).mono ?_
        rintro e w3 ⟨rfl, hb3⟩
        have hsz := HB.out.size
        have K1 := K1.below hb3 K1.lt
        have K2 := K2.below hb3 K2.lt
        have K3 := K3.below hb3 K3.lt
        have HB : Hid (Below w.heap.size w w3) := HB.out.trans (hb3.mono HB.out.size)
        have q3 := K3.cell (i := d) hd9
        have f3 := K3.free d
        clear hb3
        go_wp2_with fail
        go_roundg g
        case rel => exact ⟨d + 1, by omega, by go_num, K1.setOther _ _ (by dsimp only; omega), K2.setOther _ _ (by dsimp only; omega), (K3.set hd9 _).congr fun j _ => upto_step (fun d => cntB f d) d j, HB.out.setCell (by dsimp only; omega) _⟩
        case measure => omega
  · rw [wyR_no hV, vdO_no hV]
    go_enter Tryz.func17, Tryz.ntmps17
    go_wp2_with ((with_reducible show wpList _ _ _ (Oper.mk _ (Op.load 27 _) _ _ _ _ :: _) _ _); refine loadB (K1) rfl rfl rfl ?_)
    refine (l2Board_no _ _ hV).mono ?_
    rintro e w1 ⟨rfl, hb⟩
    have K2 := K2.below hb K2.lt
    have K3 := K3.below hb K3.lt
    have HB : Hid (Below w.heap.size w w1) := HB.out.trans (hb.mono HB.out.size)
    clear hb hV
    go_wp2_with (first | ((with_reducible show wpList _ _ _ (Oper.mk _ (Op.load 24 _) _ _ _ _ :: _) _ _); refine loadR (K3) rfl rfl rfl ?_) | ((with_reducible show wpList _ _ _ (Oper.mk _ (Op.store 24 _ _) _ _ _ _ :: _) _ _); refine storeR (K2) rfl rfl rfl rfl ?_))
    try simp only [Exit.inBlock, Exit.then]
    exact retctR (K2.row 4 _) rfl rfl rfl ⟨rfl, below_setRow HB.out (by omega) _⟩
end Go.Proofs.YtmcmpedmgibmkabGreat
