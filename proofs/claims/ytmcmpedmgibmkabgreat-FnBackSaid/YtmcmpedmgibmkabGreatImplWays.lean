/-
  The contracts of CountBefore, WaysInto, SidesInto and IsMade in the program, for every board and every direction.
-/
import Derived.Test.YtmcmpedmgibmkabGreatSpecWays
import Derived.Test.YtmcmpedmgibmkabGreatImplLists
namespace Go.Proofs.YtmcmpedmgibmkabGreat
open Go.RowKit Plain
attribute [local go_sem] store_new
set_option linter.unusedVariables false
set_option linter.unusedSimpArgs false

theorem idxLists (v : Nat → Value) (k : Nat) (hk : k < 4) (w : World) : (Instr.index 65 (.agg (vk 4 v)) (.int .i64 (k : Int))).run Tryz.prog w = .ok (v k) w :=
  run_index_one Tryz.underlying65 Tryz.underlying64 rfl sizeLS v hk w
set_option maxHeartbeats 1000000 in
set_option maxRecDepth 20000 in
theorem implCountB_any (f : Nat → Int) (d : Int) (w : World) :
    Calls Tryz.prog 8 #[.agg (mk 16 f), .int .i64 d] w fun e w' => e = .returned (.tuple #[.int .i64 (cbR f d), .bool (slideRO f d)]) ∧ Below w.heap.size w w' := by
  have K1 := Blk.new w 16 f 27
  have HB := Lib.hid ((Below.refl w.heap.size w).alloc (Nat.le_refl _) (.cells (mk 16 f) 27))
  by_cases hV : Vd f
  · by_cases hd : 0 ≤ d ∧ d ≤ 3
    · rw [cbR_yes ⟨hV, hd⟩, (slide_yes ⟨hV, hd⟩).1]
      obtain ⟨k, rfl⟩ := Int.eq_ofNat_of_zero_le hd.1
      have HV := Lib.hid hV
      have HK : Hid (k < 4) := by show _ < _; omega
      have d0 : (0 : Int) ≤ (k : Int) := by omega
      have d3 : (k : Int) ≤ 3 := by omega
      clear hV hd
      rw [Int.toNat_natCast]
      go_enter Tryz.func8, Tryz.ntmps8
      go_wp2_with ((with_reducible show wpList _ _ _ (Oper.mk _ (Op.load 27 _) _ _ _ _ :: _) _ _); refine loadB (K1) rfl rfl rfl ?_)
      refine (implBoard_yes _ _ HV.out).mono ?_
      rintro e w1 ⟨rfl, hb⟩
      have K1 := K1.below hb K1.lt
      have HB : Hid (Below w.heap.size w w1) := HB.out.trans (hb.mono HB.out.size)
      clear hb
      go_wp2_with fail
      refine (isDirection_yes _ _ d0 d3).mono ?_
      rintro e w' ⟨rfl, rfl⟩
      have HC4 := Lib.hid (cnt_less f k)
      go_wp2_with ((with_reducible show wpList _ _ _ (Oper.mk _ (Op.load 27 _) _ _ _ _ :: _) _ _); refine loadB (K1) rfl rfl rfl ?_)
      refine (linesBefore_any f k _ HV.out HK.out).mono ?_
      rintro e w2 ⟨v, rfl, hl, hb⟩
      have K1 := K1.below hb K1.lt
      have HB : Hid (Below w.heap.size w w2) := HB.out.trans (hb.mono HB.out.size)
      have HL : Hid (∀ i, i < 4 → ∃ g c, v i = .slice (some ⟨g, 0, none⟩) (lnR f k i).length c) := fun i hi => by obtain ⟨g, c, h, _⟩ := hl i hi; exact ⟨g, c, h⟩
      clear hl hb
      go_wp2_with fail
      go_loopg [6, 20] 4 (fun gk s6 s20 wr => ∃ i : Nat, i + gk = 4 ∧ s20 = .int .i64 i ∧ s6 = .int .i64 (cntP f k i : Int) ∧ w2 = wr)
      case atStart => exact ⟨0, by omega, rfl, rfl, rfl⟩
      case round =>
        obtain ⟨i, hig, rfl, rfl, rfl⟩ := hrel
        cases gk with
        | zero =>
          have hi : ¬ ((i : Int) < 4) := by omega
          obtain rfl : i = 4 := by omega
          clear hi hig
          go_wp2_with ((with_reducible show wpList _ _ _ (Oper.mk _ (Op.load 27 _) _ _ _ _ :: _) _ _); refine loadB (K1) rfl rfl rfl ?_)
          refine (isMove_any f k _ HV.out HK.out).mono ?_
          rintro e w4 ⟨rfl, hb⟩
          have HB : Hid (Below w.heap.size w w4) := HB.out.trans (hb.mono HB.out.size)
          clear hb
          cases hm : isMv f k with
          | true =>
            have HE := Lib.hid (cntB_yes hm)
            clear hm
            go_wp2_with fail
            go_ret2
            exact ⟨by rw [HE.out]; rfl, HB.out⟩
          | false =>
            have HE := Lib.hid (cntB_no hm)
            have hw := HC4.out
            clear hm
            go_wp2_with fail
            go_ret2
            exact ⟨by rw [HE.out]; rfl, HB.out⟩
        | succ g =>
          have hi4 : (i : Int) < 4 := by omega
          have hi0 : (0 : Int) ≤ (i : Int) := by omega
          have hi9 : i < 4 := by omega
          obtain ⟨gl, cl0, hv⟩ := HL.out i hi9
          have iL := fun W => idxLists v i hi9 W
          rw [hv] at iL
          have hw := cnt_wrap f k hi9
          clear hv
          obtain ⟨p1, hp1⟩ : ∃ p : Int, p = (cntP f k (i + 1) : Int) := ⟨_, rfl⟩
          rw [← hp1] at hw
          have HP := Lib.hid hp1
          clear hp1
          go_wp2_with fail
          go_roundg g
          case rel => exact ⟨i + 1, by omega, by go_num, by rw [HP.out], rfl⟩
          case measure => omega
    · rw [cbR_no (fun h => hd h.2), (slide_no (fun h => hd h.2)).1]
      have HV := Lib.hid hV
      have HD := Lib.hid (show d < 0 ∨ 3 < d by omega)
      clear hV hd
      go_enter Tryz.func8, Tryz.ntmps8
      go_wp2_with ((with_reducible show wpList _ _ _ (Oper.mk _ (Op.load 27 _) _ _ _ _ :: _) _ _); refine loadB (K1) rfl rfl rfl ?_)
      refine (implBoard_yes _ _ HV.out).mono ?_
      rintro e w1 ⟨rfl, hb⟩
      have HB : Hid (Below w.heap.size w w1) := HB.out.trans (hb.mono HB.out.size)
      clear hb
      go_wp2_with fail
      refine (isDirection_no _ _ HD.out).mono ?_
      rintro e w' ⟨rfl, rfl⟩
      go_wp2_with fail
      go_ret2
      exact ⟨rfl, HB.out⟩
  · rw [cbR_no (fun h => hV h.1), (slide_no (fun h => hV h.1)).1]
    go_enter Tryz.func8, Tryz.ntmps8
    go_wp2_with ((with_reducible show wpList _ _ _ (Oper.mk _ (Op.load 27 _) _ _ _ _ :: _) _ _); refine loadB (K1) rfl rfl rfl ?_)
    refine (implBoard_no _ _ hV).mono ?_
    rintro e w1 ⟨rfl, hb⟩
    have HB : Hid (Below w.heap.size w w1) := HB.out.trans (hb.mono HB.out.size)
    clear hb
    go_wp2_with fail
    go_ret2
    exact ⟨rfl, HB.out⟩

set_option maxHeartbeats 1000000 in
theorem implWays_any (f : Nat → Int) (w : World) :
    Calls Tryz.prog 16 #[.agg (mk 16 f)] w fun e w' => e = .returned (.tuple #[.agg (mk 4 (wyR f)), .bool (vdO f)]) ∧ Below w.heap.size w w' := by
  have z4 := zero4
  have K1 := (Blk.new w 16 f 27).alloc (.cells (mk 4 fun _ => 0) 24)
  have K2 := Blk.new (w.alloc (.cells (mk 16 f) 27)) 4 (fun _ => 0) 24
  have HB := Lib.hid (((Below.refl w.heap.size w).alloc (Nat.le_refl _) (.cells (mk 16 f) 27)).alloc (by simp) (.cells (mk 4 fun _ => 0) 24))
  simp only [World.size_alloc] at K2
  by_cases hV : Vd f
  · rw [wyR_yes hV, vdO_yes hV]
    have HV := Lib.hid hV
    clear hV
    go_enter Tryz.func16, Tryz.ntmps16
    go_wp2_with ((with_reducible show wpList _ _ _ (Oper.mk _ (Op.load 27 _) _ _ _ _ :: _) _ _); refine loadB (K1) rfl rfl rfl ?_)
    refine (implBoard_yes _ _ HV.out).mono ?_
    rintro e w1 ⟨rfl, hb⟩
    have K1 := (K1.below hb K1.lt).alloc (.cells (mk 4 fun _ => 0) 24)
    have K2 := (K2.below hb K2.lt).alloc (.cells (mk 4 fun _ => 0) 24)
    have K3 := Blk.new w1 4 (fun _ => 0) 24
    have HB : Hid (Below w.heap.size w w1) := HB.out.trans (hb.mono HB.out.size)
    have hsz1 : w.heap.size + 1 < w1.heap.size := by have := hb.size; simp at this; omega
    have HB : Hid (Below w.heap.size w (w1.alloc (.cells (mk 4 fun _ => 0) 24))) := HB.out.alloc HB.out.size _
    clear hb
    go_wp2_with fail
    go_loopg [11] 4 (fun g s11 wr => ∃ d : Nat, d + g = 4 ∧ s11 = .int .i64 d ∧ Blk wr w.heap.size 16 f 27 ∧ Blk wr (w.heap.size + 1) 4 (fun _ => 0) 24 ∧ Blk wr w1.heap.size 4 (upto (fun d => cntB f d) d) 24 ∧ Hid (Below w.heap.size w wr))
    case atStart => exact ⟨0, by omega, rfl, K1, K2, K3.congr fun j _ => (upto_zero _ j).symm, HB⟩
    case round =>
      clear K1 K2 K3 HB
      obtain ⟨d, hdg, rfl, K1, K2, K3, HB⟩ := hrel
      cases gk with
      | zero =>
        have hd : ¬ ((d : Int) < 4) := by omega
        obtain rfl : d = 4 := by omega
        have K3 := K3.congr (g := fun d => cntB f d) fun j hj => upto_all hj
        go_wp2_with (first | ((with_reducible show wpList _ _ _ (Oper.mk _ (Op.load 24 _) _ _ _ _ :: _) _ _); refine loadR (K3) rfl rfl rfl ?_) | ((with_reducible show wpList _ _ _ (Oper.mk _ (Op.store 24 _ _) _ _ _ _ :: _) _ _); refine storeR (K2) rfl rfl rfl rfl ?_))
        try simp only [Exit.inBlock, Exit.then]
        exact retctR (K2.row 4 _) rfl rfl rfl ⟨rfl, below_setRow HB.out (by omega) _⟩
      | succ g =>
        have hd4 : (d : Int) < 4 := by omega
        have hd0 : (0 : Int) ≤ (d : Int) := by omega
        have hd9 : d < 4 := by omega
        go_wp2_with ((with_reducible show wpList _ _ _ (Oper.mk _ (Op.load 27 _) _ _ _ _ :: _) _ _); refine loadB (K1) rfl rfl rfl ?_)
        refine (implCountB_any f d _).mono ?_
        rw [cbR_nat HV.out hd9, cbO_nat HV.out hd9]
        rintro e w3 ⟨rfl, hb3⟩
        have hsz := HB.out.size
        have K1 := K1.below hb3 K1.lt
        have K2 := K2.below hb3 K2.lt
        have K3 := K3.below hb3 K3.lt
        have HB : Hid (Below w.heap.size w w3) := HB.out.trans (hb3.mono HB.out.size)
        have q3 := K3.cell (i := d) hd9
        have f3 := K3.free d
        clear hb3
        go_wp2_with fail
        go_roundg g
        case rel => exact ⟨d + 1, by omega, by go_num, K1.setOther _ _ (by dsimp only; omega), K2.setOther _ _ (by dsimp only; omega), (K3.set hd9 _).congr fun j _ => upto_step (fun d => cntB f d) d j, HB.out.setCell (by dsimp only; omega) _⟩
        case measure => omega
  · rw [wyR_no hV, vdO_no hV]
    go_enter Tryz.func16, Tryz.ntmps16
    go_wp2_with ((with_reducible show wpList _ _ _ (Oper.mk _ (Op.load 27 _) _ _ _ _ :: _) _ _); refine loadB (K1) rfl rfl rfl ?_)
    refine (implBoard_no _ _ hV).mono ?_
    rintro e w1 ⟨rfl, hb⟩
    have K2 := K2.below hb K2.lt
    have HB : Hid (Below w.heap.size w w1) := HB.out.trans (hb.mono HB.out.size)
    clear hb hV
    go_wp2_with ((with_reducible show wpList _ _ _ (Oper.mk _ (Op.store 24 _ _) _ _ _ _ :: _) _ _); refine storeR (K2) rfl rfl rfl rfl ?_)
    try simp only [Exit.inBlock, Exit.then]
    exact retctR (K2.row 4 _) rfl rfl rfl ⟨rfl, below_setRow HB.out (by omega) _⟩

set_option maxHeartbeats 1000000 in
set_option maxRecDepth 20000 in
theorem implSides_any (f : Nat → Int) (w : World) :
    Calls Tryz.prog 10 #[.agg (mk 16 f)] w fun e w' => ∃ g cap, e = .returned (.tuple #[.slice (some ⟨g, 0, none⟩) (siR f).length cap, .bool (vdO f)]) ∧
      OwnsInts w' w.heap.size (.slice (some ⟨g, 0, none⟩) (siR f).length cap) (siR f) ∧ Below w.heap.size w w' := by
  unfold siR
  obtain ⟨i0, hi, hz0, hz1, hz2⟩ := info_parts infoInt
  have z4 := zero4
  have K1 := Blk.new w 16 f 27
  have HB := Lib.hid ((Below.refl w.heap.size w).alloc (Nat.le_refl _) (.cells (mk 16 f) 27))
  have HC := Lib.hid (fun W => implWays_any f W)
  generalize wyR f = y at *
  generalize vdO f = o at *
  go_enter Tryz.func10, Tryz.ntmps10
  go_wp2_with ((with_reducible show wpList _ _ _ (Oper.mk _ (Op.load 27 _) _ _ _ _ :: _) _ _); refine loadB (K1) rfl rfl rfl ?_)
  refine (HC.out _).mono ?_
  rintro e w1 ⟨rfl, hb⟩
  have HB : Hid (Below w.heap.size w w1) := HB.out.trans (hb.mono HB.out.size)
  have hs := HB.out.size
  have K4 := (Blk.new w1 4 y 24).alloc (.cells #[] 3)
  have HB : Hid (Below w.heap.size w ((w1.alloc (.cells (mk 4 y) 24)).alloc (.cells #[] 3))) := (HB.out.alloc HB.out.size _).alloc (by simp; omega) _
  have HO : OwnsInts ((w1.alloc (.cells (mk 4 y) 24)).alloc (.cells #[] 3)) w.heap.size (.slice (some ⟨w1.heap.size + 1, 0, none⟩) 0 0) [] := by
    have := World.ownsRow_made (base := w.heap.size) (e := 3) (size := 1) (w1.alloc (.cells (mk 4 y) 24)) #[] 0 (by simp; omega) (by decide) rfl
    simp only [World.size_alloc] at this
    exact this
  clear hb K1
  go_wp2_with ((with_reducible show wpList _ _ _ (Oper.mk _ (Op.load 24 _) _ _ _ _ :: _) _ _); refine loadR (K4) rfl rfl rfl ?_)
  clear K4
  go_loopg [6, 16] 4 (fun g s6 s16 wr => ∃ (d : Nat) (v : Value), d + g = 4 ∧ s16 = .int .i64 d ∧ v = s6 ∧ (∃ gg cap, v = .slice (some ⟨gg, 0, none⟩) (sdW y d).length cap) ∧ OwnsInts wr w.heap.size v (sdW y d) ∧ Hid (Below w.heap.size w wr))
  case atStart => exact ⟨0, _, by omega, rfl, rfl, ⟨_, _, rfl⟩, HO, HB⟩
  case round =>
    clear HO HB hs
    obtain ⟨d, v, hdg, rfl, rfl, hv, ho, hb⟩ := hrel
    cases gk with
    | zero =>
      have hd : ¬ ((d : Int) < 4) := by omega
      obtain rfl : d = 4 := by omega
      clear hdg hd
      obtain ⟨gg, cap, rfl⟩ := hv
      go_wp2_with fail
      go_ret2
      exact ⟨gg, cap, rfl, ho, hb.out⟩
    | succ g =>
      have hd4 : (d : Int) < 4 := by omega
      have hd0 : (0 : Int) ≤ (d : Int) := by omega
      have hd9 : d < 4 := by omega
      have ho0 : wr.ownsRow w.heap.size 3 1 v (sdW y d).length ((sdW y d).map (Value.int .i64)) := ho
      have hn := sdW_len y d
      have hsz := hb.out.size
      clear ho
      by_cases hm : 0 < y d
      · have Y := Lib.hid (sdW_yes (v := y) hm)
        have hn4 : (sdW y d).length ≤ 4 := by omega
        have iR := fun W => idxR y d hd9 W
        generalize y d = q at hm iR
        go_wp2_with (at_builtin; refine wpList_append_own _ rfl _ _ 35 rfl w.heap.size 3 i0 (.int .i64 0) 1 8 Tryz.underlying35 hi hz0 hz1 hz2 rfl (by decide) _ _ _ rfl (ho0.alloc _) ⟨wr.heap.size, 0, none⟩ 1 1 [.int .i64 d] rfl rfl ?c1 ?c2 ?c3 ?c4 ?c5 ?_)
        case c1 => exact cell_one_new _ _ _
        case c2 => simp [Value.oneCell']
        case c3 => unfold maxLen; omega
        case c4 => omega
        case c5 => simp; omega
        intro v' w2 hown' hgrow' _
        obtain ⟨gg, cap, hv'⟩ := ownsRow_succ hown'
        have HV' : Hid (∃ gg cap, v' = .slice (some ⟨gg, 0, none⟩) ((sdW y d).length + 1) cap) := ⟨gg, cap, hv'⟩
        have HB4 : Hid (Below w.heap.size w w2) := ((hb.out).alloc hb.out.size _).grown hgrow' (by simp; omega) (fun j hj => (ho0.lt j hj).1)
        have HO : Hid (OwnsInts w2 w.heap.size v' (sdW y d ++ [(d : Int)])) := by
          show OwnsInts _ _ _ _
          unfold OwnsInts
          rw [List.map_append, List.length_append]
          exact hown'
        clear hown' hgrow' ho0 hv' iR
        go_wp2_with fail
        go_roundg g
        case rel => exact ⟨d + 1, _, by omega, by go_num, rfl, by rw [Y.out, List.length_append]; exact HV'.out, by rw [Y.out]; exact HO.out, HB4⟩
        case measure => omega
      · have Y := Lib.hid (sdW_no (v := y) hm)
        have iR := fun W => idxR y d hd9 W
        generalize y d = q at hm iR
        have hm2 : q ≤ 0 := by omega
        go_wp2_with fail
        go_roundg g
        case rel => exact ⟨d + 1, _, by omega, by go_num, rfl, by rw [Y.out]; exact hv, by rw [Y.out]; exact ho0, hb⟩
        case measure => omega

set_option maxHeartbeats 400000 in
theorem implMade_any (f : Nat → Int) (w : World) :
    Calls Tryz.prog 14 #[.agg (mk 16 f)] w fun e w' => e = .returned (.tuple #[.bool (mdR f), .bool (vdO f)]) ∧ Below w.heap.size w w' := by
  have K1 := Blk.new w 16 f 27
  have HB := Lib.hid ((Below.refl w.heap.size w).alloc (Nat.le_refl _) (.cells (mk 16 f) 27))
  have hI := mdR_int f
  go_enter Tryz.func14, Tryz.ntmps14
  go_wp2_with ((with_reducible show wpList _ _ _ (Oper.mk _ (Op.load 27 _) _ _ _ _ :: _) _ _); refine loadB (K1) rfl rfl rfl ?_)
  refine (implSides_any f _).mono ?_
  rintro e w2 ⟨g, cap, rfl, ho, hb⟩
  have HB : Hid (Below w.heap.size w w2) := HB.out.trans (hb.mono HB.out.size)
  clear hb ho K1
  generalize (siR f).length = n at *
  go_wp2_with fail
  go_ret2
  exact ⟨rfl, HB.out⟩
end Go.Proofs.YtmcmpedmgibmkabGreat
