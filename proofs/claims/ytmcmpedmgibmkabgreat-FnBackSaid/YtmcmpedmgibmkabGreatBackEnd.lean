/-
  Several texts in one:
  What the reference draws for FnMergersBack and FnBack: a board and a direction, mostly one that a move makes.
  What the reference draws for FnBack: a board and a direction, a number of a list, and a board with a new tile.
  The contracts of the laws' helpers rInts and rHas, on rows of integers; and what the list of moves has.
  Plain facts for FnBack. No program stands in this text.
-/
import Derived.Test.YtmcmpedmgibmkabGreatDrawsA
import Derived.Test.YtmcmpedmgibmkabGreatSpecWith
import Derived.Test.YtmcmpedmgibmkabGreatSpecWays
import Derived.Test.YtmcmpedmgibmkabGreatBaseA
import Derived.Test.YtmcmpedmgibmkabGreatCellA
import Derived.Test.YtmcmpedmgibmkabGreatRowsKit
import Derived.Test.YtmcmpedmgibmkabGreatPlainA
import Derived.Test.YtmcmpedmgibmkabGreatBackA
import Derived.Test.YtmcmpedmgibmkabGreatArises
namespace Go.Proofs.YtmcmpedmgibmkabGreat
open Go.RowKit Plain
attribute [local go_sem] store_new
set_option linter.unusedVariables false
set_option linter.unusedSimpArgs false

theorem withF_vd {d i : Nat} {x r : Nat → Int} (hx : Vd x) (hr : VdRow r) : Vd (withF d i x r) := fun j hj => by
  unfold withF; split
  · exact hr _ (placeOf_lt hj)
  · exact hx j hj
theorem Dr.kept {w W W' : World} {B m : Nat} (h : Dr w B m W) (hb : RowKit.Below W.heap.size W W') : Dr w B m W' := h.call (h.1.kept hb) ⟨hb.os, hb.tape, hb.output, hb.size, fun k hk _ => hb.block k hk⟩
set_option maxHeartbeats 2000000 in
set_option maxRecDepth 20000 in
theorem made_any (w : World) (B m : Nat) (hc : Cur w B m) (hm : m ≤ 999980000) :
    Calls Tryz.prog 43 #[.pointer (some ⟨B, 0, none⟩)] w fun e w' => ∃ (f : Nat → Int) (d : Int), e = .returned (.tuple #[.agg (mk 16 f), .int .i64 d]) ∧ Cur w' B (m + 300) ∧ Turned B w w' := by
  have z16 := zero16
  have D := Lib.hid ((Dr.start hc).alloc (.cells (mk 16 fun _ => 0) 27))
  have K2 := Blk.new w 16 (fun _ => 0) 27
  have HB0 := Lib.hid hc.lt
  clear hc
  go_enter Tryz.func43, Tryz.ntmps43
  go_wp2_with fail
  refine (board_any _ B m D.out.1 (by omega)).mono ?_
  rintro e w1 ⟨f, rfl, hc1, ht1⟩
  have K2 := K2.turned ht1 (by have := HB0.out; omega)
  have D : Hid (Dr w B (m + 200) w1) := D.out.call hc1 ht1
  clear hc1 ht1
  go_wp2_with fail
  refine (side_any _ B (m + 200) D.out.1 (by omega)).mono ?_
  rintro e w2 ⟨d, rfl, hc1, ht1⟩
  have K2 := K2.turned ht1 (by have := HB0.out; omega)
  have hb4 : w.heap.size < w2.heap.size := K2.lt
  have K2 := K2.alloc (.cells (mk 16 f) 27)
  have D : Hid (Dr w B (m + 200 + 4) (w2.alloc (.cells (mk 16 f) 27))) := (D.out.call hc1 ht1).alloc _
  have K4 := Blk.new w2 16 f 27
  clear hc1 ht1
  by_cases hV : Vd f
  · have HV := Lib.hid hV
    clear hV
    go_wp2_with ((with_reducible show wpList _ _ _ (Oper.mk _ (Op.load 27 _) _ _ _ _ :: _) _ _); refine loadB (K4) rfl rfl rfl ?_)
    generalize w2.alloc (.cells (mk 16 f) 27) = w3 at *
    generalize w2.heap.size = b4 at *
    refine (l2Board_yes _ _ HV.out).mono ?_
    rintro e w4 ⟨rfl, hb⟩
    have K2 := K2.below hb K2.lt
    have K4 := K4.below hb K4.lt
    have D : Hid (Dr w B (m + 200 + 4) w4) := D.out.kept hb
    clear hb
    by_cases hd : 0 ≤ d ∧ d ≤ 3
    · obtain ⟨d, rfl⟩ := Int.eq_ofNat_of_zero_le hd.1
      have d0 : (0 : Int) ≤ (d : Int) := by omega
      have d3 : (d : Int) ≤ 3 := by omega
      have hd4 : d < 4 := by omega
      clear hd
      go_wp2_with fail
      refine (l2Side_yes _ _ d0 d3).mono ?_
      rintro e w' ⟨rfl, rfl⟩
      go_wp2_with fail
      refine (one_any _ B (m + 200 + 4) 4 D.out.1 (by omega) (by omega) (by omega)).mono ?_
      rintro e w5 ⟨ba, rfl, hc1, ht1⟩
      have K2 := K2.turned ht1 (by have := HB0.out; omega)
      have K4 := K4.turned ht1 (by have := HB0.out; omega)
      have D : Hid (Dr w B (m + 200 + 4 + 2) w5) := D.out.call hc1 ht1
      clear hc1 ht1
      cases ba with
      | true =>
        go_wp2_with ((with_reducible show wpList _ _ _ (Oper.mk _ (Op.load 27 _) _ _ _ _ :: _) _ _); refine loadB (K4) rfl rfl rfl ?_)
        refine (l2Board_yes _ _ HV.out).mono ?_
        rintro e w11 ⟨rfl, hb⟩
        have K2 := K2.below hb K2.lt
        have K4 := K4.below hb K4.lt
        have D : Hid (Dr w B (m + 200 + 4 + 2) w11) := D.out.kept hb
        clear hb
        go_wp2_with fail
        refine (l2Side_yes _ _ d0 d3).mono ?_
        rintro e w' ⟨rfl, rfl⟩
        go_wp2_with fail
        refine (one_any _ B (m + 200 + 4 + 2) 2 D.out.1 (by omega) (by omega) (by omega)).mono ?_
        rintro e w12 ⟨bb, rfl, hc1, ht1⟩
        have K2 := K2.turned ht1 (by have := HB0.out; omega)
        have K4 := K4.turned ht1 (by have := HB0.out; omega)
        have D : Hid (Dr w B ((m + 200 + 4 + 2) + 2) w12) := D.out.call hc1 ht1
        clear hc1 ht1
        cases bb with
        | false =>
          go_wp2_with (first | ((with_reducible show wpList _ _ _ (Oper.mk _ (Op.load 27 _) _ _ _ _ :: _) _ _); refine loadB (K4) rfl rfl rfl ?_) | ((with_reducible show wpList _ _ _ (Oper.mk _ (Op.store 27 _ _) _ _ _ _ :: _) _ _); refine storeB (K2) rfl rfl rfl rfl ?_))
          try simp only [Exit.inBlock, Exit.then]
          exact retctB (K2.row 16 _) rfl rfl rfl ⟨_, _, rfl, ((D.out.row (Nat.le_refl _) _).more (show _ ≤ m + 300 by omega)).1, (D.out.row (Nat.le_refl _) _).2.1⟩
        | true =>
          go_wp2_with fail
          go_loopg [6] 3 (fun g s6 wr => ∃ (i : Nat) (y : Nat → Int), i + g = 3 ∧ s6 = .int .i64 i ∧ Blk wr w.heap.size 16 (fun _ => 0) 27 ∧ Blk wr b4 16 y 27 ∧ Hid (Dr w B ((m + 200 + 4 + 2) + 2 + 2 * i) wr))
          case atStart => exact ⟨0, _, by omega, rfl, K2, K4, D⟩
          case round =>
            clear K2 K4 D HV
            obtain ⟨i, y, hig, rfl, K2, K4, D⟩ := hrel
            cases gk with
            | zero =>
              obtain rfl : i = 3 := by omega
              go_wp2_with fail
              refine (pick_any _ B ((m + 200 + 4 + 2) + 2 + 2 * 3) 3 D.out.1 (by omega) (by omega) (by omega)).mono ?_
              rintro e w13 ⟨q, hq, rfl, hc1, ht1⟩
              have K2 := K2.turned ht1 (by have := HB0.out; omega)
              have K4 := K4.turned ht1 (by have := HB0.out; omega)
              have D : Hid (Dr w B ((m + 200 + 4 + 2) + 2 + 2 * 3 + 2) w13) := D.out.call hc1 ht1
              have hn : ¬ (((3 : Nat) : Int) < 1 + (q : Int)) := by omega
              have hn2 : ¬ ((3 : Int) < 1 + (q : Int)) := by omega
              have hw : IntKind.i64.wrap (1 + (q : Int)) = 1 + (q : Int) := IntWalk.i64_in _ (by omega)
              clear hc1 ht1
              go_wp2_with (first | ((with_reducible show wpList _ _ _ (Oper.mk _ (Op.load 27 _) _ _ _ _ :: _) _ _); refine loadB (K4) rfl rfl rfl ?_) | ((with_reducible show wpList _ _ _ (Oper.mk _ (Op.store 27 _ _) _ _ _ _ :: _) _ _); refine storeB (K2) rfl rfl rfl rfl ?_))
              try simp only [Exit.inBlock, Exit.then]
              exact retctB (K2.row 16 _) rfl rfl rfl ⟨_, _, rfl, ((D.out.row (Nat.le_refl _) _).more (show _ ≤ m + 300 by omega)).1, (D.out.row (Nat.le_refl _) _).2.1⟩
            | succ q9 =>
              have hi4 : i < 4 := by omega
              go_wp2_with fail
              refine (pick_any _ B ((m + 200 + 4 + 2) + 2 + 2 * i) 3 D.out.1 (by omega) (by omega) (by omega)).mono ?_
              rintro e w13 ⟨q, hq, rfl, hc1, ht1⟩
              have K2 := K2.turned ht1 (by have := HB0.out; omega)
              have K4 := K4.turned ht1 (by have := HB0.out; omega)
              have D : Hid (Dr w B ((m + 200 + 4 + 2) + 2 + 2 * i + 2) w13) := D.out.call hc1 ht1
              have hw : IntKind.i64.wrap (1 + (q : Int)) = 1 + (q : Int) := IntWalk.i64_in _ (by omega)
              clear hc1 ht1
              by_cases hlt : (i : Int) < 1 + (q : Int)
              · have z4 := zero4
                go_wp2_with ((with_reducible show wpList _ _ _ (Oper.mk _ (Op.load 27 _) _ _ _ _ :: _) _ _); refine loadB (K4) rfl rfl rfl ?_)
                refine (l6With_any y (fun _ => 0) d i _ hd4 hi4).mono ?_
                rintro e w14 ⟨rfl, hb⟩
                have K2 := K2.below hb K2.lt
                have K4 := K4.below hb K4.lt
                have D : Hid (Dr w B ((m + 200 + 4 + 2) + 2 + 2 * i + 2) w14) := D.out.kept hb
                clear hb
                go_wp2_with ((with_reducible show wpList _ _ _ (Oper.mk _ (Op.store 27 _ _) _ _ _ _ :: _) _ _); refine storeB (K4) rfl rfl rfl rfl ?_)
                go_roundg q9
                case rel => exact ⟨i + 1, _, by omega, by go_num, K2.rowOther _ _ (by have := HB0.out; omega), K4.row 16 _, (D.out.row (by have := HB0.out; omega) _).more (by omega)⟩
                case measure => omega
              ·
                go_wp2_with (first | ((with_reducible show wpList _ _ _ (Oper.mk _ (Op.load 27 _) _ _ _ _ :: _) _ _); refine loadB (K4) rfl rfl rfl ?_) | ((with_reducible show wpList _ _ _ (Oper.mk _ (Op.store 27 _ _) _ _ _ _ :: _) _ _); refine storeB (K2) rfl rfl rfl rfl ?_))
                try simp only [Exit.inBlock, Exit.then]
                exact retctB (K2.row 16 _) rfl rfl rfl ⟨_, _, rfl, ((D.out.row (Nat.le_refl _) _).more (show _ ≤ m + 300 by omega)).1, (D.out.row (Nat.le_refl _) _).2.1⟩
      | false =>
        go_wp2_with ((with_reducible show wpList _ _ _ (Oper.mk _ (Op.load 27 _) _ _ _ _ :: _) _ _); refine loadB (K4) rfl rfl rfl ?_)
        refine (l2Slide_nat f d _ HV.out d0 d3).mono ?_
        rintro e w6 ⟨rfl, hb⟩
        have K2 := K2.below hb K2.lt
        have K4 := K4.below hb K4.lt
        have D : Hid (Dr w B (m + 200 + 4 + 2) w6) := D.out.kept hb
        have K4s := K4.row 16 (slideB f d)
        have K2s := K2.rowOther b4 (mk 16 (slideB f d)) (by omega)
        have Ds : Hid (Dr w B (m + 200 + 4 + 2) (w6.setRow b4 (mk 16 (slideB f d)))) := D.out.row (by omega) _
        have HV2 := Lib.hid (slideB_vd HV.out d)
        clear hb
        generalize slideB f d = f2 at *
        clear HV
        have HV := HV2
        go_wp2_with (first | ((with_reducible show wpList _ _ _ (Oper.mk _ (Op.store 27 _ _) _ _ _ _ :: _) _ _); refine storeB (K4) rfl rfl rfl rfl ?_) | ((with_reducible show wpList _ _ _ (Oper.mk _ (Op.load 27 _) _ _ _ _ :: _) _ _); refine loadB (K4s) rfl rfl rfl ?_))
        have K4 := K4s
        have K2 := K2s
        have D := Ds
        clear K4s K2s Ds
        generalize w6.setRow b4 (mk 16 f2) = w7 at *
        refine (l2Board_yes _ _ HV.out).mono ?_
        rintro e w11 ⟨rfl, hb⟩
        have K2 := K2.below hb K2.lt
        have K4 := K4.below hb K4.lt
        have D : Hid (Dr w B (m + 200 + 4 + 2) w11) := D.out.kept hb
        clear hb
        go_wp2_with fail
        refine (l2Side_yes _ _ d0 d3).mono ?_
        rintro e w' ⟨rfl, rfl⟩
        go_wp2_with fail
        refine (one_any _ B (m + 200 + 4 + 2) 2 D.out.1 (by omega) (by omega) (by omega)).mono ?_
        rintro e w12 ⟨bb, rfl, hc1, ht1⟩
        have K2 := K2.turned ht1 (by have := HB0.out; omega)
        have K4 := K4.turned ht1 (by have := HB0.out; omega)
        have D : Hid (Dr w B ((m + 200 + 4 + 2) + 2) w12) := D.out.call hc1 ht1
        clear hc1 ht1
        cases bb with
        | false =>
          go_wp2_with (first | ((with_reducible show wpList _ _ _ (Oper.mk _ (Op.load 27 _) _ _ _ _ :: _) _ _); refine loadB (K4) rfl rfl rfl ?_) | ((with_reducible show wpList _ _ _ (Oper.mk _ (Op.store 27 _ _) _ _ _ _ :: _) _ _); refine storeB (K2) rfl rfl rfl rfl ?_))
          try simp only [Exit.inBlock, Exit.then]
          exact retctB (K2.row 16 _) rfl rfl rfl ⟨_, _, rfl, ((D.out.row (Nat.le_refl _) _).more (show _ ≤ m + 300 by omega)).1, (D.out.row (Nat.le_refl _) _).2.1⟩
        | true =>
          go_wp2_with fail
          go_loopg [6] 3 (fun g s6 wr => ∃ (i : Nat) (y : Nat → Int), i + g = 3 ∧ s6 = .int .i64 i ∧ Blk wr w.heap.size 16 (fun _ => 0) 27 ∧ Blk wr b4 16 y 27 ∧ Hid (Dr w B ((m + 200 + 4 + 2) + 2 + 2 * i) wr))
          case atStart => exact ⟨0, _, by omega, rfl, K2, K4, D⟩
          case round =>
            clear K2 K4 D HV
            obtain ⟨i, y, hig, rfl, K2, K4, D⟩ := hrel
            cases gk with
            | zero =>
              obtain rfl : i = 3 := by omega
              go_wp2_with fail
              refine (pick_any _ B ((m + 200 + 4 + 2) + 2 + 2 * 3) 3 D.out.1 (by omega) (by omega) (by omega)).mono ?_
              rintro e w13 ⟨q, hq, rfl, hc1, ht1⟩
              have K2 := K2.turned ht1 (by have := HB0.out; omega)
              have K4 := K4.turned ht1 (by have := HB0.out; omega)
              have D : Hid (Dr w B ((m + 200 + 4 + 2) + 2 + 2 * 3 + 2) w13) := D.out.call hc1 ht1
              have hn : ¬ (((3 : Nat) : Int) < 1 + (q : Int)) := by omega
              have hn2 : ¬ ((3 : Int) < 1 + (q : Int)) := by omega
              have hw : IntKind.i64.wrap (1 + (q : Int)) = 1 + (q : Int) := IntWalk.i64_in _ (by omega)
              clear hc1 ht1
              go_wp2_with (first | ((with_reducible show wpList _ _ _ (Oper.mk _ (Op.load 27 _) _ _ _ _ :: _) _ _); refine loadB (K4) rfl rfl rfl ?_) | ((with_reducible show wpList _ _ _ (Oper.mk _ (Op.store 27 _ _) _ _ _ _ :: _) _ _); refine storeB (K2) rfl rfl rfl rfl ?_))
              try simp only [Exit.inBlock, Exit.then]
              exact retctB (K2.row 16 _) rfl rfl rfl ⟨_, _, rfl, ((D.out.row (Nat.le_refl _) _).more (show _ ≤ m + 300 by omega)).1, (D.out.row (Nat.le_refl _) _).2.1⟩
            | succ q9 =>
              have hi4 : i < 4 := by omega
              go_wp2_with fail
              refine (pick_any _ B ((m + 200 + 4 + 2) + 2 + 2 * i) 3 D.out.1 (by omega) (by omega) (by omega)).mono ?_
              rintro e w13 ⟨q, hq, rfl, hc1, ht1⟩
              have K2 := K2.turned ht1 (by have := HB0.out; omega)
              have K4 := K4.turned ht1 (by have := HB0.out; omega)
              have D : Hid (Dr w B ((m + 200 + 4 + 2) + 2 + 2 * i + 2) w13) := D.out.call hc1 ht1
              have hw : IntKind.i64.wrap (1 + (q : Int)) = 1 + (q : Int) := IntWalk.i64_in _ (by omega)
              clear hc1 ht1
              by_cases hlt : (i : Int) < 1 + (q : Int)
              · have z4 := zero4
                go_wp2_with ((with_reducible show wpList _ _ _ (Oper.mk _ (Op.load 27 _) _ _ _ _ :: _) _ _); refine loadB (K4) rfl rfl rfl ?_)
                refine (l6With_any y (fun _ => 0) d i _ hd4 hi4).mono ?_
                rintro e w14 ⟨rfl, hb⟩
                have K2 := K2.below hb K2.lt
                have K4 := K4.below hb K4.lt
                have D : Hid (Dr w B ((m + 200 + 4 + 2) + 2 + 2 * i + 2) w14) := D.out.kept hb
                clear hb
                go_wp2_with ((with_reducible show wpList _ _ _ (Oper.mk _ (Op.store 27 _ _) _ _ _ _ :: _) _ _); refine storeB (K4) rfl rfl rfl rfl ?_)
                go_roundg q9
                case rel => exact ⟨i + 1, _, by omega, by go_num, K2.rowOther _ _ (by have := HB0.out; omega), K4.row 16 _, (D.out.row (by have := HB0.out; omega) _).more (by omega)⟩
                case measure => omega
              ·
                go_wp2_with (first | ((with_reducible show wpList _ _ _ (Oper.mk _ (Op.load 27 _) _ _ _ _ :: _) _ _); refine loadB (K4) rfl rfl rfl ?_) | ((with_reducible show wpList _ _ _ (Oper.mk _ (Op.store 27 _ _) _ _ _ _ :: _) _ _); refine storeB (K2) rfl rfl rfl rfl ?_))
                try simp only [Exit.inBlock, Exit.then]
                exact retctB (K2.row 16 _) rfl rfl rfl ⟨_, _, rfl, ((D.out.row (Nat.le_refl _) _).more (show _ ≤ m + 300 by omega)).1, (D.out.row (Nat.le_refl _) _).2.1⟩
    · have HD := Lib.hid (show d < 0 ∨ 3 < d by omega)
      go_wp2_with fail
      refine (l2Side_no _ _ HD.out).mono ?_
      rintro e w' ⟨rfl, rfl⟩
      go_wp2_with ((with_reducible show wpList _ _ _ (Oper.mk _ (Op.load 27 _) _ _ _ _ :: _) _ _); refine loadB (K4) rfl rfl rfl ?_)
      refine (l2Board_yes _ _ HV.out).mono ?_
      rintro e w5 ⟨rfl, hb⟩
      have K2 := K2.below hb K2.lt
      have K4 := K4.below hb K4.lt
      have D : Hid (Dr w B (m + 200 + 4) w5) := D.out.kept hb
      clear hb
      go_wp2_with fail
      refine (l2Side_no _ _ HD.out).mono ?_
      rintro e w' ⟨rfl, rfl⟩
      go_wp2_with (first | ((with_reducible show wpList _ _ _ (Oper.mk _ (Op.load 27 _) _ _ _ _ :: _) _ _); refine loadB (K4) rfl rfl rfl ?_) | ((with_reducible show wpList _ _ _ (Oper.mk _ (Op.store 27 _ _) _ _ _ _ :: _) _ _); refine storeB (K2) rfl rfl rfl rfl ?_))
      try simp only [Exit.inBlock, Exit.then]
      exact retctB (K2.row 16 _) rfl rfl rfl ⟨_, _, rfl, ((D.out.row (Nat.le_refl _) _).more (show _ ≤ m + 300 by omega)).1, (D.out.row (Nat.le_refl _) _).2.1⟩
  · have HV := Lib.hid hV
    clear hV
    go_wp2_with ((with_reducible show wpList _ _ _ (Oper.mk _ (Op.load 27 _) _ _ _ _ :: _) _ _); refine loadB (K4) rfl rfl rfl ?_)
    generalize w2.alloc (.cells (mk 16 f) 27) = w3 at *
    generalize w2.heap.size = b4 at *
    refine (l2Board_no _ _ HV.out).mono ?_
    rintro e w4 ⟨rfl, hb⟩
    have K2 := K2.below hb K2.lt
    have K4 := K4.below hb K4.lt
    have D : Hid (Dr w B (m + 200 + 4) w4) := D.out.kept hb
    clear hb
    go_wp2_with ((with_reducible show wpList _ _ _ (Oper.mk _ (Op.load 27 _) _ _ _ _ :: _) _ _); refine loadB (K4) rfl rfl rfl ?_)
    refine (l2Board_no _ _ HV.out).mono ?_
    rintro e w5 ⟨rfl, hb⟩
    have K2 := K2.below hb K2.lt
    have K4 := K4.below hb K4.lt
    have D : Hid (Dr w B (m + 200 + 4) w5) := D.out.kept hb
    clear hb
    go_wp2_with (first | ((with_reducible show wpList _ _ _ (Oper.mk _ (Op.load 27 _) _ _ _ _ :: _) _ _); refine loadB (K4) rfl rfl rfl ?_) | ((with_reducible show wpList _ _ _ (Oper.mk _ (Op.store 27 _ _) _ _ _ _ :: _) _ _); refine storeB (K2) rfl rfl rfl rfl ?_))
    try simp only [Exit.inBlock, Exit.then]
    exact retctB (K2.row 16 _) rfl rfl rfl ⟨_, _, rfl, ((D.out.row (Nat.le_refl _) _).more (show _ ≤ m + 300 by omega)).1, (D.out.row (Nat.le_refl _) _).2.1⟩
theorem below_cur {w w2 : World} {p q : Obj} {B : Nat} (hB : B = w.heap.size + 1) (h : Turned B ((w.alloc p).alloc q) w2) : Below w.heap.size w w2 := below_two hB h
set_option maxHeartbeats 1000000 in
theorem drawCountBefore_any (a : Option Addr) (len cap : Nat) (w : World) (hl : len ≤ 65536) (hr : CodeRow w a len w.heap.size) :
    Calls Tryz.prog 28 #[.slice a len cap] w fun e w' => ∃ (f : Nat → Int) (k : Int), e = .returned (.tuple #[.agg (mk 16 f), .int .i64 k]) ∧ Below w.heap.size w w' := by
  have z16 := zero16
  have K2 := (Blk.new w 16 (fun _ => 0) 27).alloc (.cells #[.slice a len cap, .int .i64 0, .int .u64 0] 79)
  have hr1 := hr.later ((Below.refl _ w).alloc (Nat.le_refl _) (.cells (mk 16 fun _ => 0) 27))
  have HC := Lib.hid (Cur.new (w.alloc (.cells (mk 16 fun _ => 0) 27)) a len cap hl hr1)
  have hs : (w.alloc (.cells (mk 16 fun _ => 0) 27)).heap.size = w.heap.size + 1 := by simp
  rw [hs] at HC
  clear hr hr1
  go_enter Tryz.func28, Tryz.ntmps28
  go_wp2_with fail
  refine (made_any _ (w.heap.size + 1) 0 HC.out (by omega)).mono ?_
  rintro e w2 ⟨f, k, rfl, hc2, ht2⟩
  have K2 := K2.turned ht2 (by omega)
  have HT := Lib.hid ht2
  clear hc2 ht2 HC
  go_wp2_with ((with_reducible show wpList _ _ _ (Oper.mk _ (Op.store 27 _ _) _ _ _ _ :: _) _ _); refine storeB (K2) rfl rfl rfl rfl ?_)
  try simp only [Exit.inBlock, Exit.then]
  exact retctB (K2.row 16 _) rfl rfl rfl ⟨f, k, rfl, below_setRow (below_two rfl HT.out) (Nat.le_refl _) _⟩
end Go.Proofs.YtmcmpedmgibmkabGreat
namespace Go.Proofs.YtmcmpedmgibmkabGreat.Plain
theorem emp_at (f : Nat → Int) : ∀ n i, i < empN f n → ∃ k, k < n ∧ (empL f n).getD (i * 2) 0 = ((k / 4 : Nat) : Int) ∧ (empL f n).getD (i * 2 + 1) 0 = ((k % 4 : Nat) : Int)
  | 0, i, h => absurd h (Nat.not_lt_zero _)
  | n + 1, i, h => by
    have hl := emp_len f n
    by_cases h0 : f n = 0
    · obtain ⟨e1, e2⟩ := emp_yes h0
      rw [e2] at h
      rw [e1]
      by_cases hi : i < empN f n
      · obtain ⟨k, hk, a, b⟩ := emp_at f n i hi
        refine ⟨k, by omega, ?_, ?_⟩
        · rw [← a, List.getD_eq_getElem?_getD, List.getD_eq_getElem?_getD, List.getElem?_append_left (by omega)]
        · rw [← b, List.getD_eq_getElem?_getD, List.getD_eq_getElem?_getD, List.getElem?_append_left (by omega)]
      · obtain rfl : i = empN f n := by omega
        refine ⟨n, by omega, ?_, ?_⟩
        · rw [List.getD_eq_getElem?_getD, List.getElem?_append_right (by omega), hl, Nat.sub_self]; rfl
        · rw [List.getD_eq_getElem?_getD, List.getElem?_append_right (by omega), hl, Nat.add_sub_cancel_left]; rfl
    · obtain ⟨e1, e2⟩ := emp_no h0
      rw [e2] at h
      rw [e1]
      obtain ⟨k, hk, a, b⟩ := emp_at f n i h
      exact ⟨k, by omega, a, b⟩
end Go.Proofs.YtmcmpedmgibmkabGreat.Plain
namespace Go.Proofs.YtmcmpedmgibmkabGreat
open Go.RowKit Plain
attribute [local go_sem] store_new
set_option linter.unusedVariables false
set_option linter.unusedSimpArgs false

theorem turned_below {w w' : World} {B : Nat} (h : RowKit.Below w.heap.size w w') : Turned B w w' := ⟨h.os, h.tape, h.output, h.size, fun k hk _ => h.block k hk⟩
theorem wp_ldB {o : Oper} {a : Act} {w : World} {K : Act → World → Prop} {Q : Exit → Act → World → Prop} {x : Operand} {b : Nat} {f : Nat → Int} {t : TypeId} (hg : Blk w b 16 f t) (ho : o.op = .load 27 x) (hx : a.eval x = .pointer (some ⟨b, 0, none⟩))
    (h : K (a.put o.dst (.agg (mk 16 f))) w) : o.wp Tryz.prog a w K Q :=
  wp_load_row _ x ho b hx t _ _ _ hg Tryz.underlying27 rfl (by rw [mk_size]; exact sizeB) h
theorem execAE {o : Oper} {ev : Operand → Value} {w : World} {b n off : Nat} {f : Nat → Int} {x : Operand} (hg : CAt w b n f) (hm : off + 2 ≤ n) (ho : o.op = .load 56 x) (hx : ev x = .pointer (some ⟨b, off, none⟩)) :
    (execOp ev o).run Tryz.prog w = .ok (.value (.agg (mk 2 (fun i => f (off + i))))) w := exec_load_at _ x ho hx hg hm Tryz.underlying56 rfl sizeC
theorem CAt.turned {w w' : World} {B g n : Nat} {h : Nat → Int} (r : CAt w g n h) (ht : Turned B w w') (hg : g ≠ B) : CAt w' g n h :=
  ⟨Nat.lt_of_lt_of_le r.1 ht.size, fun j hj => ht.cell (r.2 j hj) hg⟩
theorem below_two2 {w w2 : World} {p q : Obj} {B : Nat} (hB : B = w.heap.size + 1) (h : Turned B ((w.alloc p).alloc q) w2) : RowKit.Below w.heap.size w w2 := below_two hB h
set_option maxHeartbeats 1000000 in
theorem drawBoardsBefore_any (a : Option Addr) (len cap : Nat) (w : World) (hl : len ≤ 65536) (hr : CodeRow w a len w.heap.size) :
    Calls Tryz.prog 5 #[.slice a len cap] w fun e w' => ∃ (f : Nat → Int) (k : Int), e = .returned (.tuple #[.agg (mk 16 f), .int .i64 k]) ∧ Below w.heap.size w w' := by
  have z16 := zero16
  have K2 := Blk.new w 16 (fun _ => 0) 27
  have HB := Lib.hid ((Below.refl w.heap.size w).alloc (Nat.le_refl _) (.cells (mk 16 fun _ => 0) 27))
  have HR := Lib.hid (hr.later ((Below.refl _ w).alloc (Nat.le_refl _) (.cells (mk 16 fun _ => 0) 27)))
  clear hr
  go_enter Tryz.func5, Tryz.ntmps5
  go_wp2_with fail
  refine (drawCountBefore_any a len cap _ hl HR.out).mono ?_
  rintro e w2 ⟨f, k, rfl, hb⟩
  have K2 := K2.below hb (by simp)
  have HB : Hid (Below w.heap.size w w2) := HB.out.trans (hb.mono HB.out.size)
  clear hb
  go_wp2_with ((with_reducible show wpList _ _ _ (Oper.mk _ (Op.store 27 _ _) _ _ _ _ :: _) _ _); refine storeB (K2) rfl rfl rfl rfl ?_)
  try simp only [Exit.inBlock, Exit.then]
  exact retctB (K2.row 16 _) rfl rfl rfl ⟨f, k, rfl, below_setRow HB.out (Nat.le_refl _) _⟩
theorem seven_new (W : World) (a b c d e f g : Int) (t : TypeId) : ∀ j, j < 7 → ∃ v, (W.alloc (.cells #[.int .i64 a, .int .i64 b, .int .i64 c, .int .i64 d, .int .i64 e, .int .i64 f, .int .i64 g] t)).cell? ⟨W.heap.size, j, none⟩ = some v ∧ ∃ t, v = .int .i64 t ∧ True := by
  intro j hj
  refine alloc_all W _ _ (fun v => ∃ t, v = .int .i64 t ∧ True) ?_ j hj
  intro v hv
  simp at hv
  rcases hv with rfl | rfl | rfl | rfl | rfl | rfl | rfl <;> exact ⟨_, rfl, trivial⟩
set_option maxHeartbeats 1000000 in
theorem drawBackStep_any (a : Option Addr) (len cap : Nat) (w : World) (hl : len ≤ 65536) (hr : CodeRow w a len w.heap.size) :
    Calls Tryz.prog 22 #[.slice a len cap] w fun e w' => ∃ (f : Nat → Int) (d k : Int), e = .returned (.tuple #[.agg (mk 16 f), .int .i64 d, .int .i64 k]) ∧ Below w.heap.size w w' := by
  have z16 := zero16
  have K2 := (Blk.new w 16 (fun _ => 0) 27).alloc (.cells #[.slice a len cap, .int .i64 0, .int .u64 0] 79)
  have hr1 := hr.later ((Below.refl _ w).alloc (Nat.le_refl _) (.cells (mk 16 fun _ => 0) 27))
  have HC := Lib.hid (Cur.new (w.alloc (.cells (mk 16 fun _ => 0) 27)) a len cap hl hr1)
  have hs : (w.alloc (.cells (mk 16 fun _ => 0) 27)).heap.size = w.heap.size + 1 := by simp
  rw [hs] at HC
  clear hr hr1
  have HT := Lib.hid ((Turned.refl (w.heap.size + 1) ((w.alloc (.cells (mk 16 fun _ => 0) 27)).alloc (.cells #[.slice a len cap, .int .i64 0, .int .u64 0] 79))).alloc (.cells #[.int .i64 0, .int .i64 1, .int .i64 2, .int .i64 5, .int .i64 (-1), .int .i64 20, .int .i64 300] 3))
  have H7 := Lib.hid (seven_new ((w.alloc (.cells (mk 16 fun _ => 0) 27)).alloc (.cells #[.slice a len cap, .int .i64 0, .int .u64 0] 79)) 0 1 2 5 (-1) 20 300 3)
  go_enter Tryz.func22, Tryz.ntmps22
  go_wp2_with fail
  refine (among_any _ (w.heap.size + 1) 0 _ 7 7 (fun _ => True) (HC.out.alloc _) (by omega) (by omega) (by omega) (by omega) (by have := H7.out; simpa using this)).mono ?_
  rintro e w2 ⟨k, _, rfl, hc2, ht2⟩
  have K2 := (K2.alloc (.cells #[.int .i64 0, .int .i64 1, .int .i64 2, .int .i64 5, .int .i64 (-1), .int .i64 20, .int .i64 300] 3)).turned ht2 (by omega)
  have HT := Lib.hid (HT.out.trans ht2)
  have HC := Lib.hid hc2
  clear hc2 ht2 H7
  go_wp2_with fail
  refine (made_any _ (w.heap.size + 1) _ HC.out (by omega)).mono ?_
  rintro e w3 ⟨f, d, rfl, hc2, ht2⟩
  have K2 := K2.turned ht2 (by omega)
  have HT := Lib.hid (HT.out.trans ht2)
  clear hc2 ht2 HC
  have hlt : w.heap.size < w3.heap.size := K2.lt
  have K7 := Blk.new w3 16 f 27
  have K2 := K2.alloc (.cells (mk 16 f) 27)
  have HT := Lib.hid (HT.out.alloc (.cells (mk 16 f) 27))
  go_wp2_with (first | ((with_reducible show wpList _ _ _ (Oper.mk _ (Op.load 27 _) _ _ _ _ :: _) _ _); refine loadB (K7) rfl rfl rfl ?_) | ((with_reducible show wpList _ _ _ (Oper.mk _ (Op.store 27 _ _) _ _ _ _ :: _) _ _); refine storeB (K2) rfl rfl rfl rfl ?_))
  try simp only [Exit.inBlock, Exit.then]
  exact retcttB (K2.row 16 _) rfl rfl rfl ⟨f, d, k, rfl, below_setRow (below_two2 rfl HT.out) (Nat.le_refl _) _⟩
set_option maxHeartbeats 2000000 in
set_option maxRecDepth 20000 in
theorem drawArisesBy_any (a : Option Addr) (len cap : Nat) (w : World) (hl : len ≤ 65536) (hr : CodeRow w a len w.heap.size) :
    Calls Tryz.prog 18 #[.slice a len cap] w fun e w' => ∃ (f : Nat → Int), e = .returned (.agg (mk 16 f)) ∧ Below w.heap.size w w' := by
  have z16 := zero16
  have K2 := (Blk.new w 16 (fun _ => 0) 27).alloc (.cells #[.slice a len cap, .int .i64 0, .int .u64 0] 79)
  have hr1 := hr.later ((Below.refl _ w).alloc (Nat.le_refl _) (.cells (mk 16 fun _ => 0) 27))
  have HC := Lib.hid (Cur.new (w.alloc (.cells (mk 16 fun _ => 0) 27)) a len cap hl hr1)
  have hs : (w.alloc (.cells (mk 16 fun _ => 0) 27)).heap.size = w.heap.size + 1 := by simp
  rw [hs] at HC
  clear hr hr1
  go_enter Tryz.func18, Tryz.ntmps18
  go_wp2_with fail
  refine (made_any _ (w.heap.size + 1) 0 HC.out (by omega)).mono ?_
  rintro e w2 ⟨f, d, rfl, hc2, ht2⟩
  have K2 := K2.turned ht2 (by omega)
  have HT := Lib.hid ht2
  have HC := Lib.hid hc2
  have hsz := ht2.size
  simp at hsz
  have hlt : w.heap.size + 1 < w2.heap.size := by omega
  clear hc2 ht2 hsz
  have K4 := Blk.new w2 16 f 27
  have K2 := K2.alloc (.cells (mk 16 f) 27)
  have HT := Lib.hid (HT.out.alloc (.cells (mk 16 f) 27))
  have HC := Lib.hid (HC.out.alloc (.cells (mk 16 f) 27))
  go_wp2_with ((with_reducible show wpList _ _ _ (Oper.mk _ (Op.load 27 _) _ _ _ _ :: _) _ _); refine loadB (K4) rfl rfl rfl ?_)
  generalize w2.alloc (.cells (mk 16 f) 27) = w3 at *
  generalize w2.heap.size = b4 at *
  have hb4 : b4 < w3.heap.size := K4.lt
  refine (l2Empty_any f _).mono ?_
  rintro e w4 ⟨q, cq, rfl, ho, hb⟩
  have hlo := (ho.lt q rfl).1
  have HA : Hid (CAt w4 q (empN f 16 * 2) (fun c => (empL f 16).getD c 0)) := by
    have hl := emp_len f 16
    refine ⟨(ho.lt q rfl).2, fun j hj => ?_⟩
    rw [ho.cellAt j hj, List.getElem?_map]
    show _ = some (Value.int .i64 ((empL f 16).getD j 0))
    rw [List.getD_eq_getElem?_getD, List.getElem?_eq_getElem (by omega)]
    rfl
  have K2 := K2.below hb K2.lt
  have K4 := K4.below hb K4.lt
  have HC := Lib.hid (HC.out.kept hb)
  have HT := Lib.hid (HT.out.trans (turned_below hb))
  clear hb ho
  have hn := empN_le f 16
  by_cases hV : Vd f
  · have HV := Lib.hid hV
    clear hV
    go_wp2_with ((with_reducible show wpList _ _ _ (Oper.mk _ (Op.load 27 _) _ _ _ _ :: _) _ _); refine loadB (K4) rfl rfl rfl ?_)
    refine (l2Board_yes _ _ HV.out).mono ?_
    rintro e w5 ⟨rfl, hb⟩
    have K2 := K2.below hb K2.lt
    have K4 := K4.below hb K4.lt
    have HA := Lib.hid (HA.out.below hb)
    have HC := Lib.hid (HC.out.kept hb)
    have HT := Lib.hid (HT.out.trans (turned_below hb))
    clear hb HV
    by_cases h0 : empN f 16 = 0
    · have q0 : ¬ ((0 : Int) < ((empN f 16 : Nat) : Int)) := by omega
      generalize empN f 16 = n at *
      go_wp2_with (first | ((with_reducible show wpList _ _ _ (Oper.mk _ (Op.load 27 _) _ _ _ _ :: _) _ _); refine loadB (K4) rfl rfl rfl ?_) | ((with_reducible show wpList _ _ _ (Oper.mk _ (Op.store 27 _ _) _ _ _ _ :: _) _ _); refine storeB (K2) rfl rfl rfl rfl ?_))
      try simp only [Exit.inBlock, Exit.then]
      exact retcB (K2.row 16 _) rfl rfl rfl ⟨_, rfl, below_setRow (below_two2 rfl HT.out) (Nat.le_refl _) _⟩
    · have q0 : (0 : Int) < ((empN f 16 : Nat) : Int) := by omega
      generalize hN : empN f 16 = n at *
      have hn1 : (1 : Int) ≤ (n : Int) := by omega
      go_wp2_with fail
      have CA : CAt w5.drew q (n * 2) (fun c => (empL f 16).getD c 0) := HA.out.drew
      have K2 := K2.drew
      have K4 := K4.drew
      have HC := Lib.hid HC.out.drew
      have HT : Hid (Turned (w.heap.size + 1) _ w5.drew) := HT.out.draws 1
      refine wp_region_held_drew (S := fun W => CAt W q (n * 2) (fun c => (empL f 16).getD c 0)) (by kernel_rfl) CA (fun hHeld => ?_)
      generalize hW : w5.drew = y0 at *
      clear hW HA
      refine wpAnyH_take (i := 1) (oi := { dst := some 25, op := _, type := _, pos := _, after := _, guard := _ }) (v := .slice (some ⟨q, 0, none⟩) n cq) rfl (by kernel_rfl) (by kernel_rfl) (by kernel_rfl) (fun _ _ _ h => h) (Or.inl ⟨by rfl, by intro w hSw; clear hSw; go_simp; (try with_reducible rfl)⟩) (by assumption) ?_
      try simp only [Act.put, List.setIfInBounds_toArray, List.set_cons_zero, List.set_cons_succ]
      refine wpAnyH_take (i := 2) (oi := { dst := some 26, op := _, type := _, pos := _, after := _, guard := _ }) (v := .pointer (some ⟨w.heap.size + 1, 0, none⟩)) rfl (by kernel_rfl) (by kernel_rfl) (by kernel_rfl) (fun _ _ _ h => h) (Or.inl ⟨by rfl, by intro w hSw; clear hSw; go_simp; (try with_reducible rfl)⟩) (by assumption) ?_
      try simp only [Act.put, List.setIfInBounds_toArray, List.set_cons_zero, List.set_cons_succ]
      refine wpAnyH_take (i := 3) (oi := { dst := some 27, op := _, type := _, pos := _, after := _, guard := _ }) (v := .slice (some ⟨q, 0, none⟩) n cq) rfl (by kernel_rfl) (by kernel_rfl) (by kernel_rfl) (fun _ _ _ h => h) (Or.inl ⟨by rfl, by intro w hSw; clear hSw; go_simp; (try with_reducible rfl)⟩) (by assumption) ?_
      try simp only [Act.put, List.setIfInBounds_toArray, List.set_cons_zero, List.set_cons_succ]
      refine wpAnyH_take (i := 4) (oi := { dst := some 28, op := _, type := _, pos := _, after := _, guard := _ }) (v := .int .i64 (n : Int)) rfl (by kernel_rfl) (by kernel_rfl) (by kernel_rfl) (fun _ _ _ h => h) (Or.inl ⟨by rfl, by intro w hSw; clear hSw; go_simp; (try with_reducible rfl)⟩) (by assumption) ?_
      try simp only [Act.put, List.setIfInBounds_toArray, List.set_cons_zero, List.set_cons_succ]
      refine wpAnyH_take (i := 8) (oi := { dst := some 32, op := _, type := _, pos := _, after := _, guard := _ }) (v := .pointer (some ⟨w.heap.size + 1, 0, none⟩)) rfl (by kernel_rfl) (by kernel_rfl) (by kernel_rfl) (fun _ _ _ h => h) (Or.inl ⟨by rfl, by intro w hSw; clear hSw; go_simp; (try with_reducible rfl)⟩) (by assumption) ?_
      try simp only [Act.put, List.setIfInBounds_toArray, List.set_cons_zero, List.set_cons_succ]
      refine wpAnyH_ready (rs := [0, 5]) (by kernel_rfl) (by simp) ?_
      refine AllReadyH.cons rfl (fun K hK => ?_) ?_
      · rw [if_pos (by rfl)]
        refine wp_ldB K4 rfl rfl ?_
        refine hK.out _ _ CA (fun hHeld => ?_)
        clear hK K
        try simp only [Act.put, List.setIfInBounds_toArray, List.set_cons_zero, List.set_cons_succ]
        refine wpAnyH_ready (rs := [5]) (by kernel_rfl) (by simp) ?_
        refine AllReadyH.cons rfl (fun K hK => ?_) AllReadyH.nil
        go_simp
        refine (pick_any _ (w.heap.size + 1) (300) n HC.out (by omega) (by omega) (by omega)).mono ?_
        rintro e yk ⟨k, hk, rfl, hc2, ht2⟩
        have K2 := K2.turned ht2 (by omega)
        have K4 := K4.turned ht2 (by omega)
        have CA := CA.turned ht2 (by omega)
        have HC := Lib.hid hc2
        have HT := Lib.hid (HT.out.trans ht2)
        clear hc2 ht2
        go_wp2_with fail
        refine hK.out _ _ CA (fun hHeld => ?_)
        clear hK K
        try simp only [Act.put, List.setIfInBounds_toArray, List.set_cons_zero, List.set_cons_succ]
        have hk0 : (0 : Int) ≤ (k : Int) := by omega
        refine wpAnyH_take (i := 6) (oi := { dst := some 30, op := _, type := _, pos := _, after := _, guard := _ }) (v := .pointer (some ⟨q, k * 2, none⟩)) rfl (by kernel_rfl) (by kernel_rfl) (by kernel_rfl) (fun _ _ _ h => h) (Or.inl ⟨by rfl, by intro w hSw; clear hSw; go_simp; (try with_reducible rfl)⟩) (by assumption) ?_
        try simp only [Act.put, List.setIfInBounds_toArray, List.set_cons_zero, List.set_cons_succ]
        refine wpAnyH_take (i := 7) (oi := { dst := some 31, op := _, type := _, pos := _, after := _, guard := _ }) (v := .agg (mk 2 fun c => (empL f 16).getD (k * 2 + c) 0)) rfl (by kernel_rfl) (by kernel_rfl) (by kernel_rfl) (fun _ _ _ h => h) (Or.inl ⟨by rfl, fun _ h => execAE h (by omega) rfl rfl⟩) (by assumption) ?_
        try simp only [Act.put, List.setIfInBounds_toArray, List.set_cons_zero, List.set_cons_succ]
        refine wpAnyH_ready (rs := [9]) (by kernel_rfl) (by simp) ?_
        refine AllReadyH.cons rfl (fun K hK => ?_) AllReadyH.nil
        go_simp
        refine (pick_any _ (w.heap.size + 1) (300 + 2) 2 HC.out (by omega) (by omega) (by omega)).mono ?_
        rintro e yt ⟨t, ht, rfl, hc2, ht2⟩
        have K2 := K2.turned ht2 (by omega)
        have K4 := K4.turned ht2 (by omega)
        have CA := CA.turned ht2 (by omega)
        have HC := Lib.hid hc2
        have HT := Lib.hid (HT.out.trans ht2)
        clear hc2 ht2
        go_wp2_with fail
        refine hK.out _ _ CA (fun hHeld => ?_)
        clear hK K
        try simp only [Act.put, List.setIfInBounds_toArray, List.set_cons_zero, List.set_cons_succ]
        have hwt : IntKind.i64.wrap (1 + (t : Int)) = 1 + (t : Int) := IntWalk.i64_in _ (by omega)
        refine wpAnyH_take (i := 10) (oi := { dst := some 34, op := _, type := _, pos := _, after := _, guard := _ }) (v := .int .i64 (1 + (t : Int))) rfl (by kernel_rfl) (by kernel_rfl) (by kernel_rfl) (fun _ _ _ h => h) (Or.inl ⟨by rfl, by intro w hSw; clear hSw; go_simp; (try with_reducible rfl)⟩) (by assumption) ?_
        try simp only [Act.put, List.setIfInBounds_toArray, List.set_cons_zero, List.set_cons_succ]
        refine wpAnyH_ready (rs := [11]) (by kernel_rfl) (by simp) ?_
        refine AllReadyH.cons rfl (fun K hK => ?_) AllReadyH.nil
        go_simp
        obtain ⟨p, hp, hr0, hc0⟩ := emp_at f 16 k (by omega)
        refine (l2Put_any f _ (p / 4) (p % 4) _ _ hr0 hc0 (by omega) (by omega)).mono ?_
        clear hr0 hc0
        rintro e y5 ⟨rfl, hb⟩
        have K2 := K2.below hb K2.lt
        have K4 := K4.below hb K4.lt
        have CA := CA.below hb
        have HT := Lib.hid (HT.out.trans (turned_below hb))
        clear hb HC
        generalize upd f (p / 4 * 4 + p % 4) (1 + (t : Int)) = f2 at *
        go_wp2_with fail
        refine hK.out _ _ CA (fun hHeld => ?_)
        clear hK K
        try simp only [Act.put, List.setIfInBounds_toArray, List.set_cons_zero, List.set_cons_succ]
        refine wpAnyH_ready (rs := [12]) (by kernel_rfl) (by simp) ?_
        refine AllReadyH.cons rfl (fun K hK => ?_) AllReadyH.nil
        have st1 := run_store_blk (P := Tryz.prog) (g := f2) K4
        have ms1 : (mk 16 f2).size = 16 := mk_size 16 _
        go_simp
        clear st1 ms1
        have K2 := K2.rowOther b4 (mk 16 f2) (by omega)
        have CA := CA.rowOther b4 (mk 16 f2) (by omega)
        have HT := Lib.hid (HT.out.rowNew (b := b4) (by simp; omega) (mk 16 f2))
        have K4 := K4.row 16 f2
        generalize y5.setRow b4 (mk 16 f2) = y6 at *
        refine hK.out _ _ CA (fun hHeld => ?_)
        clear hK K
        try simp only [Act.put, List.setIfInBounds_toArray, List.set_cons_zero, List.set_cons_succ]
        refine wpAnyH_done (by kernel_rfl) ?_ _
        clear hHeld CA
        go_wp2_with (first | ((with_reducible show wpList _ _ _ (Oper.mk _ (Op.load 27 _) _ _ _ _ :: _) _ _); refine loadB (K4) rfl rfl rfl ?_) | ((with_reducible show wpList _ _ _ (Oper.mk _ (Op.store 27 _ _) _ _ _ _ :: _) _ _); refine storeB (K2) rfl rfl rfl rfl ?_))
        try simp only [Exit.inBlock, Exit.then]
        exact retcB (K2.row 16 _) rfl rfl rfl ⟨_, rfl, below_setRow (below_two2 rfl HT.out) (Nat.le_refl _) _⟩
      refine AllReadyH.cons rfl (fun K hK => ?_) AllReadyH.nil
      go_simp
      refine (pick_any _ (w.heap.size + 1) (300) n HC.out (by omega) (by omega) (by omega)).mono ?_
      rintro e yk ⟨k, hk, rfl, hc2, ht2⟩
      have K2 := K2.turned ht2 (by omega)
      have K4 := K4.turned ht2 (by omega)
      have CA := CA.turned ht2 (by omega)
      have HC := Lib.hid hc2
      have HT := Lib.hid (HT.out.trans ht2)
      clear hc2 ht2
      go_wp2_with fail
      refine hK.out _ _ CA (fun hHeld => ?_)
      clear hK K
      try simp only [Act.put, List.setIfInBounds_toArray, List.set_cons_zero, List.set_cons_succ]
      have hk0 : (0 : Int) ≤ (k : Int) := by omega
      refine wpAnyH_take (i := 6) (oi := { dst := some 30, op := _, type := _, pos := _, after := _, guard := _ }) (v := .pointer (some ⟨q, k * 2, none⟩)) rfl (by kernel_rfl) (by kernel_rfl) (by kernel_rfl) (fun _ _ _ h => h) (Or.inl ⟨by rfl, by intro w hSw; clear hSw; go_simp; (try with_reducible rfl)⟩) (by assumption) ?_
      try simp only [Act.put, List.setIfInBounds_toArray, List.set_cons_zero, List.set_cons_succ]
      refine wpAnyH_take (i := 7) (oi := { dst := some 31, op := _, type := _, pos := _, after := _, guard := _ }) (v := .agg (mk 2 fun c => (empL f 16).getD (k * 2 + c) 0)) rfl (by kernel_rfl) (by kernel_rfl) (by kernel_rfl) (fun _ _ _ h => h) (Or.inl ⟨by rfl, fun _ h => execAE h (by omega) rfl rfl⟩) (by assumption) ?_
      try simp only [Act.put, List.setIfInBounds_toArray, List.set_cons_zero, List.set_cons_succ]
      refine wpAnyH_ready (rs := [0, 9]) (by kernel_rfl) (by simp) ?_
      refine AllReadyH.cons rfl (fun K hK => ?_) ?_
      · rw [if_pos (by rfl)]
        refine wp_ldB K4 rfl rfl ?_
        refine hK.out _ _ CA (fun hHeld => ?_)
        clear hK K
        try simp only [Act.put, List.setIfInBounds_toArray, List.set_cons_zero, List.set_cons_succ]
        refine wpAnyH_ready (rs := [9]) (by kernel_rfl) (by simp) ?_
        refine AllReadyH.cons rfl (fun K hK => ?_) AllReadyH.nil
        go_simp
        refine (pick_any _ (w.heap.size + 1) (300 + 2) 2 HC.out (by omega) (by omega) (by omega)).mono ?_
        rintro e yt ⟨t, ht, rfl, hc2, ht2⟩
        have K2 := K2.turned ht2 (by omega)
        have K4 := K4.turned ht2 (by omega)
        have CA := CA.turned ht2 (by omega)
        have HC := Lib.hid hc2
        have HT := Lib.hid (HT.out.trans ht2)
        clear hc2 ht2
        go_wp2_with fail
        refine hK.out _ _ CA (fun hHeld => ?_)
        clear hK K
        try simp only [Act.put, List.setIfInBounds_toArray, List.set_cons_zero, List.set_cons_succ]
        have hwt : IntKind.i64.wrap (1 + (t : Int)) = 1 + (t : Int) := IntWalk.i64_in _ (by omega)
        refine wpAnyH_take (i := 10) (oi := { dst := some 34, op := _, type := _, pos := _, after := _, guard := _ }) (v := .int .i64 (1 + (t : Int))) rfl (by kernel_rfl) (by kernel_rfl) (by kernel_rfl) (fun _ _ _ h => h) (Or.inl ⟨by rfl, by intro w hSw; clear hSw; go_simp; (try with_reducible rfl)⟩) (by assumption) ?_
        try simp only [Act.put, List.setIfInBounds_toArray, List.set_cons_zero, List.set_cons_succ]
        refine wpAnyH_ready (rs := [11]) (by kernel_rfl) (by simp) ?_
        refine AllReadyH.cons rfl (fun K hK => ?_) AllReadyH.nil
        go_simp
        obtain ⟨p, hp, hr0, hc0⟩ := emp_at f 16 k (by omega)
        refine (l2Put_any f _ (p / 4) (p % 4) _ _ hr0 hc0 (by omega) (by omega)).mono ?_
        clear hr0 hc0
        rintro e y5 ⟨rfl, hb⟩
        have K2 := K2.below hb K2.lt
        have K4 := K4.below hb K4.lt
        have CA := CA.below hb
        have HT := Lib.hid (HT.out.trans (turned_below hb))
        clear hb HC
        generalize upd f (p / 4 * 4 + p % 4) (1 + (t : Int)) = f2 at *
        go_wp2_with fail
        refine hK.out _ _ CA (fun hHeld => ?_)
        clear hK K
        try simp only [Act.put, List.setIfInBounds_toArray, List.set_cons_zero, List.set_cons_succ]
        refine wpAnyH_ready (rs := [12]) (by kernel_rfl) (by simp) ?_
        refine AllReadyH.cons rfl (fun K hK => ?_) AllReadyH.nil
        have st1 := run_store_blk (P := Tryz.prog) (g := f2) K4
        have ms1 : (mk 16 f2).size = 16 := mk_size 16 _
        go_simp
        clear st1 ms1
        have K2 := K2.rowOther b4 (mk 16 f2) (by omega)
        have CA := CA.rowOther b4 (mk 16 f2) (by omega)
        have HT := Lib.hid (HT.out.rowNew (b := b4) (by simp; omega) (mk 16 f2))
        have K4 := K4.row 16 f2
        generalize y5.setRow b4 (mk 16 f2) = y6 at *
        refine hK.out _ _ CA (fun hHeld => ?_)
        clear hK K
        try simp only [Act.put, List.setIfInBounds_toArray, List.set_cons_zero, List.set_cons_succ]
        refine wpAnyH_done (by kernel_rfl) ?_ _
        clear hHeld CA
        go_wp2_with (first | ((with_reducible show wpList _ _ _ (Oper.mk _ (Op.load 27 _) _ _ _ _ :: _) _ _); refine loadB (K4) rfl rfl rfl ?_) | ((with_reducible show wpList _ _ _ (Oper.mk _ (Op.store 27 _ _) _ _ _ _ :: _) _ _); refine storeB (K2) rfl rfl rfl rfl ?_))
        try simp only [Exit.inBlock, Exit.then]
        exact retcB (K2.row 16 _) rfl rfl rfl ⟨_, rfl, below_setRow (below_two2 rfl HT.out) (Nat.le_refl _) _⟩
      refine AllReadyH.cons rfl (fun K hK => ?_) AllReadyH.nil
      go_simp
      refine (pick_any _ (w.heap.size + 1) (300 + 2) 2 HC.out (by omega) (by omega) (by omega)).mono ?_
      rintro e yt ⟨t, ht, rfl, hc2, ht2⟩
      have K2 := K2.turned ht2 (by omega)
      have K4 := K4.turned ht2 (by omega)
      have CA := CA.turned ht2 (by omega)
      have HC := Lib.hid hc2
      have HT := Lib.hid (HT.out.trans ht2)
      clear hc2 ht2
      go_wp2_with fail
      refine hK.out _ _ CA (fun hHeld => ?_)
      clear hK K
      try simp only [Act.put, List.setIfInBounds_toArray, List.set_cons_zero, List.set_cons_succ]
      have hwt : IntKind.i64.wrap (1 + (t : Int)) = 1 + (t : Int) := IntWalk.i64_in _ (by omega)
      refine wpAnyH_take (i := 10) (oi := { dst := some 34, op := _, type := _, pos := _, after := _, guard := _ }) (v := .int .i64 (1 + (t : Int))) rfl (by kernel_rfl) (by kernel_rfl) (by kernel_rfl) (fun _ _ _ h => h) (Or.inl ⟨by rfl, by intro w hSw; clear hSw; go_simp; (try with_reducible rfl)⟩) (by assumption) ?_
      try simp only [Act.put, List.setIfInBounds_toArray, List.set_cons_zero, List.set_cons_succ]
      refine wpAnyH_ready (rs := [0]) (by kernel_rfl) (by simp) ?_
      refine AllReadyH.cons rfl (fun K hK => ?_) AllReadyH.nil
      rw [if_pos (by rfl)]
      refine wp_ldB K4 rfl rfl ?_
      refine hK.out _ _ CA (fun hHeld => ?_)
      clear hK K
      try simp only [Act.put, List.setIfInBounds_toArray, List.set_cons_zero, List.set_cons_succ]
      refine wpAnyH_ready (rs := [11]) (by kernel_rfl) (by simp) ?_
      refine AllReadyH.cons rfl (fun K hK => ?_) AllReadyH.nil
      go_simp
      obtain ⟨p, hp, hr0, hc0⟩ := emp_at f 16 k (by omega)
      refine (l2Put_any f _ (p / 4) (p % 4) _ _ hr0 hc0 (by omega) (by omega)).mono ?_
      clear hr0 hc0
      rintro e y5 ⟨rfl, hb⟩
      have K2 := K2.below hb K2.lt
      have K4 := K4.below hb K4.lt
      have CA := CA.below hb
      have HT := Lib.hid (HT.out.trans (turned_below hb))
      clear hb HC
      generalize upd f (p / 4 * 4 + p % 4) (1 + (t : Int)) = f2 at *
      go_wp2_with fail
      refine hK.out _ _ CA (fun hHeld => ?_)
      clear hK K
      try simp only [Act.put, List.setIfInBounds_toArray, List.set_cons_zero, List.set_cons_succ]
      refine wpAnyH_ready (rs := [12]) (by kernel_rfl) (by simp) ?_
      refine AllReadyH.cons rfl (fun K hK => ?_) AllReadyH.nil
      have st1 := run_store_blk (P := Tryz.prog) (g := f2) K4
      have ms1 : (mk 16 f2).size = 16 := mk_size 16 _
      go_simp
      clear st1 ms1
      have K2 := K2.rowOther b4 (mk 16 f2) (by omega)
      have CA := CA.rowOther b4 (mk 16 f2) (by omega)
      have HT := Lib.hid (HT.out.rowNew (b := b4) (by simp; omega) (mk 16 f2))
      have K4 := K4.row 16 f2
      generalize y5.setRow b4 (mk 16 f2) = y6 at *
      refine hK.out _ _ CA (fun hHeld => ?_)
      clear hK K
      try simp only [Act.put, List.setIfInBounds_toArray, List.set_cons_zero, List.set_cons_succ]
      refine wpAnyH_done (by kernel_rfl) ?_ _
      clear hHeld CA
      go_wp2_with (first | ((with_reducible show wpList _ _ _ (Oper.mk _ (Op.load 27 _) _ _ _ _ :: _) _ _); refine loadB (K4) rfl rfl rfl ?_) | ((with_reducible show wpList _ _ _ (Oper.mk _ (Op.store 27 _ _) _ _ _ _ :: _) _ _); refine storeB (K2) rfl rfl rfl rfl ?_))
      try simp only [Exit.inBlock, Exit.then]
      exact retcB (K2.row 16 _) rfl rfl rfl ⟨_, rfl, below_setRow (below_two2 rfl HT.out) (Nat.le_refl _) _⟩
  · have HV := Lib.hid hV
    clear hV
    generalize empN f 16 = n at *
    go_wp2_with ((with_reducible show wpList _ _ _ (Oper.mk _ (Op.load 27 _) _ _ _ _ :: _) _ _); refine loadB (K4) rfl rfl rfl ?_)
    refine (l2Board_no _ _ HV.out).mono ?_
    rintro e w5 ⟨rfl, hb⟩
    have K2 := K2.below hb K2.lt
    have K4 := K4.below hb K4.lt
    have HT := Lib.hid (HT.out.trans (turned_below hb))
    clear hb HV
    go_wp2_with (first | ((with_reducible show wpList _ _ _ (Oper.mk _ (Op.load 27 _) _ _ _ _ :: _) _ _); refine loadB (K4) rfl rfl rfl ?_) | ((with_reducible show wpList _ _ _ (Oper.mk _ (Op.store 27 _ _) _ _ _ _ :: _) _ _); refine storeB (K2) rfl rfl rfl rfl ?_))
    try simp only [Exit.inBlock, Exit.then]
    exact retcB (K2.row 16 _) rfl rfl rfl ⟨_, rfl, below_setRow (below_two2 rfl HT.out) (Nat.le_refl _) _⟩
end Go.Proofs.YtmcmpedmgibmkabGreat
namespace Go.Proofs.YtmcmpedmgibmkabGreat
open Go.RowKit Plain
attribute [local go_sem] Oper.semAt_some

set_option maxHeartbeats 400000 in
theorem rInts_yes (v u : Value) (n : Nat) (h : Nat → Int) (w : World) (hv : IRow w v n h) (hu : IRow w u n h) (hn : n ≤ 1048576) :
    Calls Tryz.prog 12 #[v, u] w fun e w' => e = .returned (.bool true) ∧ ∃ k, w' = w.drewN k := by
  obtain ⟨b1, c1, rfl, _, _, hc1⟩ := hv
  obtain ⟨b2, c2, rfl, _, _, hc2⟩ := hu
  have HC1 := Lib.hid hc1
  have HC2 := Lib.hid hc2
  clear hc1 hc2
  go_enter Tryz.func12, Tryz.ntmps12
  go_wp2
  go_loopw [5] (fun i wr => ∃ k m : Nat, k ≤ n ∧ i = .int .i64 k ∧ wr = w.drewN m) (fun i _ => n - (intOf i).toNat)
  case atStart => exact ⟨0, 0, Nat.zero_le _, rfl, rfl⟩
  case round =>
    obtain ⟨k, m, hk, rfl, rfl⟩ := hrel
    by_cases hlt : k < n
    · have e1 := HC1.out k hlt
      have e2 := HC2.out k hlt
      generalize h k = t at *
      have hb : (0 : Int) ≤ (k : Int) := by omega
      have hl : (k : Int) < (n : Int) := by omega
      go_wp2_with fail
      go_quiet (fail)
      go_wp2
      go_roundw
      case rel => exact ⟨k + 1, _, by omega, by go_num, rfl⟩
      case measure => simp [intOf]; omega
    · go_wp2
      go_ret
      exact ⟨rfl, _, rfl⟩
/-- x is among the first n numbers. -/
def hasI (h : Nat → Int) (n : Nat) (x : Int) : Bool := (List.range n).any fun j => h j == x
theorem hasI_yes {h : Nat → Int} {n k : Nat} {x : Int} (hk : k < n) (hx : h k = x) : hasI h n x = true := by
  unfold hasI
  rw [List.any_eq_true]
  exact ⟨k, List.mem_range.2 hk, by simpa using hx⟩
theorem hasI_no {h : Nat → Int} {n : Nat} {x : Int} (hx : ∀ j, j < n → h j ≠ x) : hasI h n x = false := by
  unfold hasI
  rw [List.any_eq_false]
  intro j hj
  simpa using hx j (List.mem_range.1 hj)
set_option maxHeartbeats 400000 in
theorem rHas_any (v : Value) (n : Nat) (h : Nat → Int) (x : Int) (w : World) (hv : IRow w v n h) (hn : n ≤ 1048576) :
    Calls Tryz.prog 13 #[v, .int .i64 x] w fun e w' => e = .returned (.bool (hasI h n x)) ∧ w = w' := by
  obtain ⟨b1, c1, rfl, _, _, hc1⟩ := hv
  have HC1 := Lib.hid hc1
  clear hc1
  go_enter Tryz.func13, Tryz.ntmps13
  go_wp2
  go_loopg [5] n (fun g s5 wr => ∃ k : Nat, k + g = n ∧ s5 = .int .i64 k ∧ (∀ j, j < k → h j ≠ x) ∧ w = wr)
  case atStart => exact ⟨0, by omega, rfl, fun j hj => by omega, rfl⟩
  case round =>
    obtain ⟨k, hkg, rfl, hn0, rfl⟩ := hrel
    have HN := Lib.hid hn0
    clear hn0
    cases gk with
    | zero =>
      have hk : ¬ ((k : Int) < (n : Int)) := by omega
      obtain rfl : k = n := by omega
      clear hkg hk
      go_wp2_with fail
      go_ret
      exact ⟨by rw [hasI_no HN.out]; rfl, rfl⟩
    | succ g =>
      have hk : (k : Int) < (n : Int) := by omega
      have hkn : k < n := by omega
      have hb : (0 : Int) ≤ (k : Int) := by omega
      have e1 := HC1.out k hkn
      by_cases hq : h k = x
      · have q1 : (h k == x) = true := by simpa using hq
        have HY := Lib.hid (hasI_yes hkn hq)
        clear hq
        generalize h k = t at *
        go_wp2_with fail
        go_ret
        exact ⟨by rw [HY.out]; rfl, rfl⟩
      · have q1 : (h k == x) = false := by simpa using hq
        have HQ := Lib.hid hq
        clear hq
        generalize ht : h k = t at *
        have HT := Lib.hid ht
        clear ht
        go_wp2_with fail
        go_roundg g
        case rel => exact ⟨k + 1, by omega, by go_num, fun j hj => by
          by_cases e : j = k
          · subst e; rw [HT.out]; exact HQ.out
          · exact HN.out j (by omega), rfl⟩
        case measure => omega
theorem mem_mov (f : Nat → Int) (x : Int) : ∀ k, x ∈ movL f k ↔ ∃ j, j < k ∧ x = (j : Int) ∧ isMv f j = true
  | 0 => by simp [movL]
  | k + 1 => by
    have ih := mem_mov f x k
    by_cases h : isMv f k = true
    · rw [mov_yes h, List.mem_append, ih]
      constructor
      · rintro (⟨j, a, b, c⟩ | hx)
        · exact ⟨j, by omega, b, c⟩
        · exact ⟨k, by omega, by simpa using hx, h⟩
      · rintro ⟨j, a, b, c⟩
        by_cases e : j = k
        · subst e; exact .inr (by simpa using b)
        · exact .inl ⟨j, by omega, b, c⟩
    · have h2 : isMv f k = false := by simpa using h
      rw [mov_no h2, ih]
      constructor
      · rintro ⟨j, a, b, c⟩; exact ⟨j, by omega, b, c⟩
      · rintro ⟨j, a, b, c⟩
        by_cases e : j = k
        · subst e; exact absurd c h
        · exact ⟨j, by omega, b, c⟩
theorem has_mov (f : Nat → Int) {d : Nat} (hd : d < 4) : hasI (fun i => (movL f 4).getD i 0) (movL f 4).length (d : Int) = isMv f d := by
  by_cases h : isMv f d = true
  · rw [h]
    have hm : (d : Int) ∈ movL f 4 := (mem_mov f d 4).2 ⟨d, hd, rfl, h⟩
    obtain ⟨i, hi, he⟩ := List.getElem_of_mem hm
    exact hasI_yes hi (by show (movL f 4).getD i 0 = _; rw [List.getD_eq_getElem?_getD, List.getElem?_eq_getElem hi]; exact he)
  · have h2 : isMv f d = false := by simpa using h
    rw [h2]
    refine hasI_no fun j hj e => ?_
    have e2 : (movL f 4).getD j 0 = (d : Int) := e
    rw [List.getD_eq_getElem?_getD, List.getElem?_eq_getElem hj] at e2
    have hm : (d : Int) ∈ movL f 4 := by
      have := List.getElem_mem hj
      rw [show (movL f 4)[j] = (d : Int) from e2] at this
      exact this
    obtain ⟨l, _, b, c⟩ := (mem_mov f d 4).1 hm
    have : l = d := by omega
    subst this
    exact h c
theorem noMv_iff (f : Nat → Int) : (movL f 4).length = 0 ↔ NoMv f := by
  constructor
  · intro h d hd j hj
    have hn : ¬ isMv f d = true := fun e => by
      have := (mem_mov f d 4).2 ⟨d, hd, rfl, e⟩
      rw [List.length_eq_zero_iff.1 h] at this
      cases this
    have : sameB (slideB f d) f = true := by simpa [isMv] using hn
    exact sameB_iff.1 this j hj
  · intro h
    apply List.length_eq_zero_iff.2
    apply List.eq_nil_iff_forall_not_mem.2
    intro x hx
    obtain ⟨j, a, _, c⟩ := (mem_mov f x 4).1 hx
    have : sameB (slideB f j) f = true := sameB_iff.2 (h j a)
    simp [isMv, this] at c
end Go.Proofs.YtmcmpedmgibmkabGreat
namespace Go.Proofs.YtmcmpedmgibmkabGreat.Plain
theorem fb_has (L : List Int) (x : Int) : hasI (fun i => L.getD i 0) L.length x = decide (x ∈ L) := by
  by_cases h : x ∈ L
  · rw [decide_eq_true h]
    obtain ⟨i, hi, e⟩ := List.getElem_of_mem h
    exact hasI_yes (k := i) hi (by rw [List.getD_eq_getElem?_getD, List.getElem?_eq_getElem hi, Option.getD_some, e])
  · rw [decide_eq_false h]
    exact hasI_no fun j hj e => h (by rw [← e, List.getD_eq_getElem?_getD, List.getElem?_eq_getElem hj, Option.getD_some]; exact List.getElem_mem hj)
theorem fb_pos {f : Nat → Int} {d : Int} (h : slideRO f d = true) : hasI (fun i => (siR f).getD i 0) (siR f).length d = decide (0 < cbR f d) := by
  rw [fb_has]; exact si_has (of_decide_eq_true h)
theorem fb_one {f : Nat → Int} {d : Int} (h : slideRO f d = true) : ∃ k : Nat, d = k ∧ k < 4 ∧ wyR f k = cbR f d := by
  have hs : SlideOk f d := of_decide_eq_true h
  have hw := wy_at hs
  obtain ⟨_, h0, h3⟩ := hs
  exact ⟨d.toNat, by omega, by omega, hw⟩
theorem fb_len {f : Nat → Int} {d : Int} (h : bbO f d = true) : ((bbR f d).length : Int) = cbR f d := bb_len (of_decide_eq_true h)
/-- A board that lies before another slides to it, and is another. -/
theorem fb_slide {f : Nat → Int} {d : Int} {x : List Int} (hx : x ∈ bbR f d) : slideRO (fn x) d = true ∧ sameB (slideRB (fn x) d) f = true ∧ sameB (fn x) f = false := by
  obtain ⟨_, h1, h2, h3, h4⟩ := bb_in hx
  have hs : SlideOk (fn x) d := ⟨h2, h1.2⟩
  refine ⟨(slide_yes hs).1, ?_, h4⟩
  rw [(slide_yes hs).2.1]
  exact sameB_iff.2 h3
theorem fb_at {f : Nat → Int} {d : Int} {i : Nat} (hi : i < (bbR f d).length) : ∃ x, (bbR f d)[i]? = some x ∧ x ∈ bbR f d := ⟨_, List.getElem?_eq_getElem hi, List.getElem_mem hi⟩
theorem fb_less {f : Nat → Int} {d : Int} {i : Nat} {x y : List Int} (hx : (bbR f d)[i]? = some x) (hy : (bbR f d)[i + 1]? = some y) : lessR (fn x) (fn y) = true ∧ lessO (fn x) (fn y) = true := by
  have h1 := bb_in (List.mem_of_getElem? hx)
  have h2 := bb_in (List.mem_of_getElem? hy)
  have e1 : cl 16 (fn x) = x := cl_fn h1.1
  have e2 : cl 16 (fn y) = y := cl_fn h2.1
  rw [(less_yes h1.2.2.1 h2.2.2.1).1, (less_yes h1.2.2.1 h2.2.2.1).2]
  refine ⟨?_, rfl⟩
  have := bb_less hx hy
  rw [← e1, ← e2, lt_cl] at this
  exact this
/-- A cell by whose new tile a board arises holds that tile, and without it a move makes the board. -/
theorem fb_cell {f : Nat → Int} {i : Nat} (hi : i < arRN f) : takeO f (fun c => (arRL f).getD (i * 2 + c) 0) = true ∧ takeT f (fun c => (arRL f).getD (i * 2 + c) 0) ≤ 2 ∧ mdR (takeB f (fun c => (arRL f).getD (i * 2 + c) 0)) = true ∧ vdO (takeB f (fun c => (arRL f).getD (i * 2 + c) 0)) = true := by
  by_cases hV : Vd f
  · simp only [arRN, arRL, hV, if_true] at hi ⊢
    obtain ⟨k, hk, ho, e0, e1⟩ := ce_at _ 16 i hi
    obtain ⟨a1, a2, a3⟩ := ar_in ho
    generalize hg : (fun c => (ceL (arO f) 16).getD (i * 2 + c) 0) = g at *
    have g0 : g 0 = ((k / 4 : Nat) : Int) := by rw [← hg]; show (ceL (arO f) 16).getD (i * 2 + 0) 0 = _; rw [Nat.add_zero, List.getD_eq_getElem?_getD, e0, Option.getD_some]
    have g1 : g 1 = ((k % 4 : Nat) : Int) := by rw [← hg]; show (ceL (arO f) 16).getD (i * 2 + 1) 0 = _; rw [List.getD_eq_getElem?_getD, e1, Option.getD_some]
    have hp : placeAt g = k := by unfold placeAt; rw [g0, g1]; omega
    have hc : CellIn g := by unfold CellIn; rw [g0, g1]; omega
    have ht : TakeOk f g := ⟨hV, hc, by rw [hp]; omega⟩
    rw [(take_yes ht).1, (take_yes ht).2.1, (take_yes ht).2.2, hp]
    refine ⟨rfl, a2, a3, ?_⟩
    apply vdO_yes
    intro j hj
    unfold upd
    split
    · omega
    · exact hV j hj
  · simp [arRN, hV] at hi
end Go.Proofs.YtmcmpedmgibmkabGreat.Plain
