/-
  What the reference draws for FnMergersBack and FnBack: a board and a direction, mostly one that a move makes.
-/
import Derived.Test.YtphkidkkcknnmaaDrawsA
import Derived.Test.YtphkidkkcknnmaaSpecWith
import Derived.Test.YtphkidkkcknnmaaSpecWays
namespace Go.Proofs.Ytphkidkkcknnmaa
open Go.RowKit Plain
attribute [local go_sem] store_new
set_option linter.unusedVariables false
set_option linter.unusedSimpArgs false

theorem withF_vd {d i : Nat} {x r : Nat → Int} (hx : Vd x) (hr : VdRow r) : Vd (withF d i x r) := fun j hj => by
  unfold withF; split
  · exact hr _ (placeOf_lt hj)
  · exact hx j hj
theorem Dr.kept {w W W' : World} {B m : Nat} (h : Dr w B m W) (hb : RowKit.Below W.heap.size W W') : Dr w B m W' := h.call (h.1.kept hb) ⟨hb.os, hb.tape, hb.output, hb.size, fun k hk _ => hb.block k hk⟩
set_option maxHeartbeats 2000000 in
set_option maxRecDepth 20000 in
theorem made_any (w : World) (B m : Nat) (hc : Cur w B m) (hm : m ≤ 999980000) :
    Calls Try.prog 106 #[.pointer (some ⟨B, 0, none⟩)] w fun e w' => ∃ (f : Nat → Int) (d : Int), e = .returned (.tuple #[.agg (mk 16 f), .int .i64 d]) ∧ Cur w' B (m + 300) ∧ Turned B w w' := by
  have z16 := zero16
  have D := Lib.hid ((Dr.start hc).alloc (.cells (mk 16 fun _ => 0) 28))
  have K2 := Blk.new w 16 (fun _ => 0) 28
  have HB0 := Lib.hid hc.lt
  clear hc
  go_enter Try.func106, Try.ntmps106
  go_wp2_with fail
  refine (board_any _ B m D.out.1 (by omega)).mono ?_
  rintro e w1 ⟨f, rfl, hc1, ht1⟩
  have K2 := K2.turned ht1 (by have := HB0.out; omega)
  have D : Hid (Dr w B (m + 200) w1) := D.out.call hc1 ht1
  clear hc1 ht1
  go_wp2_with fail
  refine (side_any _ B (m + 200) D.out.1 (by omega)).mono ?_
  rintro e w2 ⟨d, rfl, hc1, ht1⟩
  have K2 := K2.turned ht1 (by have := HB0.out; omega)
  have hb4 : w.heap.size < w2.heap.size := K2.lt
  have K2 := K2.alloc (.cells (mk 16 f) 28)
  have D : Hid (Dr w B (m + 200 + 4) (w2.alloc (.cells (mk 16 f) 28))) := (D.out.call hc1 ht1).alloc _
  have K4 := Blk.new w2 16 f 28
  clear hc1 ht1
  by_cases hV : Vd f
  · have HV := Lib.hid hV
    clear hV
    go_wp2_with ((with_reducible show wpList _ _ _ (Oper.mk _ (Op.load 28 _) _ _ _ _ :: _) _ _); refine loadB (K4) rfl rfl rfl ?_)
    generalize w2.alloc (.cells (mk 16 f) 28) = w3 at *
    generalize w2.heap.size = b4 at *
    refine (l2Board_yes _ _ HV.out).mono ?_
    rintro e w4 ⟨rfl, hb⟩
    have K2 := K2.below hb K2.lt
    have K4 := K4.below hb K4.lt
    have D : Hid (Dr w B (m + 200 + 4) w4) := D.out.kept hb
    clear hb
    by_cases hd : 0 ≤ d ∧ d ≤ 3
    · obtain ⟨d, rfl⟩ := Int.eq_ofNat_of_zero_le hd.1
      have d0 : (0 : Int) ≤ (d : Int) := by omega
      have d3 : (d : Int) ≤ 3 := by omega
      have hd4 : d < 4 := by omega
      clear hd
      go_wp2_with fail
      refine (l2Side_yes _ _ d0 d3).mono ?_
      rintro e w' ⟨rfl, rfl⟩
      go_wp2_with fail
      refine (one_any _ B (m + 200 + 4) 4 D.out.1 (by omega) (by omega) (by omega)).mono ?_
      rintro e w5 ⟨ba, rfl, hc1, ht1⟩
      have K2 := K2.turned ht1 (by have := HB0.out; omega)
      have K4 := K4.turned ht1 (by have := HB0.out; omega)
      have D : Hid (Dr w B (m + 200 + 4 + 2) w5) := D.out.call hc1 ht1
      clear hc1 ht1
      cases ba with
      | true =>
        go_wp2_with ((with_reducible show wpList _ _ _ (Oper.mk _ (Op.load 28 _) _ _ _ _ :: _) _ _); refine loadB (K4) rfl rfl rfl ?_)
        refine (l2Board_yes _ _ HV.out).mono ?_
        rintro e w11 ⟨rfl, hb⟩
        have K2 := K2.below hb K2.lt
        have K4 := K4.below hb K4.lt
        have D : Hid (Dr w B (m + 200 + 4 + 2) w11) := D.out.kept hb
        clear hb
        go_wp2_with fail
        refine (l2Side_yes _ _ d0 d3).mono ?_
        rintro e w' ⟨rfl, rfl⟩
        go_wp2_with fail
        refine (one_any _ B (m + 200 + 4 + 2) 2 D.out.1 (by omega) (by omega) (by omega)).mono ?_
        rintro e w12 ⟨bb, rfl, hc1, ht1⟩
        have K2 := K2.turned ht1 (by have := HB0.out; omega)
        have K4 := K4.turned ht1 (by have := HB0.out; omega)
        have D : Hid (Dr w B ((m + 200 + 4 + 2) + 2) w12) := D.out.call hc1 ht1
        clear hc1 ht1
        cases bb with
        | false =>
          go_wp2_with (first | ((with_reducible show wpList _ _ _ (Oper.mk _ (Op.load 28 _) _ _ _ _ :: _) _ _); refine loadB (K4) rfl rfl rfl ?_) | ((with_reducible show wpList _ _ _ (Oper.mk _ (Op.store 28 _ _) _ _ _ _ :: _) _ _); refine storeB (K2) rfl rfl rfl rfl ?_))
          try simp only [Exit.inBlock, Exit.then]
          exact retctB (K2.row 16 _) rfl rfl rfl ⟨_, _, rfl, ((D.out.row (Nat.le_refl _) _).more (show _ ≤ m + 300 by omega)).1, (D.out.row (Nat.le_refl _) _).2.1⟩
        | true =>
          go_wp2_with fail
          go_loopg [6] 3 (fun g s6 wr => ∃ (i : Nat) (y : Nat → Int), i + g = 3 ∧ s6 = .int .i64 i ∧ Blk wr w.heap.size 16 (fun _ => 0) 28 ∧ Blk wr b4 16 y 28 ∧ Hid (Dr w B ((m + 200 + 4 + 2) + 2 + 2 * i) wr))
          case atStart => exact ⟨0, _, by omega, rfl, K2, K4, D⟩
          case round =>
            clear K2 K4 D HV
            obtain ⟨i, y, hig, rfl, K2, K4, D⟩ := hrel
            cases gk with
            | zero =>
              obtain rfl : i = 3 := by omega
              go_wp2_with fail
              refine (pick_any _ B ((m + 200 + 4 + 2) + 2 + 2 * 3) 3 D.out.1 (by omega) (by omega) (by omega)).mono ?_
              rintro e w13 ⟨q, hq, rfl, hc1, ht1⟩
              have K2 := K2.turned ht1 (by have := HB0.out; omega)
              have K4 := K4.turned ht1 (by have := HB0.out; omega)
              have D : Hid (Dr w B ((m + 200 + 4 + 2) + 2 + 2 * 3 + 2) w13) := D.out.call hc1 ht1
              have hn : ¬ (((3 : Nat) : Int) < 1 + (q : Int)) := by omega
              have hn2 : ¬ ((3 : Int) < 1 + (q : Int)) := by omega
              have hw : IntKind.i64.wrap (1 + (q : Int)) = 1 + (q : Int) := IntWalk.i64_in _ (by omega)
              clear hc1 ht1
              go_wp2_with (first | ((with_reducible show wpList _ _ _ (Oper.mk _ (Op.load 28 _) _ _ _ _ :: _) _ _); refine loadB (K4) rfl rfl rfl ?_) | ((with_reducible show wpList _ _ _ (Oper.mk _ (Op.store 28 _ _) _ _ _ _ :: _) _ _); refine storeB (K2) rfl rfl rfl rfl ?_))
              try simp only [Exit.inBlock, Exit.then]
              exact retctB (K2.row 16 _) rfl rfl rfl ⟨_, _, rfl, ((D.out.row (Nat.le_refl _) _).more (show _ ≤ m + 300 by omega)).1, (D.out.row (Nat.le_refl _) _).2.1⟩
            | succ q9 =>
              have hi4 : i < 4 := by omega
              go_wp2_with fail
              refine (pick_any _ B ((m + 200 + 4 + 2) + 2 + 2 * i) 3 D.out.1 (by omega) (by omega) (by omega)).mono ?_
              rintro e w13 ⟨q, hq, rfl, hc1, ht1⟩
              have K2 := K2.turned ht1 (by have := HB0.out; omega)
              have K4 := K4.turned ht1 (by have := HB0.out; omega)
              have D : Hid (Dr w B ((m + 200 + 4 + 2) + 2 + 2 * i + 2) w13) := D.out.call hc1 ht1
              have hw : IntKind.i64.wrap (1 + (q : Int)) = 1 + (q : Int) := IntWalk.i64_in _ (by omega)
              clear hc1 ht1
              by_cases hlt : (i : Int) < 1 + (q : Int)
              · have z4 := zero4
                go_wp2_with ((with_reducible show wpList _ _ _ (Oper.mk _ (Op.load 28 _) _ _ _ _ :: _) _ _); refine loadB (K4) rfl rfl rfl ?_)
                refine (l6With_any y (fun _ => 0) d i _ hd4 hi4).mono ?_
                rintro e w14 ⟨rfl, hb⟩
                have K2 := K2.below hb K2.lt
                have K4 := K4.below hb K4.lt
                have D : Hid (Dr w B ((m + 200 + 4 + 2) + 2 + 2 * i + 2) w14) := D.out.kept hb
                clear hb
                go_wp2_with ((with_reducible show wpList _ _ _ (Oper.mk _ (Op.store 28 _ _) _ _ _ _ :: _) _ _); refine storeB (K4) rfl rfl rfl rfl ?_)
                go_roundg q9
                case rel => exact ⟨i + 1, _, by omega, by go_num, K2.rowOther _ _ (by have := HB0.out; omega), K4.row 16 _, (D.out.row (by have := HB0.out; omega) _).more (by omega)⟩
                case measure => omega
              ·
                go_wp2_with (first | ((with_reducible show wpList _ _ _ (Oper.mk _ (Op.load 28 _) _ _ _ _ :: _) _ _); refine loadB (K4) rfl rfl rfl ?_) | ((with_reducible show wpList _ _ _ (Oper.mk _ (Op.store 28 _ _) _ _ _ _ :: _) _ _); refine storeB (K2) rfl rfl rfl rfl ?_))
                try simp only [Exit.inBlock, Exit.then]
                exact retctB (K2.row 16 _) rfl rfl rfl ⟨_, _, rfl, ((D.out.row (Nat.le_refl _) _).more (show _ ≤ m + 300 by omega)).1, (D.out.row (Nat.le_refl _) _).2.1⟩
      | false =>
        go_wp2_with ((with_reducible show wpList _ _ _ (Oper.mk _ (Op.load 28 _) _ _ _ _ :: _) _ _); refine loadB (K4) rfl rfl rfl ?_)
        refine (l2Slide_nat f d _ HV.out d0 d3).mono ?_
        rintro e w6 ⟨rfl, hb⟩
        have K2 := K2.below hb K2.lt
        have K4 := K4.below hb K4.lt
        have D : Hid (Dr w B (m + 200 + 4 + 2) w6) := D.out.kept hb
        have K4s := K4.row 16 (slideB f d)
        have K2s := K2.rowOther b4 (mk 16 (slideB f d)) (by omega)
        have Ds : Hid (Dr w B (m + 200 + 4 + 2) (w6.setRow b4 (mk 16 (slideB f d)))) := D.out.row (by omega) _
        have HV2 := Lib.hid (slideB_vd HV.out d)
        clear hb
        generalize slideB f d = f2 at *
        clear HV
        have HV := HV2
        go_wp2_with (first | ((with_reducible show wpList _ _ _ (Oper.mk _ (Op.store 28 _ _) _ _ _ _ :: _) _ _); refine storeB (K4) rfl rfl rfl rfl ?_) | ((with_reducible show wpList _ _ _ (Oper.mk _ (Op.load 28 _) _ _ _ _ :: _) _ _); refine loadB (K4s) rfl rfl rfl ?_))
        have K4 := K4s
        have K2 := K2s
        have D := Ds
        clear K4s K2s Ds
        generalize w6.setRow b4 (mk 16 f2) = w7 at *
        refine (l2Board_yes _ _ HV.out).mono ?_
        rintro e w11 ⟨rfl, hb⟩
        have K2 := K2.below hb K2.lt
        have K4 := K4.below hb K4.lt
        have D : Hid (Dr w B (m + 200 + 4 + 2) w11) := D.out.kept hb
        clear hb
        go_wp2_with fail
        refine (l2Side_yes _ _ d0 d3).mono ?_
        rintro e w' ⟨rfl, rfl⟩
        go_wp2_with fail
        refine (one_any _ B (m + 200 + 4 + 2) 2 D.out.1 (by omega) (by omega) (by omega)).mono ?_
        rintro e w12 ⟨bb, rfl, hc1, ht1⟩
        have K2 := K2.turned ht1 (by have := HB0.out; omega)
        have K4 := K4.turned ht1 (by have := HB0.out; omega)
        have D : Hid (Dr w B ((m + 200 + 4 + 2) + 2) w12) := D.out.call hc1 ht1
        clear hc1 ht1
        cases bb with
        | false =>
          go_wp2_with (first | ((with_reducible show wpList _ _ _ (Oper.mk _ (Op.load 28 _) _ _ _ _ :: _) _ _); refine loadB (K4) rfl rfl rfl ?_) | ((with_reducible show wpList _ _ _ (Oper.mk _ (Op.store 28 _ _) _ _ _ _ :: _) _ _); refine storeB (K2) rfl rfl rfl rfl ?_))
          try simp only [Exit.inBlock, Exit.then]
          exact retctB (K2.row 16 _) rfl rfl rfl ⟨_, _, rfl, ((D.out.row (Nat.le_refl _) _).more (show _ ≤ m + 300 by omega)).1, (D.out.row (Nat.le_refl _) _).2.1⟩
        | true =>
          go_wp2_with fail
          go_loopg [6] 3 (fun g s6 wr => ∃ (i : Nat) (y : Nat → Int), i + g = 3 ∧ s6 = .int .i64 i ∧ Blk wr w.heap.size 16 (fun _ => 0) 28 ∧ Blk wr b4 16 y 28 ∧ Hid (Dr w B ((m + 200 + 4 + 2) + 2 + 2 * i) wr))
          case atStart => exact ⟨0, _, by omega, rfl, K2, K4, D⟩
          case round =>
            clear K2 K4 D HV
            obtain ⟨i, y, hig, rfl, K2, K4, D⟩ := hrel
            cases gk with
            | zero =>
              obtain rfl : i = 3 := by omega
              go_wp2_with fail
              refine (pick_any _ B ((m + 200 + 4 + 2) + 2 + 2 * 3) 3 D.out.1 (by omega) (by omega) (by omega)).mono ?_
              rintro e w13 ⟨q, hq, rfl, hc1, ht1⟩
              have K2 := K2.turned ht1 (by have := HB0.out; omega)
              have K4 := K4.turned ht1 (by have := HB0.out; omega)
              have D : Hid (Dr w B ((m + 200 + 4 + 2) + 2 + 2 * 3 + 2) w13) := D.out.call hc1 ht1
              have hn : ¬ (((3 : Nat) : Int) < 1 + (q : Int)) := by omega
              have hn2 : ¬ ((3 : Int) < 1 + (q : Int)) := by omega
              have hw : IntKind.i64.wrap (1 + (q : Int)) = 1 + (q : Int) := IntWalk.i64_in _ (by omega)
              clear hc1 ht1
              go_wp2_with (first | ((with_reducible show wpList _ _ _ (Oper.mk _ (Op.load 28 _) _ _ _ _ :: _) _ _); refine loadB (K4) rfl rfl rfl ?_) | ((with_reducible show wpList _ _ _ (Oper.mk _ (Op.store 28 _ _) _ _ _ _ :: _) _ _); refine storeB (K2) rfl rfl rfl rfl ?_))
              try simp only [Exit.inBlock, Exit.then]
              exact retctB (K2.row 16 _) rfl rfl rfl ⟨_, _, rfl, ((D.out.row (Nat.le_refl _) _).more (show _ ≤ m + 300 by omega)).1, (D.out.row (Nat.le_refl _) _).2.1⟩
            | succ q9 =>
              have hi4 : i < 4 := by omega
              go_wp2_with fail
              refine (pick_any _ B ((m + 200 + 4 + 2) + 2 + 2 * i) 3 D.out.1 (by omega) (by omega) (by omega)).mono ?_
              rintro e w13 ⟨q, hq, rfl, hc1, ht1⟩
              have K2 := K2.turned ht1 (by have := HB0.out; omega)
              have K4 := K4.turned ht1 (by have := HB0.out; omega)
              have D : Hid (Dr w B ((m + 200 + 4 + 2) + 2 + 2 * i + 2) w13) := D.out.call hc1 ht1
              have hw : IntKind.i64.wrap (1 + (q : Int)) = 1 + (q : Int) := IntWalk.i64_in _ (by omega)
              clear hc1 ht1
              by_cases hlt : (i : Int) < 1 + (q : Int)
              · have z4 := zero4
                go_wp2_with ((with_reducible show wpList _ _ _ (Oper.mk _ (Op.load 28 _) _ _ _ _ :: _) _ _); refine loadB (K4) rfl rfl rfl ?_)
                refine (l6With_any y (fun _ => 0) d i _ hd4 hi4).mono ?_
                rintro e w14 ⟨rfl, hb⟩
                have K2 := K2.below hb K2.lt
                have K4 := K4.below hb K4.lt
                have D : Hid (Dr w B ((m + 200 + 4 + 2) + 2 + 2 * i + 2) w14) := D.out.kept hb
                clear hb
                go_wp2_with ((with_reducible show wpList _ _ _ (Oper.mk _ (Op.store 28 _ _) _ _ _ _ :: _) _ _); refine storeB (K4) rfl rfl rfl rfl ?_)
                go_roundg q9
                case rel => exact ⟨i + 1, _, by omega, by go_num, K2.rowOther _ _ (by have := HB0.out; omega), K4.row 16 _, (D.out.row (by have := HB0.out; omega) _).more (by omega)⟩
                case measure => omega
              ·
                go_wp2_with (first | ((with_reducible show wpList _ _ _ (Oper.mk _ (Op.load 28 _) _ _ _ _ :: _) _ _); refine loadB (K4) rfl rfl rfl ?_) | ((with_reducible show wpList _ _ _ (Oper.mk _ (Op.store 28 _ _) _ _ _ _ :: _) _ _); refine storeB (K2) rfl rfl rfl rfl ?_))
                try simp only [Exit.inBlock, Exit.then]
                exact retctB (K2.row 16 _) rfl rfl rfl ⟨_, _, rfl, ((D.out.row (Nat.le_refl _) _).more (show _ ≤ m + 300 by omega)).1, (D.out.row (Nat.le_refl _) _).2.1⟩
    · have HD := Lib.hid (show d < 0 ∨ 3 < d by omega)
      go_wp2_with fail
      refine (l2Side_no _ _ HD.out).mono ?_
      rintro e w' ⟨rfl, rfl⟩
      go_wp2_with ((with_reducible show wpList _ _ _ (Oper.mk _ (Op.load 28 _) _ _ _ _ :: _) _ _); refine loadB (K4) rfl rfl rfl ?_)
      refine (l2Board_yes _ _ HV.out).mono ?_
      rintro e w5 ⟨rfl, hb⟩
      have K2 := K2.below hb K2.lt
      have K4 := K4.below hb K4.lt
      have D : Hid (Dr w B (m + 200 + 4) w5) := D.out.kept hb
      clear hb
      go_wp2_with fail
      refine (l2Side_no _ _ HD.out).mono ?_
      rintro e w' ⟨rfl, rfl⟩
      go_wp2_with (first | ((with_reducible show wpList _ _ _ (Oper.mk _ (Op.load 28 _) _ _ _ _ :: _) _ _); refine loadB (K4) rfl rfl rfl ?_) | ((with_reducible show wpList _ _ _ (Oper.mk _ (Op.store 28 _ _) _ _ _ _ :: _) _ _); refine storeB (K2) rfl rfl rfl rfl ?_))
      try simp only [Exit.inBlock, Exit.then]
      exact retctB (K2.row 16 _) rfl rfl rfl ⟨_, _, rfl, ((D.out.row (Nat.le_refl _) _).more (show _ ≤ m + 300 by omega)).1, (D.out.row (Nat.le_refl _) _).2.1⟩
  · have HV := Lib.hid hV
    clear hV
    go_wp2_with ((with_reducible show wpList _ _ _ (Oper.mk _ (Op.load 28 _) _ _ _ _ :: _) _ _); refine loadB (K4) rfl rfl rfl ?_)
    generalize w2.alloc (.cells (mk 16 f) 28) = w3 at *
    generalize w2.heap.size = b4 at *
    refine (l2Board_no _ _ HV.out).mono ?_
    rintro e w4 ⟨rfl, hb⟩
    have K2 := K2.below hb K2.lt
    have K4 := K4.below hb K4.lt
    have D : Hid (Dr w B (m + 200 + 4) w4) := D.out.kept hb
    clear hb
    go_wp2_with ((with_reducible show wpList _ _ _ (Oper.mk _ (Op.load 28 _) _ _ _ _ :: _) _ _); refine loadB (K4) rfl rfl rfl ?_)
    refine (l2Board_no _ _ HV.out).mono ?_
    rintro e w5 ⟨rfl, hb⟩
    have K2 := K2.below hb K2.lt
    have K4 := K4.below hb K4.lt
    have D : Hid (Dr w B (m + 200 + 4) w5) := D.out.kept hb
    clear hb
    go_wp2_with (first | ((with_reducible show wpList _ _ _ (Oper.mk _ (Op.load 28 _) _ _ _ _ :: _) _ _); refine loadB (K4) rfl rfl rfl ?_) | ((with_reducible show wpList _ _ _ (Oper.mk _ (Op.store 28 _ _) _ _ _ _ :: _) _ _); refine storeB (K2) rfl rfl rfl rfl ?_))
    try simp only [Exit.inBlock, Exit.then]
    exact retctB (K2.row 16 _) rfl rfl rfl ⟨_, _, rfl, ((D.out.row (Nat.le_refl _) _).more (show _ ≤ m + 300 by omega)).1, (D.out.row (Nat.le_refl _) _).2.1⟩
theorem below_cur {w w2 : World} {p q : Obj} {B : Nat} (hB : B = w.heap.size + 1) (h : Turned B ((w.alloc p).alloc q) w2) : Below w.heap.size w w2 := below_two hB h
set_option maxHeartbeats 1000000 in
theorem drawCountBefore_any (a : Option Addr) (len cap : Nat) (w : World) (hl : len ≤ 65536) (hr : CodeRow w a len w.heap.size) :
    Calls Try.prog 82 #[.slice a len cap] w fun e w' => ∃ (f : Nat → Int) (k : Int), e = .returned (.tuple #[.agg (mk 16 f), .int .i64 k]) ∧ Below w.heap.size w w' := by
  have z16 := zero16
  have K2 := (Blk.new w 16 (fun _ => 0) 28).alloc (.cells #[.slice a len cap, .int .i64 0, .int .u64 0] 98)
  have hr1 := hr.later ((Below.refl _ w).alloc (Nat.le_refl _) (.cells (mk 16 fun _ => 0) 28))
  have HC := Lib.hid (Cur.new (w.alloc (.cells (mk 16 fun _ => 0) 28)) a len cap hl hr1)
  have hs : (w.alloc (.cells (mk 16 fun _ => 0) 28)).heap.size = w.heap.size + 1 := by simp
  rw [hs] at HC
  clear hr hr1
  go_enter Try.func82, Try.ntmps82
  go_wp2_with fail
  refine (made_any _ (w.heap.size + 1) 0 HC.out (by omega)).mono ?_
  rintro e w2 ⟨f, k, rfl, hc2, ht2⟩
  have K2 := K2.turned ht2 (by omega)
  have HT := Lib.hid ht2
  clear hc2 ht2 HC
  go_wp2_with ((with_reducible show wpList _ _ _ (Oper.mk _ (Op.store 28 _ _) _ _ _ _ :: _) _ _); refine storeB (K2) rfl rfl rfl rfl ?_)
  try simp only [Exit.inBlock, Exit.then]
  exact retctB (K2.row 16 _) rfl rfl rfl ⟨f, k, rfl, below_setRow (below_two rfl HT.out) (Nat.le_refl _) _⟩
set_option maxHeartbeats 1000000 in
theorem drawMustMerge_any (a : Option Addr) (len cap : Nat) (w : World) (hl : len ≤ 65536) (hr : CodeRow w a len w.heap.size) :
    Calls Try.prog 47 #[.slice a len cap] w fun e w' => ∃ (f : Nat → Int) (k : Int), e = .returned (.tuple #[.agg (mk 16 f), .int .i64 k]) ∧ Below w.heap.size w w' := by
  have z16 := zero16
  have K2 := Blk.new w 16 (fun _ => 0) 28
  have HB := Lib.hid ((Below.refl w.heap.size w).alloc (Nat.le_refl _) (.cells (mk 16 fun _ => 0) 28))
  have HR := Lib.hid (hr.later ((Below.refl _ w).alloc (Nat.le_refl _) (.cells (mk 16 fun _ => 0) 28)))
  clear hr
  go_enter Try.func47, Try.ntmps47
  go_wp2_with fail
  refine (drawCountBefore_any a len cap _ hl HR.out).mono ?_
  rintro e w2 ⟨f, k, rfl, hb⟩
  have K2 := K2.below hb (by simp)
  have HB : Hid (Below w.heap.size w w2) := HB.out.trans (hb.mono HB.out.size)
  clear hb
  go_wp2_with ((with_reducible show wpList _ _ _ (Oper.mk _ (Op.store 28 _ _) _ _ _ _ :: _) _ _); refine storeB (K2) rfl rfl rfl rfl ?_)
  try simp only [Exit.inBlock, Exit.then]
  exact retctB (K2.row 16 _) rfl rfl rfl ⟨f, k, rfl, below_setRow HB.out (Nat.le_refl _) _⟩
end Go.Proofs.Ytphkidkkcknnmaa
