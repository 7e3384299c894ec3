/-
  The contracts of DoCommute, in the reference and in the program, for every board and every two numbers.
-/
import Derived.Test.YtknjmkapabjolaaOver
import Derived.Test.YtknjmkapabjolaaPlainA
namespace Go.Proofs.Ytknjmkapabjolaa
open Go.RowKit Plain
attribute [local go_sem] store_new

theorem fieldSB (f : Nat → Int) (d : Nat) (w : World) : (Instr.field 117 (.agg (mk 18 (slideV f d))) 0).run Try.prog w = .ok (.agg (mk 16 (slideB f d))) w := by
  have h : mk 16 (slideB f d) = mk 16 (slideV f d) := mk_congr fun j hj => by unfold slideV; rw [if_pos hj]
  rw [h]
  exact fieldS0 _ w
set_option maxHeartbeats 1000000 in
theorem commute_nat (f : Nat → Int) (d e : Nat) (w : World) (hV : Vd f) (hd : d < 4) (he : e < 4) :
    Calls Try.prog 87 #[.agg (mk 16 f), .int .i64 d, .int .i64 e] w fun r w' => r = .returned (.bool (comB f d e)) ∧ Below w.heap.size w w' := by
  have K1 := Blk.new w 16 f 29
  have HB : Hid (Below w.heap.size w (w.alloc (.cells (mk 16 f) 29))) := (Below.refl w.heap.size w).alloc (Nat.le_refl _) (.cells (mk 16 f) 29)
  have HV := Lib.hid hV
  have d0 : (0 : Int) ≤ (d : Int) := by omega
  have d3 : (d : Int) ≤ 3 := by omega
  have e0 : (0 : Int) ≤ (e : Int) := by omega
  have e3 : (e : Int) ≤ 3 := by omega
  have HD := Lib.hid (slideB_vd hV d)
  have HE := Lib.hid (slideB_vd hV e)
  clear hV
  have z16 := zero16
  have iF := fieldSB
  have iE : ∀ (f g : Nat → Int) (w : World), (Op.equalIn 10000 23 (.agg (mk 16 f)) (.agg (mk 16 g))).run Try.prog w = .ok (sameB f g) w := eqG 9997
  go_enter Try.func87, Try.ntmps87
  go_wp2_with ((with_reducible show wpList _ _ _ (Oper.mk _ (Op.load 29 _) _ _ _ _ :: _) _ _); refine loadB (K1) rfl rfl rfl ?_)
  refine (slideTo_nat f d _ HV.out d0 d3).mono ?_
  rintro _ w2 ⟨rfl, hb⟩
  have K1 := K1.below hb K1.lt
  have HB : Hid (Below w.heap.size w w2) := HB.out.trans (hb.mono HB.out.size)
  clear hb
  go_wp2_with fail
  refine (slideTo_nat (slideB f d) e _ HD.out e0 e3).mono ?_
  rintro _ w3 ⟨rfl, hb⟩
  have K1 := (K1.below hb K1.lt).alloc (.cells (mk 16 (slideB (slideB f d) e)) 29)
  have HB : Hid (Below w.heap.size w (w3.alloc (.cells (mk 16 (slideB (slideB f d) e)) 29))) := (HB.out.trans (hb.mono HB.out.size)).alloc (HB.out.trans (hb.mono HB.out.size)).size _
  have K2 := Blk.new w3 16 (slideB (slideB f d) e) 29
  clear hb
  go_wp2_with ((with_reducible show wpList _ _ _ (Oper.mk _ (Op.load 29 _) _ _ _ _ :: _) _ _); refine loadB (K1) rfl rfl rfl ?_)
  generalize w3.alloc (.cells (mk 16 (slideB (slideB f d) e)) 29) = w4 at *
  refine (slideTo_nat f e _ HV.out e0 e3).mono ?_
  rintro _ w5 ⟨rfl, hb⟩
  have K2 := K2.below hb K2.lt
  have HB : Hid (Below w.heap.size w w5) := HB.out.trans (hb.mono HB.out.size)
  clear hb
  go_wp2_with fail
  refine (slideTo_nat (slideB f e) d _ HE.out d0 d3).mono ?_
  rintro _ w6 ⟨rfl, hb⟩
  have K2 := (K2.below hb K2.lt).alloc (.cells (mk 16 (slideB (slideB f e) d)) 29)
  have HB : Hid (Below w.heap.size w (w6.alloc (.cells (mk 16 (slideB (slideB f e) d)) 29))) := (HB.out.trans (hb.mono HB.out.size)).alloc (HB.out.trans (hb.mono HB.out.size)).size _
  have K3 := Blk.new w6 16 (slideB (slideB f e) d) 29
  clear hb
  go_wp2_with (first | ((with_reducible show wpList _ _ _ (Oper.mk _ (Op.load 23 _) _ _ _ _ :: _) _ _); refine loadG (K2) rfl rfl rfl ?_) | ((with_reducible show wpList _ _ _ (Oper.mk _ (Op.load 23 _) _ _ _ _ :: _) _ _); refine loadG (K3) rfl rfl rfl ?_))
  go_ret
  exact ⟨rfl, HB.out⟩
set_option maxHeartbeats 1000000 in
theorem l3Commute_nat (f : Nat → Int) (d e : Nat) (w : World) (hV : Vd f) (hd : d < 4) (he : e < 4) :
    Calls Try.prog 88 #[.agg (mk 16 f), .int .i64 d, .int .i64 e] w fun r w' => r = .returned (.bool (comB f d e)) ∧ Below w.heap.size w w' := by
  have K1 := Blk.new w 16 f 29
  have HB : Hid (Below w.heap.size w (w.alloc (.cells (mk 16 f) 29))) := (Below.refl w.heap.size w).alloc (Nat.le_refl _) (.cells (mk 16 f) 29)
  have HV := Lib.hid hV
  have d0 : (0 : Int) ≤ (d : Int) := by omega
  have d3 : (d : Int) ≤ 3 := by omega
  have e0 : (0 : Int) ≤ (e : Int) := by omega
  have e3 : (e : Int) ≤ 3 := by omega
  have HD := Lib.hid (slideB_vd hV d)
  have HE := Lib.hid (slideB_vd hV e)
  clear hV
  have z16 := zero16
  have iE : ∀ (f g : Nat → Int) (w : World), (Op.equalIn 10000 29 (.agg (mk 16 f)) (.agg (mk 16 g))).run Try.prog w = .ok (sameB f g) w := eqB 9996
  go_enter Try.func88, Try.ntmps88
  go_wp2_with ((with_reducible show wpList _ _ _ (Oper.mk _ (Op.load 29 _) _ _ _ _ :: _) _ _); refine loadB (K1) rfl rfl rfl ?_)
  refine (l2Slide_nat f d _ HV.out d0 d3).mono ?_
  rintro _ w2 ⟨rfl, hb⟩
  have K1 := (K1.below hb K1.lt).alloc (.cells (mk 16 (slideB f d)) 29)
  have HB : Hid (Below w.heap.size w (w2.alloc (.cells (mk 16 (slideB f d)) 29))) := (HB.out.trans (hb.mono HB.out.size)).alloc (HB.out.trans (hb.mono HB.out.size)).size _
  have K2 := Blk.new w2 16 (slideB f d) 29
  clear hb
  go_wp2_with ((with_reducible show wpList _ _ _ (Oper.mk _ (Op.load 29 _) _ _ _ _ :: _) _ _); refine loadB (K2) rfl rfl rfl ?_)
  generalize w2.alloc (.cells (mk 16 (slideB f d)) 29) = w3 at *
  refine (l2Slide_nat (slideB f d) e _ HD.out e0 e3).mono ?_
  rintro _ w4 ⟨rfl, hb⟩
  have K1 := (K1.below hb K1.lt).alloc (.cells (mk 16 (slideB (slideB f d) e)) 29)
  have HB : Hid (Below w.heap.size w (w4.alloc (.cells (mk 16 (slideB (slideB f d) e)) 29))) := (HB.out.trans (hb.mono HB.out.size)).alloc (HB.out.trans (hb.mono HB.out.size)).size _
  have K2 := Blk.new w4 16 (slideB (slideB f d) e) 29
  clear hb
  go_wp2_with ((with_reducible show wpList _ _ _ (Oper.mk _ (Op.load 29 _) _ _ _ _ :: _) _ _); refine loadB (K1) rfl rfl rfl ?_)
  generalize w4.alloc (.cells (mk 16 (slideB (slideB f d) e)) 29) = w5 at *
  refine (l2Slide_nat f e _ HV.out e0 e3).mono ?_
  rintro _ w6 ⟨rfl, hb⟩
  have K2 := (K2.below hb K2.lt).alloc (.cells (mk 16 (slideB f e)) 29)
  have HB : Hid (Below w.heap.size w (w6.alloc (.cells (mk 16 (slideB f e)) 29))) := (HB.out.trans (hb.mono HB.out.size)).alloc (HB.out.trans (hb.mono HB.out.size)).size _
  have K3 := Blk.new w6 16 (slideB f e) 29
  clear hb K1
  go_wp2_with ((with_reducible show wpList _ _ _ (Oper.mk _ (Op.load 29 _) _ _ _ _ :: _) _ _); refine loadB (K3) rfl rfl rfl ?_)
  generalize w6.alloc (.cells (mk 16 (slideB f e)) 29) = w7 at *
  refine (l2Slide_nat (slideB f e) d _ HE.out d0 d3).mono ?_
  rintro _ w8 ⟨rfl, hb⟩
  have K2 := (K2.below hb K2.lt).alloc (.cells (mk 16 (slideB (slideB f e) d)) 29)
  have HB : Hid (Below w.heap.size w (w8.alloc (.cells (mk 16 (slideB (slideB f e) d)) 29))) := (HB.out.trans (hb.mono HB.out.size)).alloc (HB.out.trans (hb.mono HB.out.size)).size _
  have K3 := Blk.new w8 16 (slideB (slideB f e) d) 29
  clear hb
  go_wp2_with (first | ((with_reducible show wpList _ _ _ (Oper.mk _ (Op.load 29 _) _ _ _ _ :: _) _ _); refine loadB (K2) rfl rfl rfl ?_) | ((with_reducible show wpList _ _ _ (Oper.mk _ (Op.load 29 _) _ _ _ _ :: _) _ _); refine loadB (K3) rfl rfl rfl ?_))
  go_ret
  exact ⟨rfl, HB.out⟩
theorem dir_nat {d : Int} (h0 : 0 ≤ d) (h1 : d ≤ 3) : ∃ n : Nat, d = n ∧ n < 4 := ⟨d.toNat, by omega, by omega⟩
set_option maxHeartbeats 1000000 in
theorem specDoCommute_any (f : Nat → Int) (d e : Int) (w : World) :
    Calls Try.prog 51 #[.agg (mk 16 f), .int .i64 d, .int .i64 e] w fun r w' => r = .returned (.tuple #[.bool (comR f d e), .bool (comO f d e)]) ∧ Below w.heap.size w w' := by
  have K1 := Blk.new w 16 f 29
  have HB : Hid (Below w.heap.size w (w.alloc (.cells (mk 16 f) 29))) := (Below.refl w.heap.size w).alloc (Nat.le_refl _) (.cells (mk 16 f) 29)
  by_cases hV : Vd f
  · by_cases hd : 0 ≤ d ∧ d ≤ 3
    · by_cases he : 0 ≤ e ∧ e ≤ 3
      · have y1 : comR f d e = comB f d.toNat e.toNat := by simp only [comR, hV, hd, he, and_self, if_true]
        have y2 : comO f d e = true := by simp only [comO, hV, hd, he, and_self, decide_true]
        rw [y1, y2]
        clear y1 y2
        obtain ⟨d0, d3⟩ := hd
        obtain ⟨e0, e3⟩ := he
        obtain ⟨a, rfl, ha⟩ := dir_nat d0 d3
        obtain ⟨b, rfl, hb⟩ := dir_nat e0 e3
        rw [Int.toNat_natCast, Int.toNat_natCast]
        have HV := Lib.hid hV
        clear hV
        go_enter Try.func51, Try.ntmps51
        go_wp2_with ((with_reducible show wpList _ _ _ (Oper.mk _ (Op.load 29 _) _ _ _ _ :: _) _ _); refine loadB (K1) rfl rfl rfl ?_)
        refine (l2Board_yes _ _ HV.out).mono ?_
        rintro _ w2 ⟨rfl, hb2⟩
        have K1 := K1.below hb2 K1.lt
        have HB : Hid (Below w.heap.size w w2) := HB.out.trans (hb2.mono HB.out.size)
        clear hb2
        go_wp2_with fail
        refine (l2Side_yes _ _ d0 d3).mono ?_
        rintro _ w' ⟨rfl, rfl⟩
        go_wp2_with fail
        refine (l2Side_yes _ _ e0 e3).mono ?_
        rintro _ w' ⟨rfl, rfl⟩
        go_wp2_with ((with_reducible show wpList _ _ _ (Oper.mk _ (Op.load 29 _) _ _ _ _ :: _) _ _); refine loadB (K1) rfl rfl rfl ?_)
        refine (l3Commute_nat f a b _ HV.out ha hb).mono ?_
        rintro _ w3 ⟨rfl, hb2⟩
        have HB : Hid (Below w.heap.size w w3) := HB.out.trans (hb2.mono HB.out.size)
        clear hb2
        go_wp2_with fail
        go_ret2
        exact ⟨rfl, HB.out⟩
      · have y1 : comR f d e = false := by simp only [comR, he, and_false, if_false]
        have y2 : comO f d e = false := by simp only [comO, he, and_false, decide_false]
        rw [y1, y2]
        clear y1 y2
        obtain ⟨d0, d3⟩ := hd
        have HV := Lib.hid hV
        have HE := Lib.hid (show e < 0 ∨ 3 < e by omega)
        clear hV he
        go_enter Try.func51, Try.ntmps51
        go_wp2_with ((with_reducible show wpList _ _ _ (Oper.mk _ (Op.load 29 _) _ _ _ _ :: _) _ _); refine loadB (K1) rfl rfl rfl ?_)
        refine (l2Board_yes _ _ HV.out).mono ?_
        rintro _ w2 ⟨rfl, hb2⟩
        have HB : Hid (Below w.heap.size w w2) := HB.out.trans (hb2.mono HB.out.size)
        clear hb2
        go_wp2_with fail
        refine (l2Side_yes _ _ d0 d3).mono ?_
        rintro _ w' ⟨rfl, rfl⟩
        go_wp2_with fail
        refine (l2Side_no _ _ HE.out).mono ?_
        rintro _ w' ⟨rfl, rfl⟩
        go_wp2_with fail
        go_ret2
        exact ⟨rfl, HB.out⟩
    · have y1 : comR f d e = false := by simp only [comR, hd, and_false, false_and, if_false]
      have y2 : comO f d e = false := by simp only [comO, hd, and_false, false_and, decide_false]
      rw [y1, y2]
      clear y1 y2
      have HV := Lib.hid hV
      have HD := Lib.hid (show d < 0 ∨ 3 < d by omega)
      clear hV hd
      go_enter Try.func51, Try.ntmps51
      go_wp2_with ((with_reducible show wpList _ _ _ (Oper.mk _ (Op.load 29 _) _ _ _ _ :: _) _ _); refine loadB (K1) rfl rfl rfl ?_)
      refine (l2Board_yes _ _ HV.out).mono ?_
      rintro _ w2 ⟨rfl, hb2⟩
      have HB : Hid (Below w.heap.size w w2) := HB.out.trans (hb2.mono HB.out.size)
      clear hb2
      go_wp2_with fail
      refine (l2Side_no _ _ HD.out).mono ?_
      rintro _ w' ⟨rfl, rfl⟩
      go_wp2_with fail
      go_ret2
      exact ⟨rfl, HB.out⟩
  · have y1 : comR f d e = false := by simp only [comR, hV, false_and, if_false]
    have y2 : comO f d e = false := by simp only [comO, hV, false_and, decide_false]
    rw [y1, y2]
    clear y1 y2
    have HV := Lib.hid hV
    clear hV
    go_enter Try.func51, Try.ntmps51
    go_wp2_with ((with_reducible show wpList _ _ _ (Oper.mk _ (Op.load 29 _) _ _ _ _ :: _) _ _); refine loadB (K1) rfl rfl rfl ?_)
    refine (l2Board_no _ _ HV.out).mono ?_
    rintro _ w2 ⟨rfl, hb2⟩
    have HB : Hid (Below w.heap.size w w2) := HB.out.trans (hb2.mono HB.out.size)
    clear hb2
    go_wp2_with fail
    go_ret2
    exact ⟨rfl, HB.out⟩
set_option maxHeartbeats 1000000 in
theorem implDoCommute_any (f : Nat → Int) (d e : Int) (w : World) :
    Calls Try.prog 50 #[.agg (mk 16 f), .int .i64 d, .int .i64 e] w fun r w' => r = .returned (.tuple #[.bool (comR f d e), .bool (comO f d e)]) ∧ Below w.heap.size w w' := by
  have K1 := Blk.new w 16 f 29
  have HB : Hid (Below w.heap.size w (w.alloc (.cells (mk 16 f) 29))) := (Below.refl w.heap.size w).alloc (Nat.le_refl _) (.cells (mk 16 f) 29)
  by_cases hV : Vd f
  · by_cases hd : 0 ≤ d ∧ d ≤ 3
    · by_cases he : 0 ≤ e ∧ e ≤ 3
      · have y1 : comR f d e = comB f d.toNat e.toNat := by simp only [comR, hV, hd, he, and_self, if_true]
        have y2 : comO f d e = true := by simp only [comO, hV, hd, he, and_self, decide_true]
        rw [y1, y2]
        clear y1 y2
        obtain ⟨d0, d3⟩ := hd
        obtain ⟨e0, e3⟩ := he
        obtain ⟨a, rfl, ha⟩ := dir_nat d0 d3
        obtain ⟨b, rfl, hb⟩ := dir_nat e0 e3
        rw [Int.toNat_natCast, Int.toNat_natCast]
        have HV := Lib.hid hV
        clear hV
        go_enter Try.func50, Try.ntmps50
        go_wp2_with ((with_reducible show wpList _ _ _ (Oper.mk _ (Op.load 29 _) _ _ _ _ :: _) _ _); refine loadB (K1) rfl rfl rfl ?_)
        refine (implBoard_yes _ _ HV.out).mono ?_
        rintro _ w2 ⟨rfl, hb2⟩
        have K1 := K1.below hb2 K1.lt
        have HB : Hid (Below w.heap.size w w2) := HB.out.trans (hb2.mono HB.out.size)
        clear hb2
        go_wp2_with fail
        refine (isDirection_yes _ _ d0 d3).mono ?_
        rintro _ w' ⟨rfl, rfl⟩
        go_wp2_with fail
        refine (isDirection_yes _ _ e0 e3).mono ?_
        rintro _ w' ⟨rfl, rfl⟩
        go_wp2_with ((with_reducible show wpList _ _ _ (Oper.mk _ (Op.load 29 _) _ _ _ _ :: _) _ _); refine loadB (K1) rfl rfl rfl ?_)
        refine (commute_nat f a b _ HV.out ha hb).mono ?_
        rintro _ w3 ⟨rfl, hb2⟩
        have HB : Hid (Below w.heap.size w w3) := HB.out.trans (hb2.mono HB.out.size)
        clear hb2
        go_wp2_with fail
        go_ret2
        exact ⟨rfl, HB.out⟩
      · have y1 : comR f d e = false := by simp only [comR, he, and_false, if_false]
        have y2 : comO f d e = false := by simp only [comO, he, and_false, decide_false]
        rw [y1, y2]
        clear y1 y2
        obtain ⟨d0, d3⟩ := hd
        have HV := Lib.hid hV
        have HE := Lib.hid (show e < 0 ∨ 3 < e by omega)
        clear hV he
        go_enter Try.func50, Try.ntmps50
        go_wp2_with ((with_reducible show wpList _ _ _ (Oper.mk _ (Op.load 29 _) _ _ _ _ :: _) _ _); refine loadB (K1) rfl rfl rfl ?_)
        refine (implBoard_yes _ _ HV.out).mono ?_
        rintro _ w2 ⟨rfl, hb2⟩
        have HB : Hid (Below w.heap.size w w2) := HB.out.trans (hb2.mono HB.out.size)
        clear hb2
        go_wp2_with fail
        refine (isDirection_yes _ _ d0 d3).mono ?_
        rintro _ w' ⟨rfl, rfl⟩
        go_wp2_with fail
        refine (isDirection_no _ _ HE.out).mono ?_
        rintro _ w' ⟨rfl, rfl⟩
        go_wp2_with fail
        go_ret2
        exact ⟨rfl, HB.out⟩
    · have y1 : comR f d e = false := by simp only [comR, hd, and_false, false_and, if_false]
      have y2 : comO f d e = false := by simp only [comO, hd, and_false, false_and, decide_false]
      rw [y1, y2]
      clear y1 y2
      have HV := Lib.hid hV
      have HD := Lib.hid (show d < 0 ∨ 3 < d by omega)
      clear hV hd
      go_enter Try.func50, Try.ntmps50
      go_wp2_with ((with_reducible show wpList _ _ _ (Oper.mk _ (Op.load 29 _) _ _ _ _ :: _) _ _); refine loadB (K1) rfl rfl rfl ?_)
      refine (implBoard_yes _ _ HV.out).mono ?_
      rintro _ w2 ⟨rfl, hb2⟩
      have HB : Hid (Below w.heap.size w w2) := HB.out.trans (hb2.mono HB.out.size)
      clear hb2
      go_wp2_with fail
      refine (isDirection_no _ _ HD.out).mono ?_
      rintro _ w' ⟨rfl, rfl⟩
      go_wp2_with fail
      go_ret2
      exact ⟨rfl, HB.out⟩
  · have y1 : comR f d e = false := by simp only [comR, hV, false_and, if_false]
    have y2 : comO f d e = false := by simp only [comO, hV, false_and, decide_false]
    rw [y1, y2]
    clear y1 y2
    have HV := Lib.hid hV
    clear hV
    go_enter Try.func50, Try.ntmps50
    go_wp2_with ((with_reducible show wpList _ _ _ (Oper.mk _ (Op.load 29 _) _ _ _ _ :: _) _ _); refine loadB (K1) rfl rfl rfl ?_)
    refine (implBoard_no _ _ HV.out).mono ?_
    rintro _ w2 ⟨rfl, hb2⟩
    have HB : Hid (Below w.heap.size w w2) := HB.out.trans (hb2.mono HB.out.size)
    clear hb2
    go_wp2_with fail
    go_ret2
    exact ⟨rfl, HB.out⟩
end Go.Proofs.Ytknjmkapabjolaa
