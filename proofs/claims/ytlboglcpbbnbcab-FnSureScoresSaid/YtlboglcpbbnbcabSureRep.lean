/-
  The contracts of WorstReply, in the reference and in the program, for every board and two numbers.
-/
import Derived.Test.YtlboglcpbbnbcabSureTop
namespace Go.Proofs.Ytlboglcpbbnbcab
open Go.RowKit Plain
attribute [local go_sem] store_new
set_option linter.unusedVariables false
set_option linter.unusedSimpArgs false
theorem rp_none {f : Nat → Int} {d n : Int} (h : ¬ RepOk f d n) : rpR f d n = ls0 ∧ rpO f d n = false := ⟨rp_no h, by simp [rpO, h]⟩
theorem rp_some {f : Nat → Int} {d n : Int} (h : RepOk f d n) : rpR f d n = wrF n.toNat (slideB f d.toNat) ∧ rpO f d n = true := ⟨rp_yes h, by simp [rpO, h]⟩
set_option maxHeartbeats 2000000 in
theorem specReply_any (f : Nat → Int) (d n : Int) (w : World) :
    Calls Try.prog 73 #[.agg (mk 16 f), .int .i64 d, .int .i64 n] w fun e w' => e = .returned (.tuple #[.agg (mk 3 (plF (rpR f d n).p)), .int .i64 (rpR f d n).v, .bool (rpO f d n)]) ∧ Below w.heap.size w w' := by
  have z3 := zero3
  have z16 := zero16
  have iE : ∀ (f g : Nat → Int) (w : World), (Op.equalIn 10000 29 (.agg (mk 16 f)) (.agg (mk 16 g))).run Try.prog w = .ok (sameB f g) w := eqB 9996
  have K1 := (Blk.new w 16 f 29).alloc (.cells (mk 3 fun _ => 0) 70)
  have K2 := Blk.new (w.alloc (.cells (mk 16 f) 29)) 3 (fun _ => 0) 70
  have HB := Lib.hid (((Below.refl w.heap.size w).alloc (Nat.le_refl _) (.cells (mk 16 f) 29)).alloc (by simp) (.cells (mk 3 fun _ => 0) 70))
  simp only [World.size_alloc] at K2
  by_cases hV : Vd f
  · have HV := Lib.hid hV
    clear hV
    by_cases hd : 0 ≤ d ∧ d ≤ 3
    · obtain ⟨d0, d3⟩ := hd
      by_cases hn : 0 ≤ n ∧ n ≤ 1
      · obtain ⟨n0, n1⟩ := hn
        by_cases hm : isMv f d.toNat = true
        · obtain ⟨y1, y2⟩ := rp_some (f := f) (d := d) (n := n) ⟨⟨HV.out, d0, d3⟩, hm, n0, n1⟩
          rw [y1, y2]
          clear y1 y2
          have hq : sameB (slideB f d.toNat) f = false := by simpa [isMv] using hm
          have HM := Lib.hid hm
          obtain ⟨m, rfl⟩ := Int.eq_ofNat_of_zero_le n0
          show Calls _ _ _ _ fun e w' => e = .returned (.tuple #[.agg (mk 3 (plF (wrF m (slideB f d.toNat)).p)), .int .i64 (wrF m (slideB f d.toNat)).v, .bool true]) ∧ _
          have HC := Lib.hid (fun W => le_all m (by omega) (slideB f d.toNat) W (slideB_vd HV.out d.toNat) (mv_places HV.out HM.out))
          generalize wrF m (slideB f d.toNat) = S at *
          generalize hnm : ((m : Nat) : Int) = n at *
          clear hnm hm
          go_enter Try.func73, Try.ntmps73
          go_wp2_with ((with_reducible show wpList _ _ _ (Oper.mk _ (Op.load 29 _) _ _ _ _ :: _) _ _); refine loadB (K1) rfl rfl rfl ?_)
          refine (l2Board_yes _ _ HV.out).mono ?_
          rintro e w1 ⟨rfl, hb⟩
          have K1 := K1.below hb K1.lt
          have K2 := K2.below hb K2.lt
          have HB : Hid (Below w.heap.size w w1) := HB.out.trans (hb.mono HB.out.size)
          clear hb
          go_wp2_with fail
          refine (l2Side_yes _ _ d0 d3).mono ?_
          rintro e w2 ⟨rfl, rfl⟩
          go_wp2_with fail
          refine (l1In_yes _ 0 1 _ n0 n1).mono ?_
          rintro e w2 ⟨rfl, rfl⟩
          go_wp2_with ((with_reducible show wpList _ _ _ (Oper.mk _ (Op.load 29 _) _ _ _ _ :: _) _ _); refine loadB (K1) rfl rfl rfl ?_)
          refine (l2Slide_any f d _ HV.out d0 d3).mono ?_
          rintro e w3 ⟨rfl, hb⟩
          have K1 := K1.below hb K1.lt
          have K2 := K2.below hb K2.lt
          have HB : Hid (Below w.heap.size w w3) := HB.out.trans (hb.mono HB.out.size)
          clear hb
          have K9 := Blk.new w3 16 (slideB f d.toNat) 29
          have K1 := K1.alloc (.cells (mk 16 (slideB f d.toNat)) 29)
          have K2 := K2.alloc (.cells (mk 16 (slideB f d.toNat)) 29)
          have HB : Hid (Below w.heap.size w (w3.alloc (.cells (mk 16 (slideB f d.toNat)) 29))) := HB.out.alloc HB.out.size _
          go_wp2_with (first | ((with_reducible show wpList _ _ _ (Oper.mk _ (Op.load 29 _) _ _ _ _ :: _) _ _); refine loadB (K9) rfl rfl rfl ?_) | ((with_reducible show wpList _ _ _ (Oper.mk _ (Op.load 29 _) _ _ _ _ :: _) _ _); refine loadB (K1) rfl rfl rfl ?_) | ((with_reducible show wpList _ _ _ (Oper.mk _ (Op.load 29 _) _ _ _ (some _) :: _) _ _); refine loadgB (K9) rfl rfl rfl ?_) | ((with_reducible show wpList _ _ _ (Oper.mk _ (Op.load 29 _) _ _ _ (some _) :: _) _ _); refine loadgB (K1) rfl rfl rfl ?_))
          refine (HC.out _).mono ?_
          rintro e w5 ⟨rfl, hb⟩
          have K2 := (K2.below hb K2.lt).alloc (.cells (mk 3 (plF S.p)) 70)
          have K11 := Blk.new w5 3 (plF S.p) 70
          have HB5 : Hid (Below w.heap.size w w5) := HB.out.trans (hb.mono HB.out.size)
          have HB : Hid (Below w.heap.size w (w5.alloc (.cells (mk 3 (plF S.p)) 70))) := HB5.out.alloc HB5.out.size _
          clear hb
          go_wp2_with (first | ((with_reducible show wpList _ _ _ (Oper.mk _ (Op.load 70 _) _ _ _ _ :: _) _ _); refine loadA (K11) rfl rfl rfl ?_) | ((with_reducible show wpList _ _ _ (Oper.mk _ (Op.store 70 _ _) _ _ _ _ :: _) _ _); refine storeA (K2) rfl rfl rfl rfl ?_))
          try simp only [Exit.inBlock, Exit.then]
          exact retcttA (K2.row 3 _) rfl rfl rfl ⟨rfl, below_setRow HB.out (by omega) _⟩
        · have hm : isMv f d.toNat = false := by simpa using hm
          have hno : ¬ RepOk f d n := fun h => by have := h.2.1; rw [hm] at this; cases this
          obtain ⟨y1, y2⟩ := rp_none hno
          rw [y1, y2]
          clear y1 y2 hno
          have hq : sameB (slideB f d.toNat) f = true := by simpa [isMv] using hm
          clear hm
          go_enter Try.func73, Try.ntmps73
          go_wp2_with ((with_reducible show wpList _ _ _ (Oper.mk _ (Op.load 29 _) _ _ _ _ :: _) _ _); refine loadB (K1) rfl rfl rfl ?_)
          refine (l2Board_yes _ _ HV.out).mono ?_
          rintro e w1 ⟨rfl, hb⟩
          have K1 := K1.below hb K1.lt
          have K2 := K2.below hb K2.lt
          have HB : Hid (Below w.heap.size w w1) := HB.out.trans (hb.mono HB.out.size)
          clear hb
          go_wp2_with fail
          refine (l2Side_yes _ _ d0 d3).mono ?_
          rintro e w2 ⟨rfl, rfl⟩
          go_wp2_with fail
          refine (l1In_yes _ 0 1 _ n0 n1).mono ?_
          rintro e w2 ⟨rfl, rfl⟩
          go_wp2_with ((with_reducible show wpList _ _ _ (Oper.mk _ (Op.load 29 _) _ _ _ _ :: _) _ _); refine loadB (K1) rfl rfl rfl ?_)
          refine (l2Slide_any f d _ HV.out d0 d3).mono ?_
          rintro e w3 ⟨rfl, hb⟩
          have K1 := K1.below hb K1.lt
          have K2 := K2.below hb K2.lt
          have HB : Hid (Below w.heap.size w w3) := HB.out.trans (hb.mono HB.out.size)
          clear hb
          have K9 := Blk.new w3 16 (slideB f d.toNat) 29
          have K1 := K1.alloc (.cells (mk 16 (slideB f d.toNat)) 29)
          have K2 := K2.alloc (.cells (mk 16 (slideB f d.toNat)) 29)
          have HB : Hid (Below w.heap.size w (w3.alloc (.cells (mk 16 (slideB f d.toNat)) 29))) := HB.out.alloc HB.out.size _
          go_wp2_with (first | ((with_reducible show wpList _ _ _ (Oper.mk _ (Op.load 29 _) _ _ _ _ :: _) _ _); refine loadB (K9) rfl rfl rfl ?_) | ((with_reducible show wpList _ _ _ (Oper.mk _ (Op.load 29 _) _ _ _ _ :: _) _ _); refine loadB (K1) rfl rfl rfl ?_) | ((with_reducible show wpList _ _ _ (Oper.mk _ (Op.load 29 _) _ _ _ (some _) :: _) _ _); refine loadgB (K9) rfl rfl rfl ?_) | ((with_reducible show wpList _ _ _ (Oper.mk _ (Op.load 29 _) _ _ _ (some _) :: _) _ _); refine loadgB (K1) rfl rfl rfl ?_) | ((with_reducible show wpList _ _ _ (Oper.mk _ (Op.store 70 _ _) _ _ _ _ :: _) _ _); refine storeA (K2) rfl rfl rfl rfl ?_))
          try simp only [Exit.inBlock, Exit.then]
          refine retcttA (K2.row 3 _) rfl rfl rfl ⟨?_, below_setRow HB.out (by omega) _⟩
          have hz := mk_plF0
          show _ = Ending.returned (.tuple #[.agg (mk 3 (plF (0, 0))), .int .i64 0, .bool false])
          rw [hz]
          rfl
      · have hno : ¬ RepOk f d n := fun h => hn h.2.2
        have HN := Lib.hid (show n < 0 ∨ 1 < n by omega)
        obtain ⟨y1, y2⟩ := rp_none hno
        rw [y1, y2]
        clear y1 y2 hno
        clear hn
        go_enter Try.func73, Try.ntmps73
        go_wp2_with ((with_reducible show wpList _ _ _ (Oper.mk _ (Op.load 29 _) _ _ _ _ :: _) _ _); refine loadB (K1) rfl rfl rfl ?_)
        refine (l2Board_yes _ _ HV.out).mono ?_
        rintro e w1 ⟨rfl, hb⟩
        have K1 := K1.below hb K1.lt
        have K2 := K2.below hb K2.lt
        have HB : Hid (Below w.heap.size w w1) := HB.out.trans (hb.mono HB.out.size)
        clear hb
        go_wp2_with fail
        refine (l2Side_yes _ _ d0 d3).mono ?_
        rintro e w2 ⟨rfl, rfl⟩
        go_wp2_with fail
        refine (l1In_no _ 0 1 _ HN.out).mono ?_
        rintro e w2 ⟨rfl, rfl⟩
        go_wp2_with (first | ((with_reducible show wpList _ _ _ (Oper.mk _ (Op.load 29 _) _ _ _ _ :: _) _ _); refine loadB (K1) rfl rfl rfl ?_) | ((with_reducible show wpList _ _ _ (Oper.mk _ (Op.load 29 _) _ _ _ (some _) :: _) _ _); refine loadgB (K1) rfl rfl rfl ?_) | ((with_reducible show wpList _ _ _ (Oper.mk _ (Op.store 70 _ _) _ _ _ _ :: _) _ _); refine storeA (K2) rfl rfl rfl rfl ?_))
        try simp only [Exit.inBlock, Exit.then]
        refine retcttA (K2.row 3 _) rfl rfl rfl ⟨?_, below_setRow HB.out (by omega) _⟩
        have hz := mk_plF0
        show _ = Ending.returned (.tuple #[.agg (mk 3 (plF (0, 0))), .int .i64 0, .bool false])
        rw [hz]
        rfl
    · have hno : ¬ RepOk f d n := fun h => hd h.1.2
      have HD := Lib.hid (show d < 0 ∨ 3 < d by omega)
      obtain ⟨y1, y2⟩ := rp_none hno
      rw [y1, y2]
      clear y1 y2 hno
      clear hd
      go_enter Try.func73, Try.ntmps73
      go_wp2_with ((with_reducible show wpList _ _ _ (Oper.mk _ (Op.load 29 _) _ _ _ _ :: _) _ _); refine loadB (K1) rfl rfl rfl ?_)
      refine (l2Board_yes _ _ HV.out).mono ?_
      rintro e w1 ⟨rfl, hb⟩
      have K1 := K1.below hb K1.lt
      have K2 := K2.below hb K2.lt
      have HB : Hid (Below w.heap.size w w1) := HB.out.trans (hb.mono HB.out.size)
      clear hb
      go_wp2_with fail
      refine (l2Side_no _ _ HD.out).mono ?_
      rintro e w2 ⟨rfl, rfl⟩
      go_wp2_with (first | ((with_reducible show wpList _ _ _ (Oper.mk _ (Op.load 29 _) _ _ _ _ :: _) _ _); refine loadB (K1) rfl rfl rfl ?_) | ((with_reducible show wpList _ _ _ (Oper.mk _ (Op.load 29 _) _ _ _ (some _) :: _) _ _); refine loadgB (K1) rfl rfl rfl ?_) | ((with_reducible show wpList _ _ _ (Oper.mk _ (Op.store 70 _ _) _ _ _ _ :: _) _ _); refine storeA (K2) rfl rfl rfl rfl ?_))
      try simp only [Exit.inBlock, Exit.then]
      refine retcttA (K2.row 3 _) rfl rfl rfl ⟨?_, below_setRow HB.out (by omega) _⟩
      have hz := mk_plF0
      show _ = Ending.returned (.tuple #[.agg (mk 3 (plF (0, 0))), .int .i64 0, .bool false])
      rw [hz]
      rfl
  · have hno : ¬ RepOk f d n := fun h => hV h.1.1
    have HV := Lib.hid hV
    obtain ⟨y1, y2⟩ := rp_none hno
    rw [y1, y2]
    clear y1 y2 hno
    clear hV
    go_enter Try.func73, Try.ntmps73
    go_wp2_with ((with_reducible show wpList _ _ _ (Oper.mk _ (Op.load 29 _) _ _ _ _ :: _) _ _); refine loadB (K1) rfl rfl rfl ?_)
    refine (l2Board_no _ _ HV.out).mono ?_
    rintro e w1 ⟨rfl, hb⟩
    have K1 := K1.below hb K1.lt
    have K2 := K2.below hb K2.lt
    have HB : Hid (Below w.heap.size w w1) := HB.out.trans (hb.mono HB.out.size)
    clear hb
    go_wp2_with (first | ((with_reducible show wpList _ _ _ (Oper.mk _ (Op.load 29 _) _ _ _ _ :: _) _ _); refine loadB (K1) rfl rfl rfl ?_) | ((with_reducible show wpList _ _ _ (Oper.mk _ (Op.load 29 _) _ _ _ (some _) :: _) _ _); refine loadgB (K1) rfl rfl rfl ?_) | ((with_reducible show wpList _ _ _ (Oper.mk _ (Op.store 70 _ _) _ _ _ _ :: _) _ _); refine storeA (K2) rfl rfl rfl rfl ?_))
    try simp only [Exit.inBlock, Exit.then]
    refine retcttA (K2.row 3 _) rfl rfl rfl ⟨?_, below_setRow HB.out (by omega) _⟩
    have hz := mk_plF0
    show _ = Ending.returned (.tuple #[.agg (mk 3 (plF (0, 0))), .int .i64 0, .bool false])
    rw [hz]
    rfl
set_option maxHeartbeats 2000000 in
theorem implReply_any (f : Nat → Int) (d n : Int) (w : World) :
    Calls Try.prog 72 #[.agg (mk 16 f), .int .i64 d, .int .i64 n] w fun e w' => e = .returned (.tuple #[.agg (mk 3 (plF (rpR f d n).p)), .int .i64 (rpR f d n).v, .bool (rpO f d n)]) ∧ Below w.heap.size w w' := by
  have z3 := zero3
  have z16 := zero16
  have iE : ∀ (f g : Nat → Int) (w : World), (Op.equalIn 10000 29 (.agg (mk 16 f)) (.agg (mk 16 g))).run Try.prog w = .ok (sameB f g) w := eqB 9996
  have K1 := (Blk.new w 16 f 29).alloc (.cells (mk 3 fun _ => 0) 70)
  have K2 := Blk.new (w.alloc (.cells (mk 16 f) 29)) 3 (fun _ => 0) 70
  have HB := Lib.hid (((Below.refl w.heap.size w).alloc (Nat.le_refl _) (.cells (mk 16 f) 29)).alloc (by simp) (.cells (mk 3 fun _ => 0) 70))
  simp only [World.size_alloc] at K2
  by_cases hs : SlideOk f d
  · have HSL := Lib.hid (implSlide_any f d)
    obtain ⟨s1, s2, s3, _⟩ := slide_yes hs
    rw [s1, s2, s3] at HSL
    clear s1 s2 s3
    by_cases hm : isMv f d.toNat = true
    · by_cases hn : 0 ≤ n ∧ n ≤ 1
      · obtain ⟨n0, n1⟩ := hn
        obtain ⟨y1, y2⟩ := rp_some (f := f) (d := d) (n := n) ⟨hs, hm, n0, n1⟩
        rw [y1, y2]
        clear y1 y2
        have hq : sameB (slideB f d.toNat) f = false := by simpa [isMv] using hm
        have HM := Lib.hid hm
        obtain ⟨m, rfl⟩ := Int.eq_ofNat_of_zero_le n0
        show Calls _ _ _ _ fun e w' => e = .returned (.tuple #[.agg (mk 3 (plF (wrF m (slideB f d.toNat)).p)), .int .i64 (wrF m (slideB f d.toNat)).v, .bool true]) ∧ _
        have HC := Lib.hid (fun W => wr_all m (by omega) (slideB f d.toNat) W (slideB_vd hs.1 d.toNat))
        have h3 : ¬ ((m : Nat) : Int) < 0 := by omega
        have h4 : ¬ ((m : Nat) : Int) ≥ 2 := by omega
        generalize wrF m (slideB f d.toNat) = S at *
        generalize hnm : ((m : Nat) : Int) = n at *
        clear hnm hm
        clear hs
        go_enter Try.func72, Try.ntmps72
        go_wp2_with ((with_reducible show wpList _ _ _ (Oper.mk _ (Op.load 29 _) _ _ _ _ :: _) _ _); refine loadB (K1) rfl rfl rfl ?_)
        refine (HSL.out _).mono ?_
        rintro e w3 ⟨rfl, hb⟩
        have K1 := K1.below hb K1.lt
        have K2 := K2.below hb K2.lt
        have HB : Hid (Below w.heap.size w w3) := HB.out.trans (hb.mono HB.out.size)
        clear hb
        have K9 := Blk.new w3 16 (slideB f d.toNat) 29
        have K1 := K1.alloc (.cells (mk 16 (slideB f d.toNat)) 29)
        have K2 := K2.alloc (.cells (mk 16 (slideB f d.toNat)) 29)
        have HB : Hid (Below w.heap.size w (w3.alloc (.cells (mk 16 (slideB f d.toNat)) 29))) := HB.out.alloc HB.out.size _
        go_wp2_with (first | ((with_reducible show wpList _ _ _ (Oper.mk _ (Op.load 29 _) _ _ _ _ :: _) _ _); refine loadB (K9) rfl rfl rfl ?_) | ((with_reducible show wpList _ _ _ (Oper.mk _ (Op.load 29 _) _ _ _ _ :: _) _ _); refine loadB (K1) rfl rfl rfl ?_) | ((with_reducible show wpList _ _ _ (Oper.mk _ (Op.load 29 _) _ _ _ (some _) :: _) _ _); refine loadgB (K9) rfl rfl rfl ?_) | ((with_reducible show wpList _ _ _ (Oper.mk _ (Op.load 29 _) _ _ _ (some _) :: _) _ _); refine loadgB (K1) rfl rfl rfl ?_))
        refine (HC.out _).mono ?_
        rintro e w5 ⟨rfl, hb⟩
        have K2 := (K2.below hb K2.lt).alloc (.cells (mk 3 (plF S.p)) 70)
        have K11 := Blk.new w5 3 (plF S.p) 70
        have HB5 : Hid (Below w.heap.size w w5) := HB.out.trans (hb.mono HB.out.size)
        have HB : Hid (Below w.heap.size w (w5.alloc (.cells (mk 3 (plF S.p)) 70))) := HB5.out.alloc HB5.out.size _
        clear hb
        go_wp2_with (first | ((with_reducible show wpList _ _ _ (Oper.mk _ (Op.load 70 _) _ _ _ _ :: _) _ _); refine loadA (K11) rfl rfl rfl ?_) | ((with_reducible show wpList _ _ _ (Oper.mk _ (Op.store 70 _ _) _ _ _ _ :: _) _ _); refine storeA (K2) rfl rfl rfl rfl ?_))
        try simp only [Exit.inBlock, Exit.then]
        exact retcttA (K2.row 3 _) rfl rfl rfl ⟨rfl, below_setRow HB.out (by omega) _⟩
      · have hq : sameB (slideB f d.toNat) f = false := by simpa [isMv] using hm
        have hno : ¬ RepOk f d n := fun h => hn h.2.2
        obtain ⟨y1, y2⟩ := rp_none hno
        rw [y1, y2]
        clear y1 y2 hno
        clear hs hm
        by_cases hl : n < 0
        · clear hn
          go_enter Try.func72, Try.ntmps72
          go_wp2_with ((with_reducible show wpList _ _ _ (Oper.mk _ (Op.load 29 _) _ _ _ _ :: _) _ _); refine loadB (K1) rfl rfl rfl ?_)
          refine (HSL.out _).mono ?_
          rintro e w3 ⟨rfl, hb⟩
          have K1 := K1.below hb K1.lt
          have K2 := K2.below hb K2.lt
          have HB : Hid (Below w.heap.size w w3) := HB.out.trans (hb.mono HB.out.size)
          clear hb
          have K9 := Blk.new w3 16 (slideB f d.toNat) 29
          have K1 := K1.alloc (.cells (mk 16 (slideB f d.toNat)) 29)
          have K2 := K2.alloc (.cells (mk 16 (slideB f d.toNat)) 29)
          have HB : Hid (Below w.heap.size w (w3.alloc (.cells (mk 16 (slideB f d.toNat)) 29))) := HB.out.alloc HB.out.size _
          go_wp2_with (first | ((with_reducible show wpList _ _ _ (Oper.mk _ (Op.load 29 _) _ _ _ _ :: _) _ _); refine loadB (K9) rfl rfl rfl ?_) | ((with_reducible show wpList _ _ _ (Oper.mk _ (Op.load 29 _) _ _ _ _ :: _) _ _); refine loadB (K1) rfl rfl rfl ?_) | ((with_reducible show wpList _ _ _ (Oper.mk _ (Op.load 29 _) _ _ _ (some _) :: _) _ _); refine loadgB (K9) rfl rfl rfl ?_) | ((with_reducible show wpList _ _ _ (Oper.mk _ (Op.load 29 _) _ _ _ (some _) :: _) _ _); refine loadgB (K1) rfl rfl rfl ?_) | ((with_reducible show wpList _ _ _ (Oper.mk _ (Op.store 70 _ _) _ _ _ _ :: _) _ _); refine storeA (K2) rfl rfl rfl rfl ?_))
          try simp only [Exit.inBlock, Exit.then]
          refine retcttA (K2.row 3 _) rfl rfl rfl ⟨?_, below_setRow HB.out (by omega) _⟩
          have hz := mk_plF0
          show _ = Ending.returned (.tuple #[.agg (mk 3 (plF (0, 0))), .int .i64 0, .bool false])
          rw [hz]
          rfl
        · have hg : n ≥ 2 := by omega
          clear hn
          go_enter Try.func72, Try.ntmps72
          go_wp2_with ((with_reducible show wpList _ _ _ (Oper.mk _ (Op.load 29 _) _ _ _ _ :: _) _ _); refine loadB (K1) rfl rfl rfl ?_)
          refine (HSL.out _).mono ?_
          rintro e w3 ⟨rfl, hb⟩
          have K1 := K1.below hb K1.lt
          have K2 := K2.below hb K2.lt
          have HB : Hid (Below w.heap.size w w3) := HB.out.trans (hb.mono HB.out.size)
          clear hb
          have K9 := Blk.new w3 16 (slideB f d.toNat) 29
          have K1 := K1.alloc (.cells (mk 16 (slideB f d.toNat)) 29)
          have K2 := K2.alloc (.cells (mk 16 (slideB f d.toNat)) 29)
          have HB : Hid (Below w.heap.size w (w3.alloc (.cells (mk 16 (slideB f d.toNat)) 29))) := HB.out.alloc HB.out.size _
          go_wp2_with (first | ((with_reducible show wpList _ _ _ (Oper.mk _ (Op.load 29 _) _ _ _ _ :: _) _ _); refine loadB (K9) rfl rfl rfl ?_) | ((with_reducible show wpList _ _ _ (Oper.mk _ (Op.load 29 _) _ _ _ _ :: _) _ _); refine loadB (K1) rfl rfl rfl ?_) | ((with_reducible show wpList _ _ _ (Oper.mk _ (Op.load 29 _) _ _ _ (some _) :: _) _ _); refine loadgB (K9) rfl rfl rfl ?_) | ((with_reducible show wpList _ _ _ (Oper.mk _ (Op.load 29 _) _ _ _ (some _) :: _) _ _); refine loadgB (K1) rfl rfl rfl ?_) | ((with_reducible show wpList _ _ _ (Oper.mk _ (Op.store 70 _ _) _ _ _ _ :: _) _ _); refine storeA (K2) rfl rfl rfl rfl ?_))
          try simp only [Exit.inBlock, Exit.then]
          refine retcttA (K2.row 3 _) rfl rfl rfl ⟨?_, below_setRow HB.out (by omega) _⟩
          have hz := mk_plF0
          show _ = Ending.returned (.tuple #[.agg (mk 3 (plF (0, 0))), .int .i64 0, .bool false])
          rw [hz]
          rfl
    · have hm : isMv f d.toNat = false := by simpa using hm
      have hno : ¬ RepOk f d n := fun h => by have := h.2.1; rw [hm] at this; cases this
      obtain ⟨y1, y2⟩ := rp_none hno
      rw [y1, y2]
      clear y1 y2 hno
      have hq : sameB (slideB f d.toNat) f = true := by simpa [isMv] using hm
      clear hm hs
      go_enter Try.func72, Try.ntmps72
      go_wp2_with ((with_reducible show wpList _ _ _ (Oper.mk _ (Op.load 29 _) _ _ _ _ :: _) _ _); refine loadB (K1) rfl rfl rfl ?_)
      refine (HSL.out _).mono ?_
      rintro e w3 ⟨rfl, hb⟩
      have K1 := K1.below hb K1.lt
      have K2 := K2.below hb K2.lt
      have HB : Hid (Below w.heap.size w w3) := HB.out.trans (hb.mono HB.out.size)
      clear hb
      have K9 := Blk.new w3 16 (slideB f d.toNat) 29
      have K1 := K1.alloc (.cells (mk 16 (slideB f d.toNat)) 29)
      have K2 := K2.alloc (.cells (mk 16 (slideB f d.toNat)) 29)
      have HB : Hid (Below w.heap.size w (w3.alloc (.cells (mk 16 (slideB f d.toNat)) 29))) := HB.out.alloc HB.out.size _
      go_wp2_with (first | ((with_reducible show wpList _ _ _ (Oper.mk _ (Op.load 29 _) _ _ _ _ :: _) _ _); refine loadB (K9) rfl rfl rfl ?_) | ((with_reducible show wpList _ _ _ (Oper.mk _ (Op.load 29 _) _ _ _ _ :: _) _ _); refine loadB (K1) rfl rfl rfl ?_) | ((with_reducible show wpList _ _ _ (Oper.mk _ (Op.load 29 _) _ _ _ (some _) :: _) _ _); refine loadgB (K9) rfl rfl rfl ?_) | ((with_reducible show wpList _ _ _ (Oper.mk _ (Op.load 29 _) _ _ _ (some _) :: _) _ _); refine loadgB (K1) rfl rfl rfl ?_) | ((with_reducible show wpList _ _ _ (Oper.mk _ (Op.store 70 _ _) _ _ _ _ :: _) _ _); refine storeA (K2) rfl rfl rfl rfl ?_))
      try simp only [Exit.inBlock, Exit.then]
      refine retcttA (K2.row 3 _) rfl rfl rfl ⟨?_, below_setRow HB.out (by omega) _⟩
      have hz := mk_plF0
      show _ = Ending.returned (.tuple #[.agg (mk 3 (plF (0, 0))), .int .i64 0, .bool false])
      rw [hz]
      rfl
  · have hno : ¬ RepOk f d n := fun h => hs h.1
    obtain ⟨y1, y2⟩ := rp_none hno
    rw [y1, y2]
    clear y1 y2 hno
    have HSL := Lib.hid (implSlide_any f d)
    obtain ⟨s1, s2, s3, _⟩ := slide_no hs
    rw [s1, s2, s3] at HSL
    clear s1 s2 s3 hs
    go_enter Try.func72, Try.ntmps72
    go_wp2_with ((with_reducible show wpList _ _ _ (Oper.mk _ (Op.load 29 _) _ _ _ _ :: _) _ _); refine loadB (K1) rfl rfl rfl ?_)
    refine (HSL.out _).mono ?_
    rintro e w3 ⟨rfl, hb⟩
    have K1 := K1.below hb K1.lt
    have K2 := K2.below hb K2.lt
    have HB : Hid (Below w.heap.size w w3) := HB.out.trans (hb.mono HB.out.size)
    clear hb
    have K9 := Blk.new w3 16 (fun _ => 0) 29
    have K1 := K1.alloc (.cells (mk 16 (fun _ => 0)) 29)
    have K2 := K2.alloc (.cells (mk 16 (fun _ => 0)) 29)
    have HB : Hid (Below w.heap.size w (w3.alloc (.cells (mk 16 (fun _ => 0)) 29))) := HB.out.alloc HB.out.size _
    go_wp2_with (first | ((with_reducible show wpList _ _ _ (Oper.mk _ (Op.load 29 _) _ _ _ _ :: _) _ _); refine loadB (K9) rfl rfl rfl ?_) | ((with_reducible show wpList _ _ _ (Oper.mk _ (Op.load 29 _) _ _ _ _ :: _) _ _); refine loadB (K1) rfl rfl rfl ?_) | ((with_reducible show wpList _ _ _ (Oper.mk _ (Op.load 29 _) _ _ _ (some _) :: _) _ _); refine loadgB (K9) rfl rfl rfl ?_) | ((with_reducible show wpList _ _ _ (Oper.mk _ (Op.load 29 _) _ _ _ (some _) :: _) _ _); refine loadgB (K1) rfl rfl rfl ?_) | ((with_reducible show wpList _ _ _ (Oper.mk _ (Op.store 70 _ _) _ _ _ _ :: _) _ _); refine storeA (K2) rfl rfl rfl rfl ?_))
    try simp only [Exit.inBlock, Exit.then]
    refine retcttA (K2.row 3 _) rfl rfl rfl ⟨?_, below_setRow HB.out (by omega) _⟩
    have hz := mk_plF0
    show _ = Ending.returned (.tuple #[.agg (mk 3 (plF (0, 0))), .int .i64 0, .bool false])
    rw [hz]
    rfl
end Go.Proofs.Ytlboglcpbbnbcab
