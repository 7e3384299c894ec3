/-
  The contract of the reference's l5Do: the board behind a step, for every valid board and every four numbers.
-/
import Derived.Test.YtfjpdopljmilpaaStepMem
import Derived.Test.YtfjpdopljmilpaaSpecLine
import Derived.Test.YtfjpdopljmilpaaSpecSlide
namespace Go.Proofs.Ytfjpdopljmilpaa
open Go.RowKit Plain
attribute [local go_sem] store_new

set_option maxHeartbeats 1000000 in
theorem l5Do_any (f s : Nat → Int) (w : World) (hV : Vd f) :
    Calls Try.prog 145 #[.agg (mk 16 f), .agg (mk 4 s)] w fun e w' => e = .returned (.tuple #[.agg (mk 16 (doB f s)), .int .i64 (doS f s), .bool (doO f s)]) ∧ Below w.heap.size w w' := by
  have z16 := zero16
  have HV := Lib.hid hV
  have K1 := ((Blk.new w 16 f 26).alloc (.cells (mk 4 s) 52)).alloc (.cells (mk 16 fun _ => 0) 26)
  have K2 := (Blk.new (w.alloc (.cells (mk 16 f) 26)) 4 s 52).alloc (.cells (mk 16 fun _ => 0) 26)
  have K3 := Blk.new ((w.alloc (.cells (mk 16 f) 26)).alloc (.cells (mk 4 s) 52)) 16 (fun _ => 0) 26
  have HB := Lib.hid ((((Below.refl w.heap.size w).alloc (Nat.le_refl _) (.cells (mk 16 f) 26)).alloc (by simp) (.cells (mk 4 s) 52)).alloc (by simp; omega) (.cells (mk 16 fun _ => 0) 26))
  simp only [World.size_alloc] at K2 K3
  by_cases h0 : 0 ≤ s 0 ∧ s 0 ≤ 3
  · have H0 := Lib.hid h0
    clear h0
    by_cases hC : CellIn (cellS s)
    · have HC := Lib.hid hC
      clear hC
      by_cases ht : 1 ≤ s 3 ∧ s 3 ≤ 2
      · have HT := Lib.hid ht
        clear ht
        obtain ⟨r, c, hr, hc, e0, e1, ep⟩ := cell_nat HC.out
        have E0 := Lib.hid e0
        have E1 := Lib.hid e1
        have EP := Lib.hid ep
        clear e0 e1 ep hV
        by_cases hm : sameB (slideB f (s 0).toNat) f = true
        · obtain ⟨y1, y2, y3⟩ := do_no (f := f) (s := s) (fun h => by rw [h.2.2.2.1] at hm; cases hm)
          rw [y1, y2, y3]
          clear y1 y2 y3
          have HM := Lib.hid hm
          clear hm
          have c0 := K2.cell (i := 0) (by omega)
          go_enter Try.func145, Try.ntmps145
          go_wp2_with fail
          refine (l2Side_yes (s 0) _ H0.out.1 H0.out.2).mono ?_
          rintro e w' ⟨rfl, rfl⟩
          go_wp2_with ((with_reducible show wpList _ _ _ (Oper.mk _ (Op.load 37 _) _ _ _ (some _) :: _) _ _); refine loadPgC (K2) (by omega) rfl rfl rfl ?_)
          refine (l2Cell_yes (cellS s) _ HC.out).mono ?_
          rintro e w1 ⟨rfl, hb2⟩
          have K1 := K1.below hb2 K1.lt
          have K2 := K2.below hb2 K2.lt
          have K3 := K3.below hb2 K3.lt
          have HB : Hid (Below w.heap.size w w1) := HB.out.trans (hb2.mono HB.out.size)
          clear hb2
          clear c0
          have c3 := K2.cell (i := 3) (by omega)
          go_wp2_with fail
          refine (l1In_yes (s 3) 1 2 _ HT.out.1 HT.out.2).mono ?_
          rintro e w' ⟨rfl, rfl⟩
          clear c3
          have c0 := K2.cell (i := 0) (by omega)
          go_wp2_with ((with_reducible show wpList _ _ _ (Oper.mk _ (Op.load 26 _) _ _ _ _ :: _) _ _); refine loadB (K1) rfl rfl rfl ?_)
          refine (l2Slide_any f (s 0) _ HV.out H0.out.1 H0.out.2).mono ?_
          rintro e w2 ⟨rfl, hb2⟩
          have K1 := K1.below hb2 K1.lt
          have K2 := K2.below hb2 K2.lt
          have K3 := K3.below hb2 K3.lt
          have HB : Hid (Below w.heap.size w w2) := HB.out.trans (hb2.mono HB.out.size)
          clear hb2
          clear c0
          have iE : ∀ (w : World), (Op.equalIn 10000 26 (.agg (mk 16 (slideB f (s 0).toNat))) (.agg (mk 16 f))).run Try.prog w = .ok true w := fun w => by rw [eqB 9996, HM.out]
          have K1 := K1.alloc (.cells (mk 16 (slideB f (s 0).toNat)) 26)
          have K3 := K3.alloc (.cells (mk 16 (slideB f (s 0).toNat)) 26)
          have K4 := Blk.new w2 16 (slideB f (s 0).toNat) 26
          have HB : Hid (Below w.heap.size w (w2.alloc (.cells (mk 16 (slideB f (s 0).toNat)) 26))) := HB.out.alloc HB.out.size _
          go_wp2_with (first | ((with_reducible show wpList _ _ _ (Oper.mk _ (Op.load 26 _) _ _ _ _ :: _) _ _); refine loadB (K4) rfl rfl rfl ?_) | ((with_reducible show wpList _ _ _ (Oper.mk _ (Op.load 26 _) _ _ _ _ :: _) _ _); refine loadB (K1) rfl rfl rfl ?_) | ((with_reducible show wpList _ _ _ (Oper.mk _ (Op.store 26 _ _) _ _ _ _ :: _) _ _); refine storeB (K3) rfl rfl rfl rfl ?_))
          try simp only [Exit.inBlock, Exit.then]
          exact retcttB (K3.row 16 _) rfl rfl rfl ⟨rfl, below_setRow HB.out (by omega) _⟩
        · have hm : sameB (slideB f (s 0).toNat) f = false := by simpa using hm
          by_cases hz : slideB f (s 0).toNat (r * 4 + c) = 0
          · obtain ⟨y1, y2, y3⟩ := do_yes (f := f) (s := s) ⟨H0.out, HC.out, HT.out, hm, by rw [EP.out]; exact hz⟩
            rw [y1, y2, y3, EP.out]
            clear y1 y2 y3
            have HM := Lib.hid hm
            have HZ := Lib.hid hz
            clear hm hz
            have c0 := K2.cell (i := 0) (by omega)
            go_enter Try.func145, Try.ntmps145
            go_wp2_with fail
            refine (l2Side_yes (s 0) _ H0.out.1 H0.out.2).mono ?_
            rintro e w' ⟨rfl, rfl⟩
            go_wp2_with ((with_reducible show wpList _ _ _ (Oper.mk _ (Op.load 37 _) _ _ _ (some _) :: _) _ _); refine loadPgC (K2) (by omega) rfl rfl rfl ?_)
            refine (l2Cell_yes (cellS s) _ HC.out).mono ?_
            rintro e w1 ⟨rfl, hb2⟩
            have K1 := K1.below hb2 K1.lt
            have K2 := K2.below hb2 K2.lt
            have K3 := K3.below hb2 K3.lt
            have HB : Hid (Below w.heap.size w w1) := HB.out.trans (hb2.mono HB.out.size)
            clear hb2
            clear c0
            have c3 := K2.cell (i := 3) (by omega)
            go_wp2_with fail
            refine (l1In_yes (s 3) 1 2 _ HT.out.1 HT.out.2).mono ?_
            rintro e w' ⟨rfl, rfl⟩
            clear c3
            have c0 := K2.cell (i := 0) (by omega)
            go_wp2_with ((with_reducible show wpList _ _ _ (Oper.mk _ (Op.load 26 _) _ _ _ _ :: _) _ _); refine loadB (K1) rfl rfl rfl ?_)
            refine (l2Slide_any f (s 0) _ HV.out H0.out.1 H0.out.2).mono ?_
            rintro e w2 ⟨rfl, hb2⟩
            have K1 := K1.below hb2 K1.lt
            have K2 := K2.below hb2 K2.lt
            have K3 := K3.below hb2 K3.lt
            have HB : Hid (Below w.heap.size w w2) := HB.out.trans (hb2.mono HB.out.size)
            clear hb2
            clear c0
            have iE : ∀ (w : World), (Op.equalIn 10000 26 (.agg (mk 16 (slideB f (s 0).toNat))) (.agg (mk 16 f))).run Try.prog w = .ok false w := fun w => by rw [eqB 9996, HM.out]
            have K1 := K1.alloc (.cells (mk 16 (slideB f (s 0).toNat)) 26)
            have K2 := K2.alloc (.cells (mk 16 (slideB f (s 0).toNat)) 26)
            have K3 := K3.alloc (.cells (mk 16 (slideB f (s 0).toNat)) 26)
            have K4 := Blk.new w2 16 (slideB f (s 0).toNat) 26
            have HB : Hid (Below w.heap.size w (w2.alloc (.cells (mk 16 (slideB f (s 0).toNat)) 26))) := HB.out.alloc HB.out.size _
            go_wp2_with (first | ((with_reducible show wpList _ _ _ (Oper.mk _ (Op.load 26 _) _ _ _ (some _) :: _) _ _); refine loadgB (K4) rfl rfl rfl ?_) | ((with_reducible show wpList _ _ _ (Oper.mk _ (Op.load 37 _) _ _ _ (some _) :: _) _ _); refine loadPgC (K2) (by omega) rfl rfl rfl ?_) | ((with_reducible show wpList _ _ _ (Oper.mk _ (Op.load 26 _) _ _ _ _ :: _) _ _); refine loadB (K4) rfl rfl rfl ?_) | ((with_reducible show wpList _ _ _ (Oper.mk _ (Op.load 26 _) _ _ _ _ :: _) _ _); refine loadB (K1) rfl rfl rfl ?_))
            refine (l2At_any _ (cellS s) r c _ E0.out E1.out hr hc).mono ?_
            rw [HZ.out]
            have K4 := K4
            rintro e w3 ⟨rfl, hb2⟩
            have K2 := K2.below hb2 K2.lt
            have K3 := K3.below hb2 K3.lt
            have K4 := K4.below hb2 K4.lt
            have HB : Hid (Below w.heap.size w w3) := HB.out.trans (hb2.mono HB.out.size)
            clear hb2 K1
            have c3 := K2.cell (i := 3) (by omega)
            go_wp2_with (first | ((with_reducible show wpList _ _ _ (Oper.mk _ (Op.load 26 _) _ _ _ _ :: _) _ _); refine loadB (K4) rfl rfl rfl ?_) | ((with_reducible show wpList _ _ _ (Oper.mk _ (Op.load 37 _) _ _ _ _ :: _) _ _); refine loadPC (K2) (by omega) rfl rfl rfl ?_))
            refine (l2Put_any _ (cellS s) r c (s 3) _ E0.out E1.out hr hc).mono ?_
            rintro e w4 ⟨rfl, hb2⟩
            have K3 := K3.below hb2 K3.lt
            have HB : Hid (Below w.heap.size w w4) := HB.out.trans (hb2.mono HB.out.size)
            clear hb2 c3 K2 K4
            go_wp2_with ((with_reducible show wpList _ _ _ (Oper.mk _ (Op.store 26 _ _) _ _ _ _ :: _) _ _); refine storeB (K3) rfl rfl rfl rfl ?_)
            try simp only [Exit.inBlock, Exit.then]
            exact retcttB (K3.row 16 _) rfl rfl rfl ⟨rfl, below_setRow HB.out (by omega) _⟩
          · obtain ⟨y1, y2, y3⟩ := do_no (f := f) (s := s) (fun h => hz (by rw [← EP.out]; exact h.2.2.2.2))
            rw [y1, y2, y3]
            clear y1 y2 y3
            have HM := Lib.hid hm
            have d0 : (slideB f (s 0).toNat (r * 4 + c) != 0) = true := by simpa using hz
            clear hm hz
            have c0 := K2.cell (i := 0) (by omega)
            go_enter Try.func145, Try.ntmps145
            go_wp2_with fail
            refine (l2Side_yes (s 0) _ H0.out.1 H0.out.2).mono ?_
            rintro e w' ⟨rfl, rfl⟩
            go_wp2_with ((with_reducible show wpList _ _ _ (Oper.mk _ (Op.load 37 _) _ _ _ (some _) :: _) _ _); refine loadPgC (K2) (by omega) rfl rfl rfl ?_)
            refine (l2Cell_yes (cellS s) _ HC.out).mono ?_
            rintro e w1 ⟨rfl, hb2⟩
            have K1 := K1.below hb2 K1.lt
            have K2 := K2.below hb2 K2.lt
            have K3 := K3.below hb2 K3.lt
            have HB : Hid (Below w.heap.size w w1) := HB.out.trans (hb2.mono HB.out.size)
            clear hb2
            clear c0
            have c3 := K2.cell (i := 3) (by omega)
            go_wp2_with fail
            refine (l1In_yes (s 3) 1 2 _ HT.out.1 HT.out.2).mono ?_
            rintro e w' ⟨rfl, rfl⟩
            clear c3
            have c0 := K2.cell (i := 0) (by omega)
            go_wp2_with ((with_reducible show wpList _ _ _ (Oper.mk _ (Op.load 26 _) _ _ _ _ :: _) _ _); refine loadB (K1) rfl rfl rfl ?_)
            refine (l2Slide_any f (s 0) _ HV.out H0.out.1 H0.out.2).mono ?_
            rintro e w2 ⟨rfl, hb2⟩
            have K1 := K1.below hb2 K1.lt
            have K2 := K2.below hb2 K2.lt
            have K3 := K3.below hb2 K3.lt
            have HB : Hid (Below w.heap.size w w2) := HB.out.trans (hb2.mono HB.out.size)
            clear hb2
            clear c0
            have iE : ∀ (w : World), (Op.equalIn 10000 26 (.agg (mk 16 (slideB f (s 0).toNat))) (.agg (mk 16 f))).run Try.prog w = .ok false w := fun w => by rw [eqB 9996, HM.out]
            have K1 := K1.alloc (.cells (mk 16 (slideB f (s 0).toNat)) 26)
            have K2 := K2.alloc (.cells (mk 16 (slideB f (s 0).toNat)) 26)
            have K3 := K3.alloc (.cells (mk 16 (slideB f (s 0).toNat)) 26)
            have K4 := Blk.new w2 16 (slideB f (s 0).toNat) 26
            have HB : Hid (Below w.heap.size w (w2.alloc (.cells (mk 16 (slideB f (s 0).toNat)) 26))) := HB.out.alloc HB.out.size _
            go_wp2_with (first | ((with_reducible show wpList _ _ _ (Oper.mk _ (Op.load 26 _) _ _ _ (some _) :: _) _ _); refine loadgB (K4) rfl rfl rfl ?_) | ((with_reducible show wpList _ _ _ (Oper.mk _ (Op.load 37 _) _ _ _ (some _) :: _) _ _); refine loadPgC (K2) (by omega) rfl rfl rfl ?_) | ((with_reducible show wpList _ _ _ (Oper.mk _ (Op.load 26 _) _ _ _ _ :: _) _ _); refine loadB (K4) rfl rfl rfl ?_) | ((with_reducible show wpList _ _ _ (Oper.mk _ (Op.load 26 _) _ _ _ _ :: _) _ _); refine loadB (K1) rfl rfl rfl ?_))
            refine (l2At_any _ (cellS s) r c _ E0.out E1.out hr hc).mono ?_
            rintro e w3 ⟨rfl, hb2⟩
            have K1 := K1.below hb2 K1.lt
            have K2 := K2.below hb2 K2.lt
            have K3 := K3.below hb2 K3.lt
            have HB : Hid (Below w.heap.size w w3) := HB.out.trans (hb2.mono HB.out.size)
            clear hb2
            go_wp2_with ((with_reducible show wpList _ _ _ (Oper.mk _ (Op.store 26 _ _) _ _ _ _ :: _) _ _); refine storeB (K3) rfl rfl rfl rfl ?_)
            try simp only [Exit.inBlock, Exit.then]
            exact retcttB (K3.row 16 _) rfl rfl rfl ⟨rfl, below_setRow HB.out (by omega) _⟩
      · obtain ⟨y1, y2, y3⟩ := do_no (f := f) (s := s) (fun h => ht h.2.2.1)
        rw [y1, y2, y3]
        clear y1 y2 y3
        have HT := Lib.hid (show s 3 < 1 ∨ 2 < s 3 by omega)
        clear ht hV
        have c0 := K2.cell (i := 0) (by omega)
        go_enter Try.func145, Try.ntmps145
        go_wp2_with fail
        refine (l2Side_yes (s 0) _ H0.out.1 H0.out.2).mono ?_
        rintro e w' ⟨rfl, rfl⟩
        go_wp2_with ((with_reducible show wpList _ _ _ (Oper.mk _ (Op.load 37 _) _ _ _ (some _) :: _) _ _); refine loadPgC (K2) (by omega) rfl rfl rfl ?_)
        refine (l2Cell_yes (cellS s) _ HC.out).mono ?_
        rintro e w1 ⟨rfl, hb2⟩
        have K1 := K1.below hb2 K1.lt
        have K2 := K2.below hb2 K2.lt
        have K3 := K3.below hb2 K3.lt
        have HB : Hid (Below w.heap.size w w1) := HB.out.trans (hb2.mono HB.out.size)
        clear hb2
        clear c0
        have c3 := K2.cell (i := 3) (by omega)
        go_wp2_with fail
        refine (l1In_no (s 3) 1 2 _ HT.out).mono ?_
        rintro e w' ⟨rfl, rfl⟩
        clear c3
        go_wp2_with ((with_reducible show wpList _ _ _ (Oper.mk _ (Op.store 26 _ _) _ _ _ _ :: _) _ _); refine storeB (K3) rfl rfl rfl rfl ?_)
        try simp only [Exit.inBlock, Exit.then]
        exact retcttB (K3.row 16 _) rfl rfl rfl ⟨rfl, below_setRow HB.out (by omega) _⟩
    · obtain ⟨y1, y2, y3⟩ := do_no (f := f) (s := s) (fun h => hC h.2.1)
      rw [y1, y2, y3]
      clear y1 y2 y3
      have HC := Lib.hid hC
      clear hC hV
      have c0 := K2.cell (i := 0) (by omega)
      go_enter Try.func145, Try.ntmps145
      go_wp2_with fail
      refine (l2Side_yes (s 0) _ H0.out.1 H0.out.2).mono ?_
      rintro e w' ⟨rfl, rfl⟩
      go_wp2_with ((with_reducible show wpList _ _ _ (Oper.mk _ (Op.load 37 _) _ _ _ (some _) :: _) _ _); refine loadPgC (K2) (by omega) rfl rfl rfl ?_)
      refine (l2Cell_no (cellS s) _ HC.out).mono ?_
      rintro e w1 ⟨rfl, hb2⟩
      have K1 := K1.below hb2 K1.lt
      have K2 := K2.below hb2 K2.lt
      have K3 := K3.below hb2 K3.lt
      have HB : Hid (Below w.heap.size w w1) := HB.out.trans (hb2.mono HB.out.size)
      clear hb2
      clear c0
      go_wp2_with ((with_reducible show wpList _ _ _ (Oper.mk _ (Op.store 26 _ _) _ _ _ _ :: _) _ _); refine storeB (K3) rfl rfl rfl rfl ?_)
      try simp only [Exit.inBlock, Exit.then]
      exact retcttB (K3.row 16 _) rfl rfl rfl ⟨rfl, below_setRow HB.out (by omega) _⟩
  · obtain ⟨y1, y2, y3⟩ := do_no (f := f) (s := s) (fun h => h0 h.1)
    rw [y1, y2, y3]
    clear y1 y2 y3
    have H0 := Lib.hid (show s 0 < 0 ∨ 3 < s 0 by omega)
    clear h0 hV
    have c0 := K2.cell (i := 0) (by omega)
    go_enter Try.func145, Try.ntmps145
    go_wp2_with fail
    refine (l2Side_no (s 0) _ H0.out).mono ?_
    rintro e w' ⟨rfl, rfl⟩
    clear c0
    go_wp2_with ((with_reducible show wpList _ _ _ (Oper.mk _ (Op.store 26 _ _) _ _ _ _ :: _) _ _); refine storeB (K3) rfl rfl rfl rfl ?_)
    try simp only [Exit.inBlock, Exit.then]
    exact retcttB (K3.row 16 _) rfl rfl rfl ⟨rfl, below_setRow HB.out (by omega) _⟩
set_option maxHeartbeats 400000 in
/-- The reference's DoStep. -/
theorem specDo_any (f s : Nat → Int) (w : World) :
    Calls Try.prog 177 #[.agg (mk 16 f), .agg (mk 4 s)] w fun e w' => e = .returned (.tuple #[.agg (mk 16 (doRB f s)), .int .i64 (doRS f s), .bool (doRO f s)]) ∧ Below w.heap.size w w' := by
  have z16 := zero16
  have K1 := ((Blk.new w 16 f 26).alloc (.cells (mk 4 s) 52)).alloc (.cells (mk 16 fun _ => 0) 26)
  have K2 := (Blk.new (w.alloc (.cells (mk 16 f) 26)) 4 s 52).alloc (.cells (mk 16 fun _ => 0) 26)
  have K3 := Blk.new ((w.alloc (.cells (mk 16 f) 26)).alloc (.cells (mk 4 s) 52)) 16 (fun _ => 0) 26
  have HB := Lib.hid ((((Below.refl w.heap.size w).alloc (Nat.le_refl _) (.cells (mk 16 f) 26)).alloc (by simp) (.cells (mk 4 s) 52)).alloc (by simp; omega) (.cells (mk 16 fun _ => 0) 26))
  simp only [World.size_alloc] at K2 K3
  by_cases hV : Vd f
  · obtain ⟨y1, y2, y3⟩ := doR_yes (s := s) hV
    rw [y1, y2, y3]
    clear y1 y2 y3
    have HV := Lib.hid hV
    clear hV
    go_enter Try.func177, Try.ntmps177
    go_wp2_with ((with_reducible show wpList _ _ _ (Oper.mk _ (Op.load 26 _) _ _ _ _ :: _) _ _); refine loadB (K1) rfl rfl rfl ?_)
    refine (l2Board_yes _ _ HV.out).mono ?_
    rintro e w1 ⟨rfl, hb2⟩
    have K1 := K1.below hb2 K1.lt
    have K2 := K2.below hb2 K2.lt
    have K3 := K3.below hb2 K3.lt
    have HB : Hid (Below w.heap.size w w1) := HB.out.trans (hb2.mono HB.out.size)
    clear hb2
    go_wp2_with (first | ((with_reducible show wpList _ _ _ (Oper.mk _ (Op.load 26 _) _ _ _ _ :: _) _ _); refine loadB (K1) rfl rfl rfl ?_) | ((with_reducible show wpList _ _ _ (Oper.mk _ (Op.load 52 _) _ _ _ _ :: _) _ _); refine loadT (K2) rfl rfl rfl ?_))
    refine (l5Do_any f s _ HV.out).mono ?_
    rintro e w2 ⟨rfl, hb2⟩
    have K1 := K1.below hb2 K1.lt
    have K2 := K2.below hb2 K2.lt
    have K3 := K3.below hb2 K3.lt
    have HB : Hid (Below w.heap.size w w2) := HB.out.trans (hb2.mono HB.out.size)
    clear hb2
    go_wp2_with ((with_reducible show wpList _ _ _ (Oper.mk _ (Op.store 26 _ _) _ _ _ _ :: _) _ _); refine storeB (K3) rfl rfl rfl rfl ?_)
    try simp only [Exit.inBlock, Exit.then]
    exact retcttB (K3.row 16 _) rfl rfl rfl ⟨rfl, below_setRow HB.out (by omega) _⟩
  · obtain ⟨y1, y2, y3⟩ := doR_no (s := s) hV
    rw [y1, y2, y3]
    clear y1 y2 y3
    have HV := Lib.hid hV
    clear hV
    go_enter Try.func177, Try.ntmps177
    go_wp2_with ((with_reducible show wpList _ _ _ (Oper.mk _ (Op.load 26 _) _ _ _ _ :: _) _ _); refine loadB (K1) rfl rfl rfl ?_)
    refine (l2Board_no _ _ HV.out).mono ?_
    rintro e w1 ⟨rfl, hb2⟩
    have K1 := K1.below hb2 K1.lt
    have K2 := K2.below hb2 K2.lt
    have K3 := K3.below hb2 K3.lt
    have HB : Hid (Below w.heap.size w w1) := HB.out.trans (hb2.mono HB.out.size)
    clear hb2
    go_wp2_with ((with_reducible show wpList _ _ _ (Oper.mk _ (Op.store 26 _ _) _ _ _ _ :: _) _ _); refine storeB (K3) rfl rfl rfl rfl ?_)
    try simp only [Exit.inBlock, Exit.then]
    exact retcttB (K3.row 16 _) rfl rfl rfl ⟨rfl, below_setRow HB.out (by omega) _⟩
end Go.Proofs.Ytfjpdopljmilpaa
