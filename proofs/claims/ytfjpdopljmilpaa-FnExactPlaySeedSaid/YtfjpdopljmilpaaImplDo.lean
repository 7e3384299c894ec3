/-
  The contract of the program's DoStep, for every board and every four numbers of a step.
-/
import Derived.Test.YtfjpdopljmilpaaStepMem
import Derived.Test.YtfjpdopljmilpaaImplSlideBoard
import Derived.Test.YtfjpdopljmilpaaImplPut
namespace Go.Proofs.Ytfjpdopljmilpaa
open Go.RowKit Plain
attribute [local go_sem] store_new
set_option linter.unusedVariables false
set_option linter.unusedSimpArgs false

theorem newTile_yes (x : Int) (w : World) (h0 : 1 ≤ x) (h1 : x ≤ 2) :
    Calls Try.prog 171 #[.int .i64 x] w fun e w' => e = .returned (.bool true) ∧ w = w' := by
  have d0 : decide (1 ≤ x) = true := by simpa using h0
  have d1 : decide (x ≤ 2) = true := by simp; omega
  clear h0 h1
  go_enter Try.func171, Try.ntmps171
  go_wp2
  go_ret
  exact ⟨rfl, rfl⟩
theorem newTile_no (x : Int) (w : World) (h : x < 1 ∨ 2 < x) :
    Calls Try.prog 171 #[.int .i64 x] w fun e w' => e = .returned (.bool false) ∧ w = w' := by
  by_cases h0 : 1 ≤ x
  · have d0 : decide (1 ≤ x) = true := by simpa using h0
    have d1 : decide (x ≤ 2) = false := by simp; omega
    clear h h0
    go_enter Try.func171, Try.ntmps171
    go_wp2
    go_ret
    exact ⟨rfl, rfl⟩
  · have d0 : decide (1 ≤ x) = false := by simp; omega
    clear h h0
    go_enter Try.func171, Try.ntmps171
    go_wp2
    go_ret
    exact ⟨rfl, rfl⟩
namespace Plain
theorem doR_bad {f s : Nat → Int} (h : ¬ (Vd f ∧ StepOk f s)) : doRB f s = (fun _ => 0) ∧ doRS f s = 0 ∧ doRO f s = false := by
  by_cases hV : Vd f
  · obtain ⟨a, b, c⟩ := doR_yes (s := s) hV
    obtain ⟨a', b', c'⟩ := do_no (fun q => h ⟨hV, q⟩)
    rw [a, b, c, a', b', c']; exact ⟨rfl, rfl, rfl⟩
  · exact doR_no hV
theorem doR_good {f s : Nat → Int} (hV : Vd f) (h : StepOk f s) : doRB f s = upd (slideB f (s 0).toNat) (placeAt (cellS s)) (s 3) ∧ doRS f s = slideS f (s 0).toNat 4 ∧ doRO f s = true := by
  obtain ⟨a, b, c⟩ := doR_yes (s := s) hV
  obtain ⟨a', b', c'⟩ := do_yes h
  rw [a, b, c, a', b', c']; exact ⟨rfl, rfl, rfl⟩
end Plain
set_option maxHeartbeats 2000000 in
set_option maxRecDepth 20000 in
theorem implDo_any (f s : Nat → Int) (w : World) :
    Calls Try.prog 45 #[.agg (mk 16 f), .agg (mk 4 s)] w fun e w' => e = .returned (.tuple #[.agg (mk 16 (doRB f s)), .int .i64 (doRS f s), .bool (doRO f s)]) ∧ Below w.heap.size w w' := by
  have z16 := zero16
  have K1 := ((Blk.new w 16 f 26).alloc (.cells (mk 4 s) 52)).alloc (.cells (mk 16 fun _ => 0) 26)
  have K2 := (Blk.new (w.alloc (.cells (mk 16 f) 26)) 4 s 52).alloc (.cells (mk 16 fun _ => 0) 26)
  have K3 := Blk.new ((w.alloc (.cells (mk 16 f) 26)).alloc (.cells (mk 4 s) 52)) 16 (fun _ => 0) 26
  have HB := Lib.hid ((((Below.refl w.heap.size w).alloc (Nat.le_refl _) (.cells (mk 16 f) 26)).alloc (by simp) (.cells (mk 4 s) 52)).alloc (by simp; omega) (.cells (mk 16 fun _ => 0) 26))
  simp only [World.size_alloc] at K2 K3
  by_cases hS : SlideOk f (s 0)
  · obtain ⟨hV, h0⟩ := hS
    have HSO : Hid (slideRB f (s 0) = slideB f (s 0).toNat ∧ slideRS f (s 0) = slideS f (s 0).toNat 4 ∧ slideRO f (s 0) = true) := by
      obtain ⟨y1, y2, y3, _⟩ := slide_yes (f := f) (d := s 0) ⟨hV, h0⟩
      exact ⟨y2, y3, y1⟩
    have HV := Lib.hid hV
    have H0 := Lib.hid h0
    have HVS := Lib.hid (slideB_vd hV (s 0).toNat)
    clear hV h0
    by_cases hm : sameB (slideB f (s 0).toNat) f = true
    · obtain ⟨y1, y2, y3⟩ := doR_bad (f := f) (s := s) (fun h => by rw [h.2.2.2.2.1] at hm; cases hm)
      rw [y1, y2, y3]
      clear y1 y2 y3
      have iE : ∀ (w : World), (Op.equalIn 10000 26 (.agg (mk 16 (slideB f (s 0).toNat))) (.agg (mk 16 f))).run Try.prog w = .ok true w := fun w => by rw [eqB 9996, hm]
      clear hm
      have c0 := K2.cell (i := 0) (by omega)
      go_enter Try.func45, Try.ntmps45
      go_wp2_with ((with_reducible show wpList _ _ _ (Oper.mk _ (Op.load 26 _) _ _ _ _ :: _) _ _); refine loadB (K1) rfl rfl rfl ?_)
      refine (implSlide_any f (s 0) _).mono ?_
      rw [HSO.out.1, HSO.out.2.1, HSO.out.2.2]
      rintro e w1 ⟨rfl, hb⟩
      have K1 := (K1.below hb K1.lt).alloc (.cells (mk 16 (slideB f (s 0).toNat)) 26)
      have K2 := (K2.below hb K2.lt).alloc (.cells (mk 16 (slideB f (s 0).toNat)) 26)
      have K3 := (K3.below hb K3.lt).alloc (.cells (mk 16 (slideB f (s 0).toNat)) 26)
      have K7 := Blk.new w1 16 (slideB f (s 0).toNat) 26
      have HB := HB.out.trans (hb.mono HB.out.size)
      have HB : Hid (Below w.heap.size w (w1.alloc (.cells (mk 16 (slideB f (s 0).toNat)) 26))) := HB.alloc HB.size _
      clear hb c0
      go_wp2_with (first | ((with_reducible show wpList _ _ _ (Oper.mk _ (Op.load 26 _) _ _ _ (some _) :: _) _ _); refine loadgB (K7) rfl rfl rfl ?_) | ((with_reducible show wpList _ _ _ (Oper.mk _ (Op.load 26 _) _ _ _ (some _) :: _) _ _); refine loadgB (K1) rfl rfl rfl ?_) | ((with_reducible show wpList _ _ _ (Oper.mk _ (Op.store 26 _ _) _ _ _ _ :: _) _ _); refine storeB (K3) rfl rfl rfl rfl ?_))
      try simp only [Exit.inBlock, Exit.then]
      exact retcttB (K3.row 16 _) rfl rfl rfl ⟨rfl, below_setRow HB.out (by omega) _⟩
    · have hm : sameB (slideB f (s 0).toNat) f = false := by simpa using hm
      have iE : ∀ (w : World), (Op.equalIn 10000 26 (.agg (mk 16 (slideB f (s 0).toNat))) (.agg (mk 16 f))).run Try.prog w = .ok false w := fun w => by rw [eqB 9996, hm]
      by_cases ht : 1 ≤ s 3 ∧ s 3 ≤ 2
      · by_cases hp : CellIn (cellS s) ∧ slideB f (s 0).toNat (placeAt (cellS s)) = 0
        · obtain ⟨y1, y2, y3⟩ := doR_good HV.out (s := s) ⟨H0.out, hp.1, ht, hm, hp.2⟩
          rw [y1, y2, y3]
          clear y1 y2 y3
          have HP : Hid (putB (slideB f (s 0).toNat) (cellS s) (s 3) = upd (slideB f (s 0).toNat) (placeAt (cellS s)) (s 3) ∧ putO (slideB f (s 0).toNat) (cellS s) (s 3) = true) := by
            obtain ⟨y1, y2⟩ := put_yes (f := slideB f (s 0).toNat) (g := cellS s) (t := s 3) ⟨HVS.out, hp.1, by omega, hp.2⟩
            exact ⟨y2, y1⟩
          have HT := Lib.hid ht
          clear hm ht hp
          have c0 := K2.cell (i := 0) (by omega)
          go_enter Try.func45, Try.ntmps45
          go_wp2_with ((with_reducible show wpList _ _ _ (Oper.mk _ (Op.load 26 _) _ _ _ _ :: _) _ _); refine loadB (K1) rfl rfl rfl ?_)
          refine (implSlide_any f (s 0) _).mono ?_
          rw [HSO.out.1, HSO.out.2.1, HSO.out.2.2]
          rintro e w1 ⟨rfl, hb⟩
          have K1 := (K1.below hb K1.lt).alloc (.cells (mk 16 (slideB f (s 0).toNat)) 26)
          have K2 := (K2.below hb K2.lt).alloc (.cells (mk 16 (slideB f (s 0).toNat)) 26)
          have K3 := (K3.below hb K3.lt).alloc (.cells (mk 16 (slideB f (s 0).toNat)) 26)
          have K7 := Blk.new w1 16 (slideB f (s 0).toNat) 26
          have HB := HB.out.trans (hb.mono HB.out.size)
          have HB : Hid (Below w.heap.size w (w1.alloc (.cells (mk 16 (slideB f (s 0).toNat)) 26))) := HB.alloc HB.size _
          clear hb c0
          have c3 := K2.cell (i := 3) (by omega)
          go_wp2_with (first | ((with_reducible show wpList _ _ _ (Oper.mk _ (Op.load 26 _) _ _ _ (some _) :: _) _ _); refine loadgB (K7) rfl rfl rfl ?_) | ((with_reducible show wpList _ _ _ (Oper.mk _ (Op.load 26 _) _ _ _ (some _) :: _) _ _); refine loadgB (K1) rfl rfl rfl ?_))
          refine (newTile_yes (s 3) _ HT.out.1 HT.out.2).mono ?_
          rintro e w' ⟨rfl, rfl⟩
          clear iE
          go_wp2_with (first | ((with_reducible show wpList _ _ _ (Oper.mk _ (Op.load 26 _) _ _ _ _ :: _) _ _); refine loadB (K7) rfl rfl rfl ?_) | ((with_reducible show wpList _ _ _ (Oper.mk _ (Op.load 37 _) _ _ _ _ :: _) _ _); refine loadPC (K2) (by omega) rfl rfl rfl ?_))
          refine (implPut_any _ (cellS s) (s 3) _).mono ?_
          rw [HP.out.1, HP.out.2]
          rintro e w2 ⟨rfl, hb⟩
          have K3 := (K3.below hb K3.lt).alloc (.cells (mk 16 (upd (slideB f (s 0).toNat) (placeAt (cellS s)) (s 3))) 26)
          have K9 := Blk.new w2 16 (upd (slideB f (s 0).toNat) (placeAt (cellS s)) (s 3)) 26
          have HB := HB.out.trans (hb.mono HB.out.size)
          have HB : Hid (Below w.heap.size w (w2.alloc (.cells (mk 16 (upd (slideB f (s 0).toNat) (placeAt (cellS s)) (s 3))) 26))) := HB.alloc HB.size _
          clear hb c3 K1 K2 K7
          go_wp2_with (first | ((with_reducible show wpList _ _ _ (Oper.mk _ (Op.load 26 _) _ _ _ _ :: _) _ _); refine loadB (K9) rfl rfl rfl ?_) | ((with_reducible show wpList _ _ _ (Oper.mk _ (Op.store 26 _ _) _ _ _ _ :: _) _ _); refine storeB (K3) rfl rfl rfl rfl ?_))
          try simp only [Exit.inBlock, Exit.then]
          exact retcttB (K3.row 16 _) rfl rfl rfl ⟨rfl, below_setRow HB.out (by omega) _⟩
        · obtain ⟨y1, y2, y3⟩ := doR_bad (f := f) (s := s) (fun h => hp ⟨h.2.2.1, h.2.2.2.2.2⟩)
          rw [y1, y2, y3]
          clear y1 y2 y3
          have HP : Hid (putB (slideB f (s 0).toNat) (cellS s) (s 3) = (fun _ => 0) ∧ putO (slideB f (s 0).toNat) (cellS s) (s 3) = false) := by
            obtain ⟨y1, y2⟩ := put_no (f := slideB f (s 0).toNat) (g := cellS s) (t := s 3) (fun h => hp ⟨h.2.1, h.2.2.2⟩)
            exact ⟨y2, y1⟩
          have HT := Lib.hid ht
          clear hm ht hp
          have c0 := K2.cell (i := 0) (by omega)
          go_enter Try.func45, Try.ntmps45
          go_wp2_with ((with_reducible show wpList _ _ _ (Oper.mk _ (Op.load 26 _) _ _ _ _ :: _) _ _); refine loadB (K1) rfl rfl rfl ?_)
          refine (implSlide_any f (s 0) _).mono ?_
          rw [HSO.out.1, HSO.out.2.1, HSO.out.2.2]
          rintro e w1 ⟨rfl, hb⟩
          have K1 := (K1.below hb K1.lt).alloc (.cells (mk 16 (slideB f (s 0).toNat)) 26)
          have K2 := (K2.below hb K2.lt).alloc (.cells (mk 16 (slideB f (s 0).toNat)) 26)
          have K3 := (K3.below hb K3.lt).alloc (.cells (mk 16 (slideB f (s 0).toNat)) 26)
          have K7 := Blk.new w1 16 (slideB f (s 0).toNat) 26
          have HB := HB.out.trans (hb.mono HB.out.size)
          have HB : Hid (Below w.heap.size w (w1.alloc (.cells (mk 16 (slideB f (s 0).toNat)) 26))) := HB.alloc HB.size _
          clear hb c0
          have c3 := K2.cell (i := 3) (by omega)
          go_wp2_with (first | ((with_reducible show wpList _ _ _ (Oper.mk _ (Op.load 26 _) _ _ _ (some _) :: _) _ _); refine loadgB (K7) rfl rfl rfl ?_) | ((with_reducible show wpList _ _ _ (Oper.mk _ (Op.load 26 _) _ _ _ (some _) :: _) _ _); refine loadgB (K1) rfl rfl rfl ?_))
          refine (newTile_yes (s 3) _ HT.out.1 HT.out.2).mono ?_
          rintro e w' ⟨rfl, rfl⟩
          clear iE
          go_wp2_with (first | ((with_reducible show wpList _ _ _ (Oper.mk _ (Op.load 26 _) _ _ _ _ :: _) _ _); refine loadB (K7) rfl rfl rfl ?_) | ((with_reducible show wpList _ _ _ (Oper.mk _ (Op.load 37 _) _ _ _ _ :: _) _ _); refine loadPC (K2) (by omega) rfl rfl rfl ?_))
          refine (implPut_any _ (cellS s) (s 3) _).mono ?_
          rw [HP.out.1, HP.out.2]
          rintro e w2 ⟨rfl, hb⟩
          have K3 := (K3.below hb K3.lt).alloc (.cells (mk 16 fun _ => 0) 26)
          have HB := HB.out.trans (hb.mono HB.out.size)
          have HB : Hid (Below w.heap.size w (w2.alloc (.cells (mk 16 fun _ => 0) 26))) := HB.alloc HB.size _
          clear hb c3 K1 K2 K7
          go_wp2_with ((with_reducible show wpList _ _ _ (Oper.mk _ (Op.store 26 _ _) _ _ _ _ :: _) _ _); refine storeB (K3) rfl rfl rfl rfl ?_)
          try simp only [Exit.inBlock, Exit.then]
          exact retcttB (K3.row 16 _) rfl rfl rfl ⟨rfl, below_setRow HB.out (by omega) _⟩
      · obtain ⟨y1, y2, y3⟩ := doR_bad (f := f) (s := s) (fun h => ht h.2.2.2.1)
        rw [y1, y2, y3]
        clear y1 y2 y3
        have HT := Lib.hid (show s 3 < 1 ∨ 2 < s 3 by omega)
        clear hm ht
        have c0 := K2.cell (i := 0) (by omega)
        go_enter Try.func45, Try.ntmps45
        go_wp2_with ((with_reducible show wpList _ _ _ (Oper.mk _ (Op.load 26 _) _ _ _ _ :: _) _ _); refine loadB (K1) rfl rfl rfl ?_)
        refine (implSlide_any f (s 0) _).mono ?_
        rw [HSO.out.1, HSO.out.2.1, HSO.out.2.2]
        rintro e w1 ⟨rfl, hb⟩
        have K1 := (K1.below hb K1.lt).alloc (.cells (mk 16 (slideB f (s 0).toNat)) 26)
        have K2 := (K2.below hb K2.lt).alloc (.cells (mk 16 (slideB f (s 0).toNat)) 26)
        have K3 := (K3.below hb K3.lt).alloc (.cells (mk 16 (slideB f (s 0).toNat)) 26)
        have K7 := Blk.new w1 16 (slideB f (s 0).toNat) 26
        have HB := HB.out.trans (hb.mono HB.out.size)
        have HB : Hid (Below w.heap.size w (w1.alloc (.cells (mk 16 (slideB f (s 0).toNat)) 26))) := HB.alloc HB.size _
        clear hb c0
        have c3 := K2.cell (i := 3) (by omega)
        go_wp2_with (first | ((with_reducible show wpList _ _ _ (Oper.mk _ (Op.load 26 _) _ _ _ (some _) :: _) _ _); refine loadgB (K7) rfl rfl rfl ?_) | ((with_reducible show wpList _ _ _ (Oper.mk _ (Op.load 26 _) _ _ _ (some _) :: _) _ _); refine loadgB (K1) rfl rfl rfl ?_))
        refine (newTile_no (s 3) _ HT.out).mono ?_
        rintro e w' ⟨rfl, rfl⟩
        clear iE c3
        go_wp2_with ((with_reducible show wpList _ _ _ (Oper.mk _ (Op.store 26 _ _) _ _ _ _ :: _) _ _); refine storeB (K3) rfl rfl rfl rfl ?_)
        try simp only [Exit.inBlock, Exit.then]
        exact retcttB (K3.row 16 _) rfl rfl rfl ⟨rfl, below_setRow HB.out (by omega) _⟩
  · obtain ⟨y1, y2, y3⟩ := doR_bad (f := f) (s := s) (fun h => hS ⟨h.1, h.2.1⟩)
    rw [y1, y2, y3]
    clear y1 y2 y3
    have HSO : Hid (slideRB f (s 0) = (fun _ => 0) ∧ slideRS f (s 0) = 0 ∧ slideRO f (s 0) = false) := by
      obtain ⟨y1, y2, y3, _⟩ := slide_no (f := f) (d := s 0) hS
      exact ⟨y2, y3, y1⟩
    clear hS
    have c0 := K2.cell (i := 0) (by omega)
    go_enter Try.func45, Try.ntmps45
    go_wp2_with ((with_reducible show wpList _ _ _ (Oper.mk _ (Op.load 26 _) _ _ _ _ :: _) _ _); refine loadB (K1) rfl rfl rfl ?_)
    refine (implSlide_any f (s 0) _).mono ?_
    rw [HSO.out.1, HSO.out.2.1, HSO.out.2.2]
    rintro e w1 ⟨rfl, hb⟩
    have K1 := (K1.below hb K1.lt).alloc (.cells (mk 16 (fun _ => 0)) 26)
    have K2 := (K2.below hb K2.lt).alloc (.cells (mk 16 (fun _ => 0)) 26)
    have K3 := (K3.below hb K3.lt).alloc (.cells (mk 16 (fun _ => 0)) 26)
    have K7 := Blk.new w1 16 (fun _ => 0) 26
    have HB := HB.out.trans (hb.mono HB.out.size)
    have HB : Hid (Below w.heap.size w (w1.alloc (.cells (mk 16 (fun _ => 0)) 26))) := HB.alloc HB.size _
    clear hb c0
    go_wp2_with ((with_reducible show wpList _ _ _ (Oper.mk _ (Op.store 26 _ _) _ _ _ _ :: _) _ _); refine storeB (K3) rfl rfl rfl rfl ?_)
    try simp only [Exit.inBlock, Exit.then]
    exact retcttB (K3.row 16 _) rfl rfl rfl ⟨rfl, below_setRow HB.out (by omega) _⟩
end Go.Proofs.Ytfjpdopljmilpaa
