/-
  The contracts of l11New in the reference, and of SeedTile in the reference and in the program.
-/
import Derived.Test.YtfjpdopljmilpaaSeedTop
import Derived.Test.YtfjpdopljmilpaaSpecSteps
import Derived.Test.YtfjpdopljmilpaaCellA
namespace Go.Proofs.Ytfjpdopljmilpaa
open Go.RowKit Plain
attribute [local go_sem] store_new
set_option linter.unusedVariables false
set_option linter.unusedSimpArgs false
/-- The cell by a seed. -/
def sdC (f : Nat → Int) (s : Int) : Nat → Int := fun i => empF f (sdI f s * 2 + i)
theorem seed_nums {f : Nat → Int} {s : Int} (h : SeedOk s) (h0 : 0 < empN f 16) : IntKind.i64.wrap (s / 16) = s / 16 ∧ Int.tdiv s 16 = s / 16 ∧ Int.tmod (s / 16) (empN f 16 : Int) = (sdI f s : Int) ∧ IntKind.i64.wrap (sdI f s : Int) = (sdI f s : Int) ∧ ((Int.tmod s 16 == 0) = true ↔ s % 16 = 0) := by
  obtain ⟨a, b⟩ := h
  have hle := empN_le f 16
  have h1 : Int.tdiv s 16 = s / 16 := Int.tdiv_eq_ediv_of_nonneg a
  have h3 : sdI f s < empN f 16 := sdI_lt s h0
  refine ⟨IntWalk.i64_in _ (by omega), h1, ?_, IntWalk.i64_in _ (by omega), ?_⟩
  · rw [Int.tmod_eq_emod_of_nonneg (by omega)]
    unfold sdI
    obtain ⟨n, rfl⟩ := Int.eq_ofNat_of_zero_le a
    rw [Int.toNat_natCast]
    exact_mod_cast rfl
  · rw [Int.tmod_eq_emod_of_nonneg a]; simp
set_option maxHeartbeats 2000000 in
set_option maxRecDepth 20000 in
theorem l11New_any (f : Nat → Int) (s : Int) (w : World) (h : SeedOk s) (h0 : 0 < empN f 16) :
    Calls Try.prog 143 #[.agg (mk 16 f), .int .i64 s] w fun e w' => e = .returned (.tuple #[.agg (mk 2 (sdC f s)), .int .i64 (sdT s)]) ∧ Below w.heap.size w w' := by
  have z2 := zero2
  have K1 := (Blk.new w 16 f 26).alloc (.cells (mk 2 fun _ => 0) 37)
  have K2 := Blk.new (w.alloc (.cells (mk 16 f) 26)) 2 (fun _ => 0) 37
  have HB := Lib.hid (((Below.refl w.heap.size w).alloc (Nat.le_refl _) (.cells (mk 16 f) 26)).alloc (by simp) (.cells (mk 2 fun _ => 0) 37))
  simp only [World.size_alloc] at K2
  obtain ⟨q1, q2, q3, q4, q5⟩ := seed_nums (f := f) h h0
  have hlt := sdI_lt (S := f) s h0
  have hle := empN_le f 16
  have hn0 : ¬ ((empN f 16 : Int) = 0) := by omega
  have hk0 : (0 : Int) ≤ (sdI f s : Int) := by omega
  have hk1 : ¬ ((empN f 16 : Int) ≤ (sdI f s : Int)) := by omega
  have HQ := Lib.hid q5
  clear q5
  go_enter Try.func143, Try.ntmps143
  go_wp2_with ((with_reducible show wpList _ _ _ (Oper.mk _ (Op.load 26 _) _ _ _ _ :: _) _ _); refine loadB (K1) rfl rfl rfl ?_)
  refine (l2Empty_any f _).mono ?_
  rintro e w1 ⟨g, cap, rfl, ho, hb⟩
  have CE := cells_at ho
  have K2 := (K2.below hb K2.lt).alloc (.cells (mk 2 fun i => empF f (sdI f s * 2 + i)) 37)
  have K7 := Blk.new w1 2 (fun i => empF f (sdI f s * 2 + i)) 37
  have HB1 := HB.out.trans (hb.mono HB.out.size)
  have HB1 : Hid (Below w.heap.size w (w1.alloc (.cells (mk 2 fun i => empF f (sdI f s * 2 + i)) 37))) := HB1.alloc HB1.size _
  clear hb ho HB
  by_cases ht : s % 16 = 0
  · have e1 : (Int.tmod s 16 == 0) = true := HQ.out.2 ht
    have e2 : Int.tmod s 16 = 0 := by simpa using e1
    have HT : Hid (sdT s = 2) := by show _ = _; unfold sdT; rw [if_pos ht]
    generalize hI : sdI f s = I at *
    go_wp2_with (first | ((with_reducible show wpList _ _ _ (Oper.mk _ (Op.load 37 _) _ _ _ _ :: _) _ _); refine loadAC (CE) (by omega) rfl rfl rfl ?_) | ((with_reducible show wpList _ _ _ (Oper.mk _ (Op.load 37 _) _ _ _ _ :: _) _ _); refine loadC (K7) rfl rfl rfl ?_) | ((with_reducible show wpList _ _ _ (Oper.mk _ (Op.store 37 _ _) _ _ _ _ :: _) _ _); refine storeC (K2) rfl rfl rfl rfl ?_))
    try simp only [Exit.inBlock, Exit.then]
    refine retctC (K2.row 2 _) rfl rfl rfl ⟨?_, below_setRow HB1.out (by omega) _⟩
    rw [HT.out]; unfold sdC; rw [hI]; rfl
  · have e1 : (Int.tmod s 16 == 0) = false := by
      cases q : (Int.tmod s 16 == 0) with
      | false => rfl
      | true => exact absurd (HQ.out.1 q) ht
    have e2 : ¬ (Int.tmod s 16 = 0) := by simpa using e1
    have HT : Hid (sdT s = 1) := by show _ = _; unfold sdT; rw [if_neg ht]
    generalize hI : sdI f s = I at *
    go_wp2_with (first | ((with_reducible show wpList _ _ _ (Oper.mk _ (Op.load 37 _) _ _ _ _ :: _) _ _); refine loadAC (CE) (by omega) rfl rfl rfl ?_) | ((with_reducible show wpList _ _ _ (Oper.mk _ (Op.load 37 _) _ _ _ _ :: _) _ _); refine loadC (K7) rfl rfl rfl ?_) | ((with_reducible show wpList _ _ _ (Oper.mk _ (Op.store 37 _ _) _ _ _ _ :: _) _ _); refine storeC (K2) rfl rfl rfl rfl ?_))
    try simp only [Exit.inBlock, Exit.then]
    refine retctC (K2.row 2 _) rfl rfl rfl ⟨?_, below_setRow HB1.out (by omega) _⟩
    rw [HT.out]; unfold sdC; rw [hI]; rfl
theorem seed_len {f : Nat → Int} (hV : Vd f) : cellN f = empN f 16 := (cell_yes hV).2
set_option maxHeartbeats 2000000 in
set_option maxRecDepth 20000 in
theorem specSeedT_any (f : Nat → Int) (s : Int) (w : World) :
    Calls Try.prog 21 #[.agg (mk 16 f), .int .i64 s] w fun e w' => e = .returned (.tuple #[.agg (mk 2 (stlC f s)), .int .i64 (stlT f s), .bool (stlO f s)]) ∧ Below w.heap.size w w' := by
  have z2 := zero2
  have K1 := (Blk.new w 16 f 26).alloc (.cells (mk 2 fun _ => 0) 37)
  have K2 := Blk.new (w.alloc (.cells (mk 16 f) 26)) 2 (fun _ => 0) 37
  have HB := Lib.hid (((Below.refl w.heap.size w).alloc (Nat.le_refl _) (.cells (mk 16 f) 26)).alloc (by simp) (.cells (mk 2 fun _ => 0) 37))
  simp only [World.size_alloc] at K2
  by_cases hV : Vd f
  · have HV := Lib.hid hV
    by_cases hs : SeedOk s
    · have HS := Lib.hid hs
      by_cases h0 : 0 < empN f 16
      · have HY := Lib.hid (stl_yes (f := f) (s := s) ⟨hV, hs, h0⟩)
        have hn : ¬ ((empN f 16 : Int) = 0) := by omega
        have hn2 : ((empN f 16 : Int) == 0) = false := by simpa using hn
        have H0 := Lib.hid h0
        clear hV hs
        go_enter Try.func21, Try.ntmps21
        go_wp2_with ((with_reducible show wpList _ _ _ (Oper.mk _ (Op.load 26 _) _ _ _ _ :: _) _ _); refine loadB (K1) rfl rfl rfl ?_)
        refine (l2Board_yes _ _ HV.out).mono ?_
        rintro e w1 ⟨rfl, hb⟩
        have K1 := K1.below hb K1.lt
        have K2 := K2.below hb K2.lt
        have HB : Hid (Below w.heap.size w w1) := HB.out.trans (hb.mono HB.out.size)
        clear hb
        go_wp2_with fail
        refine (l11Seed_yes s _ HS.out.1 HS.out.2).mono ?_
        rintro e w' ⟨rfl, rfl⟩
        go_wp2_with ((with_reducible show wpList _ _ _ (Oper.mk _ (Op.load 26 _) _ _ _ (some _) :: _) _ _); refine loadgB (K1) rfl rfl rfl ?_)
        refine (l2Empty_any f _).mono ?_
        rintro e w2 ⟨g, cap, rfl, ho, hb⟩
        have K1 := K1.below hb K1.lt
        have K2 := K2.below hb K2.lt
        have HB : Hid (Below w.heap.size w w2) := HB.out.trans (hb.mono HB.out.size)
        clear hb ho
        go_wp2_with ((with_reducible show wpList _ _ _ (Oper.mk _ (Op.load 26 _) _ _ _ _ :: _) _ _); refine loadB (K1) rfl rfl rfl ?_)
        refine (l11New_any f s _ HS.out H0.out).mono ?_
        rintro e w3 ⟨rfl, hb⟩
        have K2 := (K2.below hb K2.lt).alloc (.cells (mk 2 (sdC f s)) 37)
        have K7 := Blk.new w3 2 (sdC f s) 37
        have HB := HB.out.trans (hb.mono HB.out.size)
        have HB : Hid (Below w.heap.size w (w3.alloc (.cells (mk 2 (sdC f s)) 37))) := HB.alloc HB.size _
        clear hb
        go_wp2_with (first | ((with_reducible show wpList _ _ _ (Oper.mk _ (Op.load 37 _) _ _ _ _ :: _) _ _); refine loadC (K7) rfl rfl rfl ?_) | ((with_reducible show wpList _ _ _ (Oper.mk _ (Op.store 37 _ _) _ _ _ _ :: _) _ _); refine storeC (K2) rfl rfl rfl rfl ?_))
        try simp only [Exit.inBlock, Exit.then]
        refine retcttC (K2.row 2 _) rfl rfl rfl ⟨?_, below_setRow HB.out (by omega) _⟩
        rw [HY.out.1, HY.out.2.1, HY.out.2.2]; rfl
      · have HY := Lib.hid (stl_no (f := f) (s := s) (fun q => h0 q.2.2))
        have hn : ((empN f 16 : Int) = 0) := by omega
        have hn2 : ((empN f 16 : Int) == 0) = true := by simpa using hn
        clear hV hs
        go_enter Try.func21, Try.ntmps21
        go_wp2_with ((with_reducible show wpList _ _ _ (Oper.mk _ (Op.load 26 _) _ _ _ _ :: _) _ _); refine loadB (K1) rfl rfl rfl ?_)
        refine (l2Board_yes _ _ HV.out).mono ?_
        rintro e w1 ⟨rfl, hb⟩
        have K1 := K1.below hb K1.lt
        have K2 := K2.below hb K2.lt
        have HB : Hid (Below w.heap.size w w1) := HB.out.trans (hb.mono HB.out.size)
        clear hb
        go_wp2_with fail
        refine (l11Seed_yes s _ HS.out.1 HS.out.2).mono ?_
        rintro e w' ⟨rfl, rfl⟩
        go_wp2_with ((with_reducible show wpList _ _ _ (Oper.mk _ (Op.load 26 _) _ _ _ (some _) :: _) _ _); refine loadgB (K1) rfl rfl rfl ?_)
        refine (l2Empty_any f _).mono ?_
        rintro e w2 ⟨g, cap, rfl, ho, hb⟩
        have K2 := K2.below hb K2.lt
        have HB : Hid (Below w.heap.size w w2) := HB.out.trans (hb.mono HB.out.size)
        clear hb ho
        go_wp2_with ((with_reducible show wpList _ _ _ (Oper.mk _ (Op.store 37 _ _) _ _ _ _ :: _) _ _); refine storeC (K2) rfl rfl rfl rfl ?_)
        try simp only [Exit.inBlock, Exit.then]
        refine retcttC (K2.row 2 _) rfl rfl rfl ⟨?_, below_setRow HB.out (by omega) _⟩
        rw [HY.out.1, HY.out.2.1, HY.out.2.2]; rfl
    · have HY := Lib.hid (stl_no (f := f) (s := s) (fun q => hs q.2.1))
      have HS := Lib.hid (show s < 0 ∨ 65535 < s by unfold SeedOk at hs; omega)
      clear hV hs
      go_enter Try.func21, Try.ntmps21
      go_wp2_with ((with_reducible show wpList _ _ _ (Oper.mk _ (Op.load 26 _) _ _ _ _ :: _) _ _); refine loadB (K1) rfl rfl rfl ?_)
      refine (l2Board_yes _ _ HV.out).mono ?_
      rintro e w1 ⟨rfl, hb⟩
      have K2 := K2.below hb K2.lt
      have HB : Hid (Below w.heap.size w w1) := HB.out.trans (hb.mono HB.out.size)
      clear hb
      go_wp2_with fail
      refine (l11Seed_no s _ HS.out).mono ?_
      rintro e w' ⟨rfl, rfl⟩
      go_wp2_with ((with_reducible show wpList _ _ _ (Oper.mk _ (Op.store 37 _ _) _ _ _ _ :: _) _ _); refine storeC (K2) rfl rfl rfl rfl ?_)
      try simp only [Exit.inBlock, Exit.then]
      refine retcttC (K2.row 2 _) rfl rfl rfl ⟨?_, below_setRow HB.out (by omega) _⟩
      rw [HY.out.1, HY.out.2.1, HY.out.2.2]; rfl
  · have HY := Lib.hid (stl_no (f := f) (s := s) (fun q => hV q.1))
    have HV := Lib.hid hV
    clear hV
    go_enter Try.func21, Try.ntmps21
    go_wp2_with ((with_reducible show wpList _ _ _ (Oper.mk _ (Op.load 26 _) _ _ _ _ :: _) _ _); refine loadB (K1) rfl rfl rfl ?_)
    refine (l2Board_no _ _ HV.out).mono ?_
    rintro e w1 ⟨rfl, hb⟩
    have K2 := K2.below hb K2.lt
    have HB : Hid (Below w.heap.size w w1) := HB.out.trans (hb.mono HB.out.size)
    clear hb
    go_wp2_with ((with_reducible show wpList _ _ _ (Oper.mk _ (Op.store 37 _ _) _ _ _ _ :: _) _ _); refine storeC (K2) rfl rfl rfl rfl ?_)
    try simp only [Exit.inBlock, Exit.then]
    refine retcttC (K2.row 2 _) rfl rfl rfl ⟨?_, below_setRow HB.out (by omega) _⟩
    rw [HY.out.1, HY.out.2.1, HY.out.2.2]; rfl
set_option maxHeartbeats 2000000 in
set_option maxRecDepth 20000 in
theorem implSeedT_any (f : Nat → Int) (s : Int) (w : World) :
    Calls Try.prog 22 #[.agg (mk 16 f), .int .i64 s] w fun e w' => e = .returned (.tuple #[.agg (mk 2 (stlC f s)), .int .i64 (stlT f s), .bool (stlO f s)]) ∧ Below w.heap.size w w' := by
  have z2 := zero2
  have K1 := (Blk.new w 16 f 26).alloc (.cells (mk 2 fun _ => 0) 37)
  have K2 := Blk.new (w.alloc (.cells (mk 16 f) 26)) 2 (fun _ => 0) 37
  have HB := Lib.hid (((Below.refl w.heap.size w).alloc (Nat.le_refl _) (.cells (mk 16 f) 26)).alloc (by simp) (.cells (mk 2 fun _ => 0) 37))
  simp only [World.size_alloc] at K2
  by_cases hs : SeedOk s
  · have HS := Lib.hid hs
    by_cases h0 : cellN f = 0
    · have HY := Lib.hid (stl_no (f := f) (s := s) (fun q => by have := q.2.2; rw [seed_len q.1] at h0; omega))
      have hn : ((cellN f : Int) = 0) := by omega
      have hn2 : ((cellN f : Int) == 0) = true := by simpa using hn
      clear hs h0
      go_enter Try.func22, Try.ntmps22
      go_wp2_with ((with_reducible show wpList _ _ _ (Oper.mk _ (Op.load 26 _) _ _ _ _ :: _) _ _); refine loadB (K1) rfl rfl rfl ?_)
      refine (implCells_any f _).mono ?_
      rintro e w1 ⟨g, cap, rfl, ho, hb⟩
      have K2 := K2.below hb K2.lt
      have HB : Hid (Below w.heap.size w w1) := HB.out.trans (hb.mono HB.out.size)
      clear hb ho
      go_wp2_with fail
      refine (isSeed_yes s _ HS.out.1 HS.out.2).mono ?_
      rintro e w' ⟨rfl, rfl⟩
      go_wp2_with ((with_reducible show wpList _ _ _ (Oper.mk _ (Op.store 37 _ _) _ _ _ _ :: _) _ _); refine storeC (K2) rfl rfl rfl rfl ?_)
      try simp only [Exit.inBlock, Exit.then]
      refine retcttC (K2.row 2 _) rfl rfl rfl ⟨?_, below_setRow HB.out (by omega) _⟩
      rw [HY.out.1, HY.out.2.1, HY.out.2.2]; rfl
    · have hV : Vd f := by
        by_cases q : Vd f
        · exact q
        · exact absurd (cell_no q).2 h0
      obtain ⟨y1, y2⟩ := cell_yes hV
      rw [y2] at h0
      have h0 : 0 < empN f 16 := by omega
      have HY := Lib.hid (stl_yes (f := f) (s := s) ⟨hV, hs, h0⟩)
      obtain ⟨q1, q2, q3, q4, q5⟩ := seed_nums (f := f) hs h0
      have hlt := sdI_lt (S := f) s h0
      have hle := empN_le f 16
      have hn : ¬ ((empN f 16 : Int) = 0) := by omega
      have hn2 : ((empN f 16 : Int) == 0) = false := by simpa using hn
      have hk0 : (0 : Int) ≤ (sdI f s : Int) := by omega
      have hk1 : ¬ ((empN f 16 : Int) ≤ (sdI f s : Int)) := by omega
      have HQ := Lib.hid q5
      have HC := Lib.hid (implCells_any f)
      rw [y1, y2] at HC
      clear q5 hs
      go_enter Try.func22, Try.ntmps22
      go_wp2_with ((with_reducible show wpList _ _ _ (Oper.mk _ (Op.load 26 _) _ _ _ _ :: _) _ _); refine loadB (K1) rfl rfl rfl ?_)
      refine (HC.out _).mono ?_
      rintro e w1 ⟨g, cap, rfl, ho, hb⟩
      have K2 := K2.below hb K2.lt
      have HB : Hid (Below w.heap.size w w1) := HB.out.trans (hb.mono HB.out.size)
      have CE := cells_at ho
      clear hb ho y1 y2 HC
      go_wp2_with fail
      refine (isSeed_yes s _ HS.out.1 HS.out.2).mono ?_
      rintro e w' ⟨rfl, rfl⟩
      by_cases ht : s % 16 = 0
      · have e1 : (Int.tmod s 16 == 0) = true := HQ.out.2 ht
        have e2 : Int.tmod s 16 = 0 := by simpa using e1
        have HT : Hid (sdT s = 2) := by show _ = _; unfold sdT; rw [if_pos ht]
        generalize hI : sdI f s = I at *
        go_wp2_with (first | ((with_reducible show wpList _ _ _ (Oper.mk _ (Op.load 37 _) _ _ _ _ :: _) _ _); refine loadAC (CE) (by omega) rfl rfl rfl ?_) | ((with_reducible show wpList _ _ _ (Oper.mk _ (Op.store 37 _ _) _ _ _ _ :: _) _ _); refine storeC (K2) rfl rfl rfl rfl ?_))
        try simp only [Exit.inBlock, Exit.then]
        refine retcttC (K2.row 2 _) rfl rfl rfl ⟨?_, below_setRow HB.out (by omega) _⟩
        rw [HY.out.1, HY.out.2.1, HY.out.2.2, HT.out]; rfl
      · have e1 : (Int.tmod s 16 == 0) = false := by
          cases q : (Int.tmod s 16 == 0) with
          | false => rfl
          | true => exact absurd (HQ.out.1 q) ht
        have e2 : ¬ (Int.tmod s 16 = 0) := by simpa using e1
        have HT : Hid (sdT s = 1) := by show _ = _; unfold sdT; rw [if_neg ht]
        generalize hI : sdI f s = I at *
        go_wp2_with (first | ((with_reducible show wpList _ _ _ (Oper.mk _ (Op.load 37 _) _ _ _ _ :: _) _ _); refine loadAC (CE) (by omega) rfl rfl rfl ?_) | ((with_reducible show wpList _ _ _ (Oper.mk _ (Op.store 37 _ _) _ _ _ _ :: _) _ _); refine storeC (K2) rfl rfl rfl rfl ?_))
        try simp only [Exit.inBlock, Exit.then]
        refine retcttC (K2.row 2 _) rfl rfl rfl ⟨?_, below_setRow HB.out (by omega) _⟩
        rw [HY.out.1, HY.out.2.1, HY.out.2.2, HT.out]; rfl
  · have HY := Lib.hid (stl_no (f := f) (s := s) (fun q => hs q.2.1))
    have HS := Lib.hid (show s < 0 ∨ 65535 < s by unfold SeedOk at hs; omega)
    clear hs
    go_enter Try.func22, Try.ntmps22
    go_wp2_with ((with_reducible show wpList _ _ _ (Oper.mk _ (Op.load 26 _) _ _ _ _ :: _) _ _); refine loadB (K1) rfl rfl rfl ?_)
    refine (implCells_any f _).mono ?_
    rintro e w1 ⟨g, cap, rfl, ho, hb⟩
    have K2 := K2.below hb K2.lt
    have HB : Hid (Below w.heap.size w w1) := HB.out.trans (hb.mono HB.out.size)
    clear hb ho
    go_wp2_with fail
    refine (isSeed_no s _ HS.out).mono ?_
    rintro e w' ⟨rfl, rfl⟩
    go_wp2_with ((with_reducible show wpList _ _ _ (Oper.mk _ (Op.store 37 _ _) _ _ _ _ :: _) _ _); refine storeC (K2) rfl rfl rfl rfl ?_)
    try simp only [Exit.inBlock, Exit.then]
    refine retcttC (K2.row 2 _) rfl rfl rfl ⟨?_, below_setRow HB.out (by omega) _⟩
    rw [HY.out.1, HY.out.2.1, HY.out.2.2]; rfl
end Go.Proofs.Ytfjpdopljmilpaa
