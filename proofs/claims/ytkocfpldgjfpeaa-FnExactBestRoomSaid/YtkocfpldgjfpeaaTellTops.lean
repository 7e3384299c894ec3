/-
  The contracts of the chances of chapter 9 and of MeanRoom, in the reference and in the program, for all arguments.
-/
import Derived.Test.YtkocfpldgjfpeaaSpecTells
import Derived.Test.YtkocfpldgjfpeaaTells
namespace Go.Proofs.Ytkocfpldgjfpeaa
open Go.RowKit Plain
attribute [local go_sem] store_new
set_option linter.unusedVariables false
set_option linter.unusedSimpArgs false
/-- What ChanceOfNext and ChanceOfTile return. -/
def nxF (f : Nat → Int) (d : Int) (g : Nat → Int) : Fc := if MvOk f d ∧ Vd g then mnF (numT (uNext g)) (slideB f d.toNat) else (0, 0)
def nxO (f : Nat → Int) (d : Int) (g : Nat → Int) : Bool := decide (MvOk f d ∧ Vd g)
def TlOk (f : Nat → Int) (d : Int) (c : Nat → Int) (t : Int) : Prop := MvOk f d ∧ CellIn c ∧ 0 ≤ t ∧ t ≤ 17
instance (f : Nat → Int) (d : Int) (c : Nat → Int) (t : Int) : Decidable (TlOk f d c t) := by unfold TlOk; infer_instance
def tlF (f : Nat → Int) (d : Int) (c : Nat → Int) (t : Int) : Fc := if TlOk f d c t then mnF (numT (uTile c t)) (slideB f d.toNat) else (0, 0)
def tlO (f : Nat → Int) (d : Int) (c : Nat → Int) (t : Int) : Bool := decide (TlOk f d c t)
theorem run_content (c : Nat → Int) (t : Int) (w : World) : (Instr.build 79 #[(0, .agg (mk 2 c)), (1, .int .i64 t)]).run Try.prog w = .ok (.agg (mk 3 (tri (c 0) (c 1) t))) w := by kernel_rfl
theorem wpl_content {w : World} {ops : Array Oper} {rest : List Oper} {o : Oper} {a : Act} {Q : Exit → Act → World → Prop} (x y : Operand) (hg : o.guard = none) (ho : o.op = .build 79 #[(0, x), (1, y)]) {c : Nat → Int} {t : Int}
    (hx : a.eval x = .agg (mk 2 c)) (hy : a.eval y = .int .i64 t) (h : wpList Try.prog ops Q rest (a.put o.dst (.agg (mk 3 (tri (c 0) (c 1) t)))) w) : wpList Try.prog ops Q (o :: rest) a w := by
  refine wpList_plain hg fun K' hK' => ?_
  unfold Oper.wp
  have hr := run_content c t w
  simp [execOp, ho, hx, hy, hr, Result.andThen]
  exact hK' _ _ h
theorem fc_nil2 : mk 2 (fcF (0, 0)) = mk 2 fun _ => 0 := rfl
theorem lit_move {f : Nat → Int} {d : Int} (h : MvOk f d) : ∃ m : Nat, d = (m : Int) ∧ d.toNat = m ∧ m < 4 ∧ isMv f m = true := by
  obtain ⟨⟨_, h0, h1⟩, hm⟩ := h
  obtain ⟨m, rfl⟩ := Int.eq_ofNat_of_zero_le h0
  have e : ((m : Int)).toNat = m := by omega
  rw [e] at hm
  exact ⟨m, rfl, e, by omega, hm⟩
theorem one_den {u : (Nat → Int) → Nat} (h : ∀ g, u g ≤ 1) (S : Nat → Int) : Den 1 1000 (numT u) S := den_num (by decide) (by decide) (fun g => Nat.le_trans (h g) (by decide))
set_option maxHeartbeats 1000000 in
theorem specChOver_any (f : Nat → Int) (d : Int) (w : World) : Calls Try.prog 17 #[.agg (mk 16 f), .int .i64 d] w fun e w' => e = .returned (.tuple #[.agg (mk 2 (fcF (mmF (numT uOver) f d))), .bool (decide (MvOk f d))]) ∧ Below w.heap.size w w' := by
  by_cases h : MvOk f d
  · rw [mm_yes h, decide_eq_true h]
    obtain ⟨m, e1, e2, hm4, hm⟩ := lit_move h
    have hV := h.1.1
    rw [e2, e1]
    exact scOver_any f m w hV hm4 hm
  · rw [mm_no h, decide_eq_false h, fc_nil2]
    have HN : Hid (decide (MvOk f d) = false) := decide_eq_false h
    clear h
    have z2 := zero2
    have z16 := zero16
    have K1 := Blk.new w 16 (f) 29
    have KR := Blk.new (w.alloc (.cells (mk 16 (f)) 29)) 2 (fun _ => 0) 26
    have K1 := K1.alloc (.cells (mk 2 (fun _ => 0)) 26)
    have HB := Lib.hid (((Below.refl w.heap.size w).alloc (by simp) (.cells (mk 16 (f)) 29)).alloc (by simp) (.cells (mk 2 (fun _ => 0)) 26))
    simp only [World.size_alloc] at K1 KR HB
    go_enter Try.func17, Try.ntmps17
    go_wp2_with ((with_reducible show wpList _ _ _ (Oper.mk _ (Op.load 29 _) _ _ _ _ :: _) _ _); refine loadB (K1) rfl rfl rfl ?_)
    refine (l9Move_any f d _).mono ?_
    rw [HN.out]
    rintro e w1 ⟨rfl, hb⟩
    have K1 := K1.below hb K1.lt
    have KR := KR.below hb KR.lt
    have HB : Hid (Below w.heap.size w w1) := HB.out.trans (hb.mono HB.out.size)
    clear hb
    go_wp2_with (first | ((with_reducible show wpList _ _ _ (Oper.mk _ (Op.store 26 _ _) _ _ _ _ :: _) _ _); refine storeC (KR) rfl rfl rfl rfl ?_))
    try simp only [Exit.inBlock, Exit.then]
    exact retctC (KR.row 2 _) rfl rfl rfl ⟨rfl, below_setRow HB.out (by omega) _⟩
set_option maxHeartbeats 1000000 in
theorem specMergeC_any (f : Nat → Int) (d : Int) (w : World) : Calls Try.prog 34 #[.agg (mk 16 f), .int .i64 d] w fun e w' => e = .returned (.tuple #[.agg (mk 2 (fcF (mmF (numT uMerge) f d))), .bool (decide (MvOk f d))]) ∧ Below w.heap.size w w' := by
  by_cases h : MvOk f d
  · rw [mm_yes h, decide_eq_true h]
    obtain ⟨m, e1, e2, hm4, hm⟩ := lit_move h
    have hV := h.1.1
    rw [e2, e1]
    exact scMerge_any f m w hV hm4 hm
  · rw [mm_no h, decide_eq_false h, fc_nil2]
    have HN : Hid (decide (MvOk f d) = false) := decide_eq_false h
    clear h
    have z2 := zero2
    have z16 := zero16
    have K1 := Blk.new w 16 (f) 29
    have KR := Blk.new (w.alloc (.cells (mk 16 (f)) 29)) 2 (fun _ => 0) 26
    have K1 := K1.alloc (.cells (mk 2 (fun _ => 0)) 26)
    have HB := Lib.hid (((Below.refl w.heap.size w).alloc (by simp) (.cells (mk 16 (f)) 29)).alloc (by simp) (.cells (mk 2 (fun _ => 0)) 26))
    simp only [World.size_alloc] at K1 KR HB
    go_enter Try.func34, Try.ntmps34
    go_wp2_with ((with_reducible show wpList _ _ _ (Oper.mk _ (Op.load 29 _) _ _ _ _ :: _) _ _); refine loadB (K1) rfl rfl rfl ?_)
    refine (l9Move_any f d _).mono ?_
    rw [HN.out]
    rintro e w1 ⟨rfl, hb⟩
    have K1 := K1.below hb K1.lt
    have KR := KR.below hb KR.lt
    have HB : Hid (Below w.heap.size w w1) := HB.out.trans (hb.mono HB.out.size)
    clear hb
    go_wp2_with (first | ((with_reducible show wpList _ _ _ (Oper.mk _ (Op.store 26 _ _) _ _ _ _ :: _) _ _); refine storeC (KR) rfl rfl rfl rfl ?_))
    try simp only [Exit.inBlock, Exit.then]
    exact retctC (KR.row 2 _) rfl rfl rfl ⟨rfl, below_setRow HB.out (by omega) _⟩
set_option maxHeartbeats 1000000 in
theorem specMeanRoom_any (f : Nat → Int) (d : Int) (w : World) : Calls Try.prog 19 #[.agg (mk 16 f), .int .i64 d] w fun e w' => e = .returned (.tuple #[.agg (mk 2 (fcF (mmF (numT uRoom) f d))), .bool (decide (MvOk f d))]) ∧ Below w.heap.size w w' := by
  by_cases h : MvOk f d
  · rw [mm_yes h, decide_eq_true h]
    obtain ⟨m, e1, e2, hm4, hm⟩ := lit_move h
    have hV := h.1.1
    rw [e2, e1]
    have HM := Lib.hid (fun w => l9MeanRoom_any f m w hV hm4 hm)
    have HY : Hid (decide (MvOk f (m : Int)) = true) := decide_eq_true (e1 ▸ h)
    clear h hV hm hm4 e1 e2
    generalize mnF (numT uRoom) (slideB f m) = R at *
    have z2 := zero2
    have z16 := zero16
    have K1 := Blk.new w 16 (f) 29
    have KR := Blk.new (w.alloc (.cells (mk 16 (f)) 29)) 2 (fun _ => 0) 26
    have K1 := K1.alloc (.cells (mk 2 (fun _ => 0)) 26)
    have HB := Lib.hid (((Below.refl w.heap.size w).alloc (by simp) (.cells (mk 16 (f)) 29)).alloc (by simp) (.cells (mk 2 (fun _ => 0)) 26))
    simp only [World.size_alloc] at K1 KR HB
    go_enter Try.func19, Try.ntmps19
    go_wp2_with ((with_reducible show wpList _ _ _ (Oper.mk _ (Op.load 29 _) _ _ _ _ :: _) _ _); refine loadB (K1) rfl rfl rfl ?_)
    refine (l9Move_any f (m : Int) _).mono ?_
    rw [HY.out]
    rintro e w1 ⟨rfl, hb⟩
    have K1 := K1.below hb K1.lt
    have KR := KR.below hb KR.lt
    have HB : Hid (Below w.heap.size w w1) := HB.out.trans (hb.mono HB.out.size)
    clear hb
    go_wp2_with ((with_reducible show wpList _ _ _ (Oper.mk _ (Op.load 29 _) _ _ _ _ :: _) _ _); refine loadB (K1) rfl rfl rfl ?_)
    refine (HM.out _).mono ?_
    rintro e w2 ⟨rfl, hb⟩
    have K1 := K1.below hb K1.lt
    have KR := KR.below hb KR.lt
    have HB : Hid (Below w.heap.size w w2) := HB.out.trans (hb.mono HB.out.size)
    clear hb
    go_wp2_with (first | ((with_reducible show wpList _ _ _ (Oper.mk _ (Op.store 26 _ _) _ _ _ _ :: _) _ _); refine storeC (KR) rfl rfl rfl rfl ?_))
    try simp only [Exit.inBlock, Exit.then]
    exact retctC (KR.row 2 _) rfl rfl rfl ⟨rfl, below_setRow HB.out (by omega) _⟩
  · rw [mm_no h, decide_eq_false h, fc_nil2]
    have HN : Hid (decide (MvOk f d) = false) := decide_eq_false h
    clear h
    have z2 := zero2
    have z16 := zero16
    have K1 := Blk.new w 16 (f) 29
    have KR := Blk.new (w.alloc (.cells (mk 16 (f)) 29)) 2 (fun _ => 0) 26
    have K1 := K1.alloc (.cells (mk 2 (fun _ => 0)) 26)
    have HB := Lib.hid (((Below.refl w.heap.size w).alloc (by simp) (.cells (mk 16 (f)) 29)).alloc (by simp) (.cells (mk 2 (fun _ => 0)) 26))
    simp only [World.size_alloc] at K1 KR HB
    go_enter Try.func19, Try.ntmps19
    go_wp2_with ((with_reducible show wpList _ _ _ (Oper.mk _ (Op.load 29 _) _ _ _ _ :: _) _ _); refine loadB (K1) rfl rfl rfl ?_)
    refine (l9Move_any f d _).mono ?_
    rw [HN.out]
    rintro e w1 ⟨rfl, hb⟩
    have K1 := K1.below hb K1.lt
    have KR := KR.below hb KR.lt
    have HB : Hid (Below w.heap.size w w1) := HB.out.trans (hb.mono HB.out.size)
    clear hb
    go_wp2_with (first | ((with_reducible show wpList _ _ _ (Oper.mk _ (Op.store 26 _ _) _ _ _ _ :: _) _ _); refine storeC (KR) rfl rfl rfl rfl ?_))
    try simp only [Exit.inBlock, Exit.then]
    exact retctC (KR.row 2 _) rfl rfl rfl ⟨rfl, below_setRow HB.out (by omega) _⟩
set_option maxHeartbeats 1000000 in
theorem implChOver_any (f : Nat → Int) (d : Int) (w : World) : Calls Try.prog 18 #[.agg (mk 16 f), .int .i64 d] w fun e w' => e = .returned (.tuple #[.agg (mk 2 (fcF (mmF (numT uOver) f d))), .bool (decide (MvOk f d))]) ∧ Below w.heap.size w w' := by
  have z2 := zero2
  have z16 := zero16
  have K1 := Blk.new w 16 (f) 29
  have KR := Blk.new (w.alloc (.cells (mk 16 (f)) 29)) 2 (fun _ => 0) 26
  have K1 := K1.alloc (.cells (mk 2 (fun _ => 0)) 26)
  have HB := Lib.hid (((Below.refl w.heap.size w).alloc (by simp) (.cells (mk 16 (f)) 29)).alloc (by simp) (.cells (mk 2 (fun _ => 0)) 26))
  simp only [World.size_alloc] at K1 KR HB
  have HM := Lib.hid (fun w => meanOfMove_any f d (numT uOver) 1000 47 #[] #[] w (fun S _ => one_den (fun g => oneN_le _) S) (Go.Proofs.enters_of Try.func47 (by kernel_rfl) rfl) (fun h W hV => toBeOver_any h W hV))
  generalize mmF (numT uOver) f d = R at *
  generalize decide (MvOk f d) = O at *
  go_enter Try.func18, Try.ntmps18
  go_wp2_with ((with_reducible show wpList _ _ _ (Oper.mk _ (Op.load 29 _) _ _ _ _ :: _) _ _); refine loadB (K1) rfl rfl rfl ?_)
  refine (HM.out _).mono ?_
  rintro e w2 ⟨rfl, hb⟩
  have K1 := K1.below hb K1.lt
  have KR := KR.below hb KR.lt
  have HB : Hid (Below w.heap.size w w2) := HB.out.trans (hb.mono HB.out.size)
  clear hb
  go_wp2_with (first | ((with_reducible show wpList _ _ _ (Oper.mk _ (Op.store 26 _ _) _ _ _ _ :: _) _ _); refine storeC (KR) rfl rfl rfl rfl ?_))
  try simp only [Exit.inBlock, Exit.then]
  exact retctC (KR.row 2 _) rfl rfl rfl ⟨rfl, below_setRow HB.out (by omega) _⟩
set_option maxHeartbeats 1000000 in
theorem implMergeC_any (f : Nat → Int) (d : Int) (w : World) : Calls Try.prog 35 #[.agg (mk 16 f), .int .i64 d] w fun e w' => e = .returned (.tuple #[.agg (mk 2 (fcF (mmF (numT uMerge) f d))), .bool (decide (MvOk f d))]) ∧ Below w.heap.size w w' := by
  have z2 := zero2
  have z16 := zero16
  have K1 := Blk.new w 16 (f) 29
  have KR := Blk.new (w.alloc (.cells (mk 16 (f)) 29)) 2 (fun _ => 0) 26
  have K1 := K1.alloc (.cells (mk 2 (fun _ => 0)) 26)
  have HB := Lib.hid (((Below.refl w.heap.size w).alloc (by simp) (.cells (mk 16 (f)) 29)).alloc (by simp) (.cells (mk 2 (fun _ => 0)) 26))
  simp only [World.size_alloc] at K1 KR HB
  have HM := Lib.hid (fun w => meanOfMove_any f d (numT uMerge) 1000 74 #[] #[] w (fun S _ => one_den (fun g => oneN_le _) S) (Go.Proofs.enters_of Try.func74 (by kernel_rfl) rfl) (fun h W hV => toScore_any h W hV))
  generalize mmF (numT uMerge) f d = R at *
  generalize decide (MvOk f d) = O at *
  go_enter Try.func35, Try.ntmps35
  go_wp2_with ((with_reducible show wpList _ _ _ (Oper.mk _ (Op.load 29 _) _ _ _ _ :: _) _ _); refine loadB (K1) rfl rfl rfl ?_)
  refine (HM.out _).mono ?_
  rintro e w2 ⟨rfl, hb⟩
  have K1 := K1.below hb K1.lt
  have KR := KR.below hb KR.lt
  have HB : Hid (Below w.heap.size w w2) := HB.out.trans (hb.mono HB.out.size)
  clear hb
  go_wp2_with (first | ((with_reducible show wpList _ _ _ (Oper.mk _ (Op.store 26 _ _) _ _ _ _ :: _) _ _); refine storeC (KR) rfl rfl rfl rfl ?_))
  try simp only [Exit.inBlock, Exit.then]
  exact retctC (KR.row 2 _) rfl rfl rfl ⟨rfl, below_setRow HB.out (by omega) _⟩
set_option maxHeartbeats 1000000 in
theorem implMeanRoom_any (f : Nat → Int) (d : Int) (w : World) : Calls Try.prog 20 #[.agg (mk 16 f), .int .i64 d] w fun e w' => e = .returned (.tuple #[.agg (mk 2 (fcF (mmF (numT uRoom) f d))), .bool (decide (MvOk f d))]) ∧ Below w.heap.size w w' := by
  have z2 := zero2
  have z16 := zero16
  have K1 := Blk.new w 16 (f) 29
  have KR := Blk.new (w.alloc (.cells (mk 16 (f)) 29)) 2 (fun _ => 0) 26
  have K1 := K1.alloc (.cells (mk 2 (fun _ => 0)) 26)
  have HB := Lib.hid (((Below.refl w.heap.size w).alloc (by simp) (.cells (mk 16 (f)) 29)).alloc (by simp) (.cells (mk 2 (fun _ => 0)) 26))
  simp only [World.size_alloc] at K1 KR HB
  have HM := Lib.hid (fun w => meanOfMove_any f d (numT uRoom) 1000 49 #[] #[] w (fun S _ => den_num (by decide) (by decide) uRoom_le) (Go.Proofs.enters_of Try.func49 (by kernel_rfl) rfl) (fun h W hV => room_any h W hV))
  generalize mmF (numT uRoom) f d = R at *
  generalize decide (MvOk f d) = O at *
  go_enter Try.func20, Try.ntmps20
  go_wp2_with ((with_reducible show wpList _ _ _ (Oper.mk _ (Op.load 29 _) _ _ _ _ :: _) _ _); refine loadB (K1) rfl rfl rfl ?_)
  refine (HM.out _).mono ?_
  rintro e w2 ⟨rfl, hb⟩
  have K1 := K1.below hb K1.lt
  have KR := KR.below hb KR.lt
  have HB : Hid (Below w.heap.size w w2) := HB.out.trans (hb.mono HB.out.size)
  clear hb
  go_wp2_with (first | ((with_reducible show wpList _ _ _ (Oper.mk _ (Op.store 26 _ _) _ _ _ _ :: _) _ _); refine storeC (KR) rfl rfl rfl rfl ?_))
  try simp only [Exit.inBlock, Exit.then]
  exact retctC (KR.row 2 _) rfl rfl rfl ⟨rfl, below_setRow HB.out (by omega) _⟩
set_option maxHeartbeats 1000000 in
theorem specNextCh_any (f : Nat → Int) (d : Int) (g : Nat → Int) (w : World) : Calls Try.prog 13 #[.agg (mk 16 f), .int .i64 d, .agg (mk 16 g)] w fun e w' => e = .returned (.tuple #[.agg (mk 2 (fcF (nxF f d g))), .bool (nxO f d g)]) ∧ Below w.heap.size w w' := by
  by_cases h : MvOk f d ∧ Vd g
  · have e0 : nxF f d g = mnF (numT (uNext g)) (slideB f d.toNat) := if_pos h
    have e9 : nxO f d g = true := decide_eq_true h
    rw [e0, e9]
    obtain ⟨m, e1, e2, hm4, hm⟩ := lit_move h.1
    rw [e2, e1]
    exact scNext_any f m g w h.1.1.1 hm4 hm h.2
  · have e0 : nxF f d g = (0, 0) := if_neg h
    have e9 : nxO f d g = false := decide_eq_false h
    rw [e0, e9, fc_nil2]
    clear e0 e9
    have z2 := zero2
    have z16 := zero16
    have K1 := Blk.new w 16 (f) 29
    have K5 := Blk.new (w.alloc (.cells (mk 16 (f)) 29)) 16 (g) 29
    have K1 := K1.alloc (.cells (mk 16 (g)) 29)
    have KR := Blk.new ((w.alloc (.cells (mk 16 (f)) 29)).alloc (.cells (mk 16 (g)) 29)) 2 (fun _ => 0) 26
    have K1 := K1.alloc (.cells (mk 2 (fun _ => 0)) 26)
    have K5 := K5.alloc (.cells (mk 2 (fun _ => 0)) 26)
    have HB := Lib.hid ((((Below.refl w.heap.size w).alloc (by simp) (.cells (mk 16 (f)) 29)).alloc (by simp) (.cells (mk 16 (g)) 29)).alloc (by simp; omega) (.cells (mk 2 (fun _ => 0)) 26))
    simp only [World.size_alloc] at K1 K5 KR HB
    by_cases hm : MvOk f d
    · have HN : Hid (decide (MvOk f d) = true) := decide_eq_true hm
      have HG := Lib.hid (show ¬ Vd g from fun q => h ⟨hm, q⟩)
      clear h hm
      go_enter Try.func13, Try.ntmps13
      go_wp2_with ((with_reducible show wpList _ _ _ (Oper.mk _ (Op.load 29 _) _ _ _ _ :: _) _ _); refine loadB (K1) rfl rfl rfl ?_)
      refine (l9Move_any f d _).mono ?_
      rw [HN.out]
      rintro e w1 ⟨rfl, hb⟩
      have K1 := K1.below hb K1.lt
      have K5 := K5.below hb K5.lt
      have KR := KR.below hb KR.lt
      have HB : Hid (Below w.heap.size w w1) := HB.out.trans (hb.mono HB.out.size)
      clear hb
      go_wp2_with (first | ((with_reducible show wpList _ _ _ (Oper.mk _ (Op.load 29 _) _ _ _ (some _) :: _) _ _); refine loadgB (K5) rfl rfl rfl ?_))
      refine (l2Board_no _ _ HG.out).mono ?_
      rintro e w2 ⟨rfl, hb⟩
      have K1 := K1.below hb K1.lt
      have K5 := K5.below hb K5.lt
      have KR := KR.below hb KR.lt
      have HB : Hid (Below w.heap.size w w2) := HB.out.trans (hb.mono HB.out.size)
      clear hb
      go_wp2_with (first | ((with_reducible show wpList _ _ _ (Oper.mk _ (Op.store 26 _ _) _ _ _ _ :: _) _ _); refine storeC (KR) rfl rfl rfl rfl ?_) | ((with_reducible show wpList _ _ _ (Oper.mk _ (Op.load 29 _) _ _ _ (some _) :: _) _ _); refine loadgB (K5) rfl rfl rfl ?_))
      try simp only [Exit.inBlock, Exit.then]
      exact retctC (KR.row 2 _) rfl rfl rfl ⟨rfl, below_setRow HB.out (by omega) _⟩
    · have HN : Hid (decide (MvOk f d) = false) := decide_eq_false hm
      clear h hm
      go_enter Try.func13, Try.ntmps13
      go_wp2_with ((with_reducible show wpList _ _ _ (Oper.mk _ (Op.load 29 _) _ _ _ _ :: _) _ _); refine loadB (K1) rfl rfl rfl ?_)
      refine (l9Move_any f d _).mono ?_
      rw [HN.out]
      rintro e w1 ⟨rfl, hb⟩
      have K1 := K1.below hb K1.lt
      have K5 := K5.below hb K5.lt
      have KR := KR.below hb KR.lt
      have HB : Hid (Below w.heap.size w w1) := HB.out.trans (hb.mono HB.out.size)
      clear hb
      go_wp2_with (first | ((with_reducible show wpList _ _ _ (Oper.mk _ (Op.store 26 _ _) _ _ _ _ :: _) _ _); refine storeC (KR) rfl rfl rfl rfl ?_) | ((with_reducible show wpList _ _ _ (Oper.mk _ (Op.load 29 _) _ _ _ (some _) :: _) _ _); refine loadgB (K5) rfl rfl rfl ?_))
      try simp only [Exit.inBlock, Exit.then]
      exact retctC (KR.row 2 _) rfl rfl rfl ⟨rfl, below_setRow HB.out (by omega) _⟩
set_option maxHeartbeats 1000000 in
theorem implNextCh_any (f : Nat → Int) (d : Int) (g : Nat → Int) (w : World) : Calls Try.prog 15 #[.agg (mk 16 f), .int .i64 d, .agg (mk 16 g)] w fun e w' => e = .returned (.tuple #[.agg (mk 2 (fcF (nxF f d g))), .bool (nxO f d g)]) ∧ Below w.heap.size w w' := by
  have z2 := zero2
  have z16 := zero16
  have K1 := Blk.new w 16 (f) 29
  have K5 := Blk.new (w.alloc (.cells (mk 16 (f)) 29)) 16 (g) 29
  have K1 := K1.alloc (.cells (mk 16 (g)) 29)
  have KR := Blk.new ((w.alloc (.cells (mk 16 (f)) 29)).alloc (.cells (mk 16 (g)) 29)) 2 (fun _ => 0) 26
  have K1 := K1.alloc (.cells (mk 2 (fun _ => 0)) 26)
  have K5 := K5.alloc (.cells (mk 2 (fun _ => 0)) 26)
  have HB := Lib.hid ((((Below.refl w.heap.size w).alloc (by simp) (.cells (mk 16 (f)) 29)).alloc (by simp) (.cells (mk 16 (g)) 29)).alloc (by simp; omega) (.cells (mk 2 (fun _ => 0)) 26))
  simp only [World.size_alloc] at K1 K5 KR HB
  by_cases hG : Vd g
  · have HM := Lib.hid (fun w => meanOfMove_any f d (numT (uNext g)) 1000 45 #[.agg (mk 16 g)] #[] w (fun S _ => one_den (fun g => oneN_le _) S) (Go.Proofs.enters_of Try.func45 (by kernel_rfl) rfl) (fun h W hV => toBe_any g h W))
    have e0 : nxF f d g = mmF (numT (uNext g)) f d := by
      unfold nxF mmF
      by_cases hm : MvOk f d
      · rw [if_pos ⟨hm, hG⟩, if_pos hm]
      · rw [if_neg (fun q => hm q.1), if_neg hm]
    have e9 : nxO f d g = decide (MvOk f d) := by unfold nxO; rw [decide_eq_decide]; exact ⟨fun q => q.1, fun q => ⟨q, hG⟩⟩
    rw [e0, e9]
    have HG := Lib.hid hG
    clear e0 e9 hG
    generalize mmF (numT (uNext g)) f d = R at *
    generalize decide (MvOk f d) = O at *
    go_enter Try.func15, Try.ntmps15
    go_wp2_with ((with_reducible show wpList _ _ _ (Oper.mk _ (Op.load 29 _) _ _ _ _ :: _) _ _); refine loadB (K5) rfl rfl rfl ?_)
    refine (implBoard_yes _ _ HG.out).mono ?_
    rintro e w1 ⟨rfl, hb⟩
    have K1 := K1.below hb K1.lt
    have K5 := K5.below hb K5.lt
    have KR := KR.below hb KR.lt
    have HB : Hid (Below w.heap.size w w1) := HB.out.trans (hb.mono HB.out.size)
    clear hb
    go_wp2_with (first | ((with_reducible show wpList _ _ _ (Oper.mk _ (Op.load 29 _) _ _ _ _ :: _) _ _); refine loadB (K1) rfl rfl rfl ?_) | ((with_reducible show wpList _ _ _ (Oper.mk _ (Op.load 29 _) _ _ _ _ :: _) _ _); refine loadB (K5) rfl rfl rfl ?_))
    refine (HM.out _).mono ?_
    rintro e w2 ⟨rfl, hb⟩
    have K1 := K1.below hb K1.lt
    have K5 := K5.below hb K5.lt
    have KR := KR.below hb KR.lt
    have HB : Hid (Below w.heap.size w w2) := HB.out.trans (hb.mono HB.out.size)
    clear hb
    go_wp2_with (first | ((with_reducible show wpList _ _ _ (Oper.mk _ (Op.store 26 _ _) _ _ _ _ :: _) _ _); refine storeC (KR) rfl rfl rfl rfl ?_))
    try simp only [Exit.inBlock, Exit.then]
    exact retctC (KR.row 2 _) rfl rfl rfl ⟨rfl, below_setRow HB.out (by omega) _⟩
  · have e0 : nxF f d g = (0, 0) := if_neg fun q => hG q.2
    have e9 : nxO f d g = false := decide_eq_false fun q => hG q.2
    rw [e0, e9, fc_nil2]
    have HG := Lib.hid hG
    clear e0 e9 hG
    go_enter Try.func15, Try.ntmps15
    go_wp2_with ((with_reducible show wpList _ _ _ (Oper.mk _ (Op.load 29 _) _ _ _ _ :: _) _ _); refine loadB (K5) rfl rfl rfl ?_)
    refine (implBoard_no _ _ HG.out).mono ?_
    rintro e w1 ⟨rfl, hb⟩
    have K1 := K1.below hb K1.lt
    have K5 := K5.below hb K5.lt
    have KR := KR.below hb KR.lt
    have HB : Hid (Below w.heap.size w w1) := HB.out.trans (hb.mono HB.out.size)
    clear hb
    go_wp2_with (first | ((with_reducible show wpList _ _ _ (Oper.mk _ (Op.store 26 _ _) _ _ _ _ :: _) _ _); refine storeC (KR) rfl rfl rfl rfl ?_))
    try simp only [Exit.inBlock, Exit.then]
    exact retctC (KR.row 2 _) rfl rfl rfl ⟨rfl, below_setRow HB.out (by omega) _⟩
set_option maxHeartbeats 2000000 in
theorem specTileCh_any (f : Nat → Int) (d : Int) (c : Nat → Int) (t : Int) (w : World) : Calls Try.prog 31 #[.agg (mk 16 f), .int .i64 d, .agg (mk 2 c), .int .i64 t] w fun e w' => e = .returned (.tuple #[.agg (mk 2 (fcF (tlF f d c t))), .bool (tlO f d c t)]) ∧ Below w.heap.size w w' := by
  by_cases h : TlOk f d c t
  · have e0 : tlF f d c t = mnF (numT (uTile c t)) (slideB f d.toNat) := if_pos h
    have e9 : tlO f d c t = true := decide_eq_true h
    rw [e0, e9]
    obtain ⟨h1, h2, t0, t1⟩ := h
    obtain ⟨m, e1, e2, hm4, hm⟩ := lit_move h1
    rw [e2, e1]
    exact scTile_any f m c t w h1.1.1 hm4 hm h2 t0 t1
  · have e0 : tlF f d c t = (0, 0) := if_neg h
    have e9 : tlO f d c t = false := decide_eq_false h
    rw [e0, e9, fc_nil2]
    clear e0 e9
    have z2 := zero2
    have z16 := zero16
    have K1 := Blk.new w 16 (f) 29
    have K5 := Blk.new (w.alloc (.cells (mk 16 (f)) 29)) 2 (c) 26
    have K1 := K1.alloc (.cells (mk 2 (c)) 26)
    have KR := Blk.new ((w.alloc (.cells (mk 16 (f)) 29)).alloc (.cells (mk 2 (c)) 26)) 2 (fun _ => 0) 26
    have K1 := K1.alloc (.cells (mk 2 (fun _ => 0)) 26)
    have K5 := K5.alloc (.cells (mk 2 (fun _ => 0)) 26)
    have HB := Lib.hid ((((Below.refl w.heap.size w).alloc (by simp) (.cells (mk 16 (f)) 29)).alloc (by simp) (.cells (mk 2 (c)) 26)).alloc (by simp; omega) (.cells (mk 2 (fun _ => 0)) 26))
    simp only [World.size_alloc] at K1 K5 KR HB
    by_cases hm : MvOk f d
    · have HN : Hid (decide (MvOk f d) = true) := decide_eq_true hm
      by_cases hc : CellIn c
      · have HC := Lib.hid hc
        have HT := Lib.hid (show t < 0 ∨ 17 < t by
          rcases (by omega : (t < 0 ∨ 17 < t) ∨ (0 ≤ t ∧ t ≤ 17)) with q | q
          · exact q
          · exact absurd ⟨hm, hc, q⟩ h)
        clear h hm hc
        go_enter Try.func31, Try.ntmps31
        go_wp2_with ((with_reducible show wpList _ _ _ (Oper.mk _ (Op.load 29 _) _ _ _ _ :: _) _ _); refine loadB (K1) rfl rfl rfl ?_)
        refine (l9Move_any f d _).mono ?_
        rw [HN.out]
        rintro e w1 ⟨rfl, hb⟩
        have K1 := K1.below hb K1.lt
        have K5 := K5.below hb K5.lt
        have KR := KR.below hb KR.lt
        have HB : Hid (Below w.heap.size w w1) := HB.out.trans (hb.mono HB.out.size)
        clear hb
        go_wp2_with (first | ((with_reducible show wpList _ _ _ (Oper.mk _ (Op.load 26 _) _ _ _ (some _) :: _) _ _); refine loadgC (K5) rfl rfl rfl ?_))
        refine (l2Cell_yes _ _ HC.out).mono ?_
        rintro e w2 ⟨rfl, hb⟩
        have K1 := K1.below hb K1.lt
        have K5 := K5.below hb K5.lt
        have KR := KR.below hb KR.lt
        have HB : Hid (Below w.heap.size w w2) := HB.out.trans (hb.mono HB.out.size)
        clear hb
        go_wp2_with (first | ((with_reducible show wpList _ _ _ (Oper.mk _ (Op.load 26 _) _ _ _ (some _) :: _) _ _); refine loadgC (K5) rfl rfl rfl ?_))
        refine (l1In_no _ _ _ _ HT.out).mono ?_
        rintro e w3 ⟨rfl, rfl⟩
        go_wp2_with (first | ((with_reducible show wpList _ _ _ (Oper.mk _ (Op.store 26 _ _) _ _ _ _ :: _) _ _); refine storeC (KR) rfl rfl rfl rfl ?_) | ((with_reducible show wpList _ _ _ (Oper.mk _ (Op.load 26 _) _ _ _ (some _) :: _) _ _); refine loadgC (K5) rfl rfl rfl ?_))
        try simp only [Exit.inBlock, Exit.then]
        exact retctC (KR.row 2 _) rfl rfl rfl ⟨rfl, below_setRow HB.out (by omega) _⟩
      · have HC := Lib.hid hc
        clear h hm hc
        go_enter Try.func31, Try.ntmps31
        go_wp2_with ((with_reducible show wpList _ _ _ (Oper.mk _ (Op.load 29 _) _ _ _ _ :: _) _ _); refine loadB (K1) rfl rfl rfl ?_)
        refine (l9Move_any f d _).mono ?_
        rw [HN.out]
        rintro e w1 ⟨rfl, hb⟩
        have K1 := K1.below hb K1.lt
        have K5 := K5.below hb K5.lt
        have KR := KR.below hb KR.lt
        have HB : Hid (Below w.heap.size w w1) := HB.out.trans (hb.mono HB.out.size)
        clear hb
        go_wp2_with (first | ((with_reducible show wpList _ _ _ (Oper.mk _ (Op.load 26 _) _ _ _ (some _) :: _) _ _); refine loadgC (K5) rfl rfl rfl ?_))
        refine (l2Cell_no _ _ HC.out).mono ?_
        rintro e w2 ⟨rfl, hb⟩
        have K1 := K1.below hb K1.lt
        have K5 := K5.below hb K5.lt
        have KR := KR.below hb KR.lt
        have HB : Hid (Below w.heap.size w w2) := HB.out.trans (hb.mono HB.out.size)
        clear hb
        go_wp2_with (first | ((with_reducible show wpList _ _ _ (Oper.mk _ (Op.store 26 _ _) _ _ _ _ :: _) _ _); refine storeC (KR) rfl rfl rfl rfl ?_) | ((with_reducible show wpList _ _ _ (Oper.mk _ (Op.load 26 _) _ _ _ (some _) :: _) _ _); refine loadgC (K5) rfl rfl rfl ?_))
        try simp only [Exit.inBlock, Exit.then]
        exact retctC (KR.row 2 _) rfl rfl rfl ⟨rfl, below_setRow HB.out (by omega) _⟩
    · have HN : Hid (decide (MvOk f d) = false) := decide_eq_false hm
      clear h hm
      go_enter Try.func31, Try.ntmps31
      go_wp2_with ((with_reducible show wpList _ _ _ (Oper.mk _ (Op.load 29 _) _ _ _ _ :: _) _ _); refine loadB (K1) rfl rfl rfl ?_)
      refine (l9Move_any f d _).mono ?_
      rw [HN.out]
      rintro e w1 ⟨rfl, hb⟩
      have K1 := K1.below hb K1.lt
      have K5 := K5.below hb K5.lt
      have KR := KR.below hb KR.lt
      have HB : Hid (Below w.heap.size w w1) := HB.out.trans (hb.mono HB.out.size)
      clear hb
      go_wp2_with (first | ((with_reducible show wpList _ _ _ (Oper.mk _ (Op.store 26 _ _) _ _ _ _ :: _) _ _); refine storeC (KR) rfl rfl rfl rfl ?_) | ((with_reducible show wpList _ _ _ (Oper.mk _ (Op.load 26 _) _ _ _ (some _) :: _) _ _); refine loadgC (K5) rfl rfl rfl ?_))
      try simp only [Exit.inBlock, Exit.then]
      exact retctC (KR.row 2 _) rfl rfl rfl ⟨rfl, below_setRow HB.out (by omega) _⟩
set_option maxHeartbeats 2000000 in
theorem implTileCh_any (f : Nat → Int) (d : Int) (c : Nat → Int) (t : Int) (w : World) : Calls Try.prog 33 #[.agg (mk 16 f), .int .i64 d, .agg (mk 2 c), .int .i64 t] w fun e w' => e = .returned (.tuple #[.agg (mk 2 (fcF (tlF f d c t))), .bool (tlO f d c t)]) ∧ Below w.heap.size w w' := by
  have z2 := zero2
  have z16 := zero16
  have K1 := Blk.new w 16 (f) 29
  have K5 := Blk.new (w.alloc (.cells (mk 16 (f)) 29)) 2 (c) 26
  have K1 := K1.alloc (.cells (mk 2 (c)) 26)
  have KR := Blk.new ((w.alloc (.cells (mk 16 (f)) 29)).alloc (.cells (mk 2 (c)) 26)) 2 (fun _ => 0) 26
  have K1 := K1.alloc (.cells (mk 2 (fun _ => 0)) 26)
  have K5 := K5.alloc (.cells (mk 2 (fun _ => 0)) 26)
  have HB := Lib.hid ((((Below.refl w.heap.size w).alloc (by simp) (.cells (mk 16 (f)) 29)).alloc (by simp) (.cells (mk 2 (c)) 26)).alloc (by simp; omega) (.cells (mk 2 (fun _ => 0)) 26))
  simp only [World.size_alloc] at K1 K5 KR HB
  by_cases hc : CellIn c
  · have HC := Lib.hid hc
    by_cases ht : 0 ≤ t ∧ t ≤ 17
    · have HM := Lib.hid (fun w => meanOfMove_any f d (numT (uTile c t)) 1000 72 #[.agg (mk 3 (tri (c 0) (c 1) t))] #[] w (fun S _ => one_den (fun g => oneN_le _) S) (Go.Proofs.enters_of Try.func72 (by kernel_rfl) rfl) (fun h W hV => chanceIn_any c t h W hc))
      have e0 : tlF f d c t = mmF (numT (uTile c t)) f d := by
        unfold tlF mmF
        by_cases hm : MvOk f d
        · rw [if_pos ⟨hm, hc, ht⟩, if_pos hm]
        · rw [if_neg (fun q => hm q.1), if_neg hm]
      have e9 : tlO f d c t = decide (MvOk f d) := by unfold tlO; rw [decide_eq_decide]; exact ⟨fun q => q.1, fun q => ⟨q, hc, ht⟩⟩
      rw [e0, e9]
      obtain ⟨t0, t1⟩ := ht
      clear e0 e9 hc
      generalize mmF (numT (uTile c t)) f d = R at *
      generalize decide (MvOk f d) = O at *
      by_cases hz : t = 0
      · subst hz
        go_enter Try.func33, Try.ntmps33
        go_wp2_with ((with_reducible show wpList _ _ _ (Oper.mk _ (Op.load 26 _) _ _ _ _ :: _) _ _); refine loadC (K5) rfl rfl rfl ?_)
        refine (isCell_yes _ _ HC.out).mono ?_
        rintro e w1 ⟨rfl, hb⟩
        have K1 := K1.below hb K1.lt
        have K5 := K5.below hb K5.lt
        have KR := KR.below hb KR.lt
        have HB : Hid (Below w.heap.size w w1) := HB.out.trans (hb.mono HB.out.size)
        clear hb
        go_wp2_with (first | ((with_reducible show wpList _ _ _ (Oper.mk _ (Op.load 29 _) _ _ _ _ :: _) _ _); refine loadB (K1) rfl rfl rfl ?_) | ((with_reducible show wpList _ _ _ (Oper.mk _ (Op.load 26 _) _ _ _ _ :: _) _ _); refine loadC (K5) rfl rfl rfl ?_) | ((with_reducible show wpList _ _ _ (Oper.mk _ (Op.build 79 _) _ _ _ _ :: _) _ _); refine wpl_content _ _ rfl rfl rfl rfl ?_))
        refine (HM.out _).mono ?_
        rintro e w3 ⟨rfl, hb⟩
        have K1 := K1.below hb K1.lt
        have K5 := K5.below hb K5.lt
        have KR := KR.below hb KR.lt
        have HB : Hid (Below w.heap.size w w3) := HB.out.trans (hb.mono HB.out.size)
        clear hb
        go_wp2_with (first | ((with_reducible show wpList _ _ _ (Oper.mk _ (Op.store 26 _ _) _ _ _ _ :: _) _ _); refine storeC (KR) rfl rfl rfl rfl ?_))
        try simp only [Exit.inBlock, Exit.then]
        exact retctC (KR.row 2 _) rfl rfl rfl ⟨rfl, below_setRow HB.out (by omega) _⟩
      · have hz0 : (t != 0) = true := by simpa using hz
        have hz1 : 1 ≤ t := by omega
        have hne : (t == 0) = false := by rw [beq_eq_false_iff_ne]; exact hz
        go_enter Try.func33, Try.ntmps33
        go_wp2_with ((with_reducible show wpList _ _ _ (Oper.mk _ (Op.load 26 _) _ _ _ _ :: _) _ _); refine loadC (K5) rfl rfl rfl ?_)
        refine (isCell_yes _ _ HC.out).mono ?_
        rintro e w1 ⟨rfl, hb⟩
        have K1 := K1.below hb K1.lt
        have K5 := K5.below hb K5.lt
        have KR := KR.below hb KR.lt
        have HB : Hid (Below w.heap.size w w1) := HB.out.trans (hb.mono HB.out.size)
        clear hb
        go_wp2_with (first | ((with_reducible show wpList _ _ _ (Oper.mk _ (Op.load 29 _) _ _ _ _ :: _) _ _); refine loadB (K1) rfl rfl rfl ?_) | ((with_reducible show wpList _ _ _ (Oper.mk _ (Op.load 26 _) _ _ _ _ :: _) _ _); refine loadC (K5) rfl rfl rfl ?_))
        refine (isTile_yes _ _ hz1 t1).mono ?_
        rintro e w2 ⟨rfl, rfl⟩
        go_wp2_with (first | ((with_reducible show wpList _ _ _ (Oper.mk _ (Op.load 29 _) _ _ _ _ :: _) _ _); refine loadB (K1) rfl rfl rfl ?_) | ((with_reducible show wpList _ _ _ (Oper.mk _ (Op.load 26 _) _ _ _ _ :: _) _ _); refine loadC (K5) rfl rfl rfl ?_) | ((with_reducible show wpList _ _ _ (Oper.mk _ (Op.build 79 _) _ _ _ _ :: _) _ _); refine wpl_content _ _ rfl rfl rfl rfl ?_))
        refine (HM.out _).mono ?_
        rintro e w3 ⟨rfl, hb⟩
        have K1 := K1.below hb K1.lt
        have K5 := K5.below hb K5.lt
        have KR := KR.below hb KR.lt
        have HB : Hid (Below w.heap.size w w3) := HB.out.trans (hb.mono HB.out.size)
        clear hb
        go_wp2_with (first | ((with_reducible show wpList _ _ _ (Oper.mk _ (Op.store 26 _ _) _ _ _ _ :: _) _ _); refine storeC (KR) rfl rfl rfl rfl ?_))
        try simp only [Exit.inBlock, Exit.then]
        exact retctC (KR.row 2 _) rfl rfl rfl ⟨rfl, below_setRow HB.out (by omega) _⟩
    · have e0 : tlF f d c t = (0, 0) := if_neg fun q => ht q.2.2
      have e9 : tlO f d c t = false := decide_eq_false fun q => ht q.2.2
      rw [e0, e9, fc_nil2]
      have hz : t ≠ 0 := fun e => ht (by omega)
      have hz0 : (t != 0) = true := by simpa using hz
      have hne : (t == 0) = false := by rw [beq_eq_false_iff_ne]; exact hz
      have HT := Lib.hid (show t < 1 ∨ 17 < t by omega)
      clear e0 e9 hc ht
      go_enter Try.func33, Try.ntmps33
      go_wp2_with ((with_reducible show wpList _ _ _ (Oper.mk _ (Op.load 26 _) _ _ _ _ :: _) _ _); refine loadC (K5) rfl rfl rfl ?_)
      refine (isCell_yes _ _ HC.out).mono ?_
      rintro e w1 ⟨rfl, hb⟩
      have K1 := K1.below hb K1.lt
      have K5 := K5.below hb K5.lt
      have KR := KR.below hb KR.lt
      have HB : Hid (Below w.heap.size w w1) := HB.out.trans (hb.mono HB.out.size)
      clear hb
      go_wp2_with (first | ((with_reducible show wpList _ _ _ (Oper.mk _ (Op.load 29 _) _ _ _ _ :: _) _ _); refine loadB (K1) rfl rfl rfl ?_) | ((with_reducible show wpList _ _ _ (Oper.mk _ (Op.load 26 _) _ _ _ _ :: _) _ _); refine loadC (K5) rfl rfl rfl ?_))
      refine (isTile_no _ _ HT.out).mono ?_
      rintro e w2 ⟨rfl, rfl⟩
      go_wp2_with (first | ((with_reducible show wpList _ _ _ (Oper.mk _ (Op.store 26 _ _) _ _ _ _ :: _) _ _); refine storeC (KR) rfl rfl rfl rfl ?_))
      try simp only [Exit.inBlock, Exit.then]
      exact retctC (KR.row 2 _) rfl rfl rfl ⟨rfl, below_setRow HB.out (by omega) _⟩
  · have e0 : tlF f d c t = (0, 0) := if_neg fun q => hc q.2.1
    have e9 : tlO f d c t = false := decide_eq_false fun q => hc q.2.1
    rw [e0, e9, fc_nil2]
    have HC := Lib.hid hc
    clear e0 e9 hc
    go_enter Try.func33, Try.ntmps33
    go_wp2_with ((with_reducible show wpList _ _ _ (Oper.mk _ (Op.load 26 _) _ _ _ _ :: _) _ _); refine loadC (K5) rfl rfl rfl ?_)
    refine (isCell_no _ _ HC.out).mono ?_
    rintro e w1 ⟨rfl, hb⟩
    have K1 := K1.below hb K1.lt
    have K5 := K5.below hb K5.lt
    have KR := KR.below hb KR.lt
    have HB : Hid (Below w.heap.size w w1) := HB.out.trans (hb.mono HB.out.size)
    clear hb
    go_wp2_with (first | ((with_reducible show wpList _ _ _ (Oper.mk _ (Op.store 26 _ _) _ _ _ _ :: _) _ _); refine storeC (KR) rfl rfl rfl rfl ?_))
    try simp only [Exit.inBlock, Exit.then]
    exact retctC (KR.row 2 _) rfl rfl rfl ⟨rfl, below_setRow HB.out (by omega) _⟩
end Go.Proofs.Ytkocfpldgjfpeaa
