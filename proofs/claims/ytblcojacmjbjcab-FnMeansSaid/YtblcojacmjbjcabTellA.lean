/-
  Several texts in one:
  What the program tells of a board: the chance to be one, to be over, of a tile, of a score, and the room; and the contract of its meanOfMove.
  The contracts of the chances of chapter 9 and of MeanRoom, in the reference and in the program, for all arguments.
  The contracts of KeepChance, in the reference and in the program, for every board and number.
  The contracts of FirstWell, in the reference and in the program, for every board and number.
-/
import Derived.Test.YtblcojacmjbjcabFracA
import Derived.Test.YtblcojacmjbjcabMeanA
import Derived.Test.YtblcojacmjbjcabImplSlideBoard
import Derived.Test.YtblcojacmjbjcabImplWorst
import Derived.Test.YtblcojacmjbjcabPairs
import Derived.Test.YtblcojacmjbjcabCount
import Derived.Test.YtblcojacmjbjcabSpecMA
namespace Go.Proofs.Ytblcojacmjbjcab
open Go.RowKit Plain
attribute [local go_sem] store_new
set_option linter.unusedVariables false
set_option linter.unusedSimpArgs false
def scK (h : Nat → Int) : Nat → Bool
  | 0 => false
  | k + 1 => scK h k || decide (0 < slideS h k 4)
theorem room_any (h : Nat → Int) (w : World) (hV : Vd h) : Calls Try.prog 193 #[.agg (mk 16 h)] w fun e w' => e = .returned (.agg (mk 2 (fcF (uRoom h, 1)))) ∧ Below w.heap.size w w' := by
  have z2 := zero2
  have z16 := zero16
  have z18 := zero18
  have K1 := Blk.new w 16 (h) 47
  have K3 := Blk.new (w.alloc (.cells (mk 16 (h)) 47)) 2 (fun _ => 0) 155
  have K1 := K1.alloc (.cells (mk 2 (fun _ => 0)) 155)
  have HB := Lib.hid (((Below.refl w.heap.size w).alloc (by simp) (.cells (mk 16 (h)) 47)).alloc (by simp) (.cells (mk 2 (fun _ => 0)) 155))
  simp only [World.size_alloc] at K1 K3 HB
  have hp := pairs_bd h
  have hle := empN_le h 16
  have HU := Lib.hid (uRoom_int h)
  have HC := Lib.hid (implCount_any h)
  have HP := Lib.hid (implPairs_any h)
  have hc0 : cntR h 0 = (empN h 16 : Int) := by rw [cntR_yes hV]; exact cnt_emp9 h 16
  generalize uRoom h = U at *
  generalize pairsR h = P at *
  generalize empN h 16 = E at *
  clear hV
  go_enter Try.func193, Try.ntmps193
  go_wp2_with ((with_reducible show wpList _ _ _ (Oper.mk _ (Op.load 47 _) _ _ _ _ :: _) _ _); refine loadB (K1) rfl rfl rfl ?_)
  refine (HC.out _).mono ?_
  rintro e w1 ⟨rfl, hb⟩
  have K1 := (K1.below hb K1.lt).alloc (.cells (mk 18 (cntR h)) 140)
  have K3 := (K3.below hb K3.lt).alloc (.cells (mk 18 (cntR h)) 140)
  have K4 := Blk.new w1 18 (cntR h) 140
  have HB : Hid (Below w.heap.size w w1) := HB.out.trans (hb.mono HB.out.size)
  have HB : Hid (Below w.heap.size w (w1.alloc (.cells (mk 18 (cntR h)) 140))) := HB.out.alloc HB.out.size _
  clear hb
  go_wp2_with (first | ((with_reducible show wpList _ _ _ (Oper.mk _ (Op.load 47 _) _ _ _ _ :: _) _ _); refine loadB (K1) rfl rfl rfl ?_) | ((with_reducible show wpList _ _ _ (Oper.mk _ (Op.store 140 _ _) _ _ _ _ :: _) _ _); refine storeN (K4) rfl rfl rfl rfl ?_))
  refine (HP.out _).mono ?_
  rintro e w4 ⟨rfl, hb⟩
  have K3 := K3.below hb K3.lt
  have K4 := K4.below hb K4.lt
  have HB : Hid (Below w.heap.size w w4) := HB.out.trans (hb.mono HB.out.size)
  have c4 := K4.cell (i := 0) (by omega)
  rw [hc0] at c4
  clear hb
  go_wp2_with fail
  refine (whole_any _ U _ (by rw [HU.out]; omega)).mono ?_
  rintro e w2 ⟨rfl, hb⟩
  have K3 := K3.below hb K3.lt
  have HB : Hid (Below w.heap.size w w2) := HB.out.trans (hb.mono HB.out.size)
  clear hb
  go_wp2_with ((with_reducible show wpList _ _ _ (Oper.mk _ (Op.store 155 _ _) _ _ _ _ :: _) _ _); refine storeF (K3) rfl rfl rfl rfl ?_)
  try simp only [Exit.inBlock, Exit.then]
  exact retcF (K3.row 2 _) rfl rfl rfl ⟨rfl, below_setRow HB.out (by omega) _⟩
set_option maxHeartbeats 1000000 in
theorem meanOfMove_any (f : Nat → Int) (d : Int) (T : (Nat → Int) → Fc) (M : Nat) (cf : Nat) (pre lb : Array Value) (w : World) (hD : ∀ S, Vd S → Den 1 M T S)
    (eg : ∀ args w, (callFunc cf args).run Try.prog w = .ok (.enter cf args) w)
    (HC : ∀ (h : Nat → Int) (W : World), Vd h → Calls Try.prog cf (pre ++ #[.agg (mk 16 h)] ++ lb) W fun e w' => e = .returned (.agg (mk 2 (fcF (T h)))) ∧ Below W.heap.size W w') :
    Calls Try.prog 175 #[.agg (mk 16 f), .int .i64 d, .func (.func cf) pre lb] w fun e w' => e = .returned (.tuple #[.agg (mk 2 (fcF (mmF T f d))), .bool (decide (MvOk f d))]) ∧ Below w.heap.size w w' := by
  have z2 := zero2
  have z16 := zero16
  have z18 := zero18
  have K1 := Blk.new w 16 (f) 47
  have K3 := Blk.new (w.alloc (.cells (mk 16 (f)) 47)) 2 (fun _ => 0) 155
  have K1 := K1.alloc (.cells (mk 2 (fun _ => 0)) 155)
  have HB := Lib.hid (((Below.refl w.heap.size w).alloc (by simp) (.cells (mk 16 (f)) 47)).alloc (by simp) (.cells (mk 2 (fun _ => 0)) 155))
  simp only [World.size_alloc] at K1 K3 HB
  have iE : ∀ (f g : Nat → Int) (w : World), (Op.equalIn 10000 47 (.agg (mk 16 f)) (.agg (mk 16 g))).run Try.prog w = .ok (sameB f g) w := eqB 9996
  have hfz : mk 2 (fcF (0, 0)) = mk 2 fun _ => 0 := rfl
  have HI := Lib.hid (implSlide_any f d)
  by_cases hS : SlideOk f d
  · obtain ⟨y1, y2, y3, _⟩ := slide_yes hS
    rw [y1, y2, y3] at HI
    clear y1 y2 y3
    by_cases hm : isMv f d.toNat = true
    · have hMv : MvOk f d := ⟨hS, hm⟩
      rw [mm_yes hMv, decide_eq_true hMv]
      have HB2 := Lib.hid (fun W (hb : Below w.heap.size w W) => meanBehind_any (slideB f d.toNat) T 1 M cf pre lb W (slideB_vd hS.1 _) (hD _ (slideB_vd hS.1 _)) (mv_room hS.1 hm) eg (fun p W' hp _ => HC _ W' (plB_vd (slideB_vd hS.1 _) hp)))
      have hq : sameB (slideB f d.toNat) f = false := mv_same hm
      clear hMv hm hS hD HC hfz
      generalize mnF T (slideB f d.toNat) = R at *
      generalize slideB f d.toNat = S at *
      generalize slideS f d.toNat 4 = sc at *
      go_enter Try.func175, Try.ntmps175
      go_wp2_with ((with_reducible show wpList _ _ _ (Oper.mk _ (Op.load 47 _) _ _ _ _ :: _) _ _); refine loadB (K1) rfl rfl rfl ?_)
      refine (HI.out _).mono ?_
      rintro e w1 ⟨rfl, hb⟩
      have K1 := (K1.below hb K1.lt).alloc (.cells (mk 16 (S)) 47)
      have K3 := (K3.below hb K3.lt).alloc (.cells (mk 16 (S)) 47)
      have K4 := Blk.new w1 16 (S) 47
      have HB : Hid (Below w.heap.size w w1) := HB.out.trans (hb.mono HB.out.size)
      have HB : Hid (Below w.heap.size w (w1.alloc (.cells (mk 16 (S)) 47))) := HB.out.alloc HB.out.size _
      clear hb
      go_wp2_with (first | ((with_reducible show wpList _ _ _ (Oper.mk _ (Op.load 47 _) _ _ _ (some _) :: _) _ _); refine loadgB (K1) rfl rfl rfl ?_) | ((with_reducible show wpList _ _ _ (Oper.mk _ (Op.load 47 _) _ _ _ (some _) :: _) _ _); refine loadgB (K4) rfl rfl rfl ?_))
      go_wp2_with (first | ((with_reducible show wpList _ _ _ (Oper.mk _ (Op.load 47 _) _ _ _ _ :: _) _ _); refine loadB (K4) rfl rfl rfl ?_))
      refine (HB2.out _ HB.out).mono ?_
      rintro e w2 ⟨rfl, hb⟩
      have K3 := K3.below hb K3.lt
      have HB : Hid (Below w.heap.size w w2) := HB.out.trans (hb.mono HB.out.size)
      clear hb
      go_wp2_with ((with_reducible show wpList _ _ _ (Oper.mk _ (Op.store 155 _ _) _ _ _ _ :: _) _ _); refine storeF (K3) rfl rfl rfl rfl ?_)
      try simp only [Exit.inBlock, Exit.then]
      exact retctF (K3.row 2 _) rfl rfl rfl ⟨rfl, below_setRow HB.out (by omega) _⟩
    · have hMv : ¬ MvOk f d := fun h => hm h.2
      rw [mm_no hMv, decide_eq_false hMv]
      have hm2 : isMv f d.toNat = false := by simpa using hm
      have hq : sameB (slideB f d.toNat) f = true := by unfold isMv at hm2; simpa using hm2
      rw [hfz]
      clear hMv hm hm2 hS hD HC hfz
      generalize slideB f d.toNat = S at *
      generalize slideS f d.toNat 4 = sc at *
      go_enter Try.func175, Try.ntmps175
      go_wp2_with ((with_reducible show wpList _ _ _ (Oper.mk _ (Op.load 47 _) _ _ _ _ :: _) _ _); refine loadB (K1) rfl rfl rfl ?_)
      refine (HI.out _).mono ?_
      rintro e w1 ⟨rfl, hb⟩
      have K1 := (K1.below hb K1.lt).alloc (.cells (mk 16 (S)) 47)
      have K3 := (K3.below hb K3.lt).alloc (.cells (mk 16 (S)) 47)
      have K4 := Blk.new w1 16 (S) 47
      have HB : Hid (Below w.heap.size w w1) := HB.out.trans (hb.mono HB.out.size)
      have HB : Hid (Below w.heap.size w (w1.alloc (.cells (mk 16 (S)) 47))) := HB.out.alloc HB.out.size _
      clear hb
      go_wp2_with (first | ((with_reducible show wpList _ _ _ (Oper.mk _ (Op.load 47 _) _ _ _ (some _) :: _) _ _); refine loadgB (K1) rfl rfl rfl ?_) | ((with_reducible show wpList _ _ _ (Oper.mk _ (Op.load 47 _) _ _ _ (some _) :: _) _ _); refine loadgB (K4) rfl rfl rfl ?_) | ((with_reducible show wpList _ _ _ (Oper.mk _ (Op.store 155 _ _) _ _ _ _ :: _) _ _); refine storeF (K3) rfl rfl rfl rfl ?_))
      try simp only [Exit.inBlock, Exit.then]
      exact retctF (K3.row 2 _) rfl rfl rfl ⟨rfl, below_setRow HB.out (by omega) _⟩
  · obtain ⟨y1, y2, y3, _⟩ := slide_no hS
    rw [y1, y2, y3] at HI
    have hMv : ¬ MvOk f d := fun h => hS h.1
    rw [mm_no hMv, decide_eq_false hMv, hfz]
    clear y1 y2 y3 hMv hD HC hS hfz
    go_enter Try.func175, Try.ntmps175
    go_wp2_with ((with_reducible show wpList _ _ _ (Oper.mk _ (Op.load 47 _) _ _ _ _ :: _) _ _); refine loadB (K1) rfl rfl rfl ?_)
    refine (HI.out _).mono ?_
    rintro e w1 ⟨rfl, hb⟩
    have K1 := (K1.below hb K1.lt).alloc (.cells (mk 16 (fun _ => 0)) 47)
    have K3 := (K3.below hb K3.lt).alloc (.cells (mk 16 (fun _ => 0)) 47)
    have K4 := Blk.new w1 16 (fun _ => 0) 47
    have HB : Hid (Below w.heap.size w w1) := HB.out.trans (hb.mono HB.out.size)
    have HB : Hid (Below w.heap.size w (w1.alloc (.cells (mk 16 (fun _ => 0)) 47))) := HB.out.alloc HB.out.size _
    clear hb
    go_wp2_with (first | ((with_reducible show wpList _ _ _ (Oper.mk _ (Op.load 47 _) _ _ _ (some _) :: _) _ _); refine loadgB (K1) rfl rfl rfl ?_) | ((with_reducible show wpList _ _ _ (Oper.mk _ (Op.load 47 _) _ _ _ (some _) :: _) _ _); refine loadgB (K4) rfl rfl rfl ?_) | ((with_reducible show wpList _ _ _ (Oper.mk _ (Op.store 155 _ _) _ _ _ _ :: _) _ _); refine storeF (K3) rfl rfl rfl rfl ?_))
    try simp only [Exit.inBlock, Exit.then]
    exact retctF (K3.row 2 _) rfl rfl rfl ⟨rfl, below_setRow HB.out (by omega) _⟩
end Go.Proofs.Ytblcojacmjbjcab
namespace Go.Proofs.Ytblcojacmjbjcab
open Go.RowKit Plain
attribute [local go_sem] store_new
set_option linter.unusedVariables false
set_option linter.unusedSimpArgs false
/-- What ChanceOfNext and ChanceOfTile return. -/
def nxF (f : Nat → Int) (d : Int) (g : Nat → Int) : Fc := if MvOk f d ∧ Vd g then mnF (numT (uNext g)) (slideB f d.toNat) else (0, 0)
def nxO (f : Nat → Int) (d : Int) (g : Nat → Int) : Bool := decide (MvOk f d ∧ Vd g)
def TlOk (f : Nat → Int) (d : Int) (c : Nat → Int) (t : Int) : Prop := MvOk f d ∧ CellIn c ∧ 0 ≤ t ∧ t ≤ 17
instance (f : Nat → Int) (d : Int) (c : Nat → Int) (t : Int) : Decidable (TlOk f d c t) := by unfold TlOk; infer_instance
def tlF (f : Nat → Int) (d : Int) (c : Nat → Int) (t : Int) : Fc := if TlOk f d c t then mnF (numT (uTile c t)) (slideB f d.toNat) else (0, 0)
def tlO (f : Nat → Int) (d : Int) (c : Nat → Int) (t : Int) : Bool := decide (TlOk f d c t)
theorem fc_nil2 : mk 2 (fcF (0, 0)) = mk 2 fun _ => 0 := rfl
theorem lit_move {f : Nat → Int} {d : Int} (h : MvOk f d) : ∃ m : Nat, d = (m : Int) ∧ d.toNat = m ∧ m < 4 ∧ isMv f m = true := by
  obtain ⟨⟨_, h0, h1⟩, hm⟩ := h
  obtain ⟨m, rfl⟩ := Int.eq_ofNat_of_zero_le h0
  have e : ((m : Int)).toNat = m := by omega
  rw [e] at hm
  exact ⟨m, rfl, e, by omega, hm⟩
set_option maxHeartbeats 1000000 in
theorem specMeanRoom_any (f : Nat → Int) (d : Int) (w : World) : Calls Try.prog 81 #[.agg (mk 16 f), .int .i64 d] w fun e w' => e = .returned (.tuple #[.agg (mk 2 (fcF (mmF (numT uRoom) f d))), .bool (decide (MvOk f d))]) ∧ Below w.heap.size w w' := by
  by_cases h : MvOk f d
  · rw [mm_yes h, decide_eq_true h]
    obtain ⟨m, e1, e2, hm4, hm⟩ := lit_move h
    have hV := h.1.1
    rw [e2, e1]
    have HM := Lib.hid (fun w => l9MeanRoom_any f m w hV hm4 hm)
    have HY : Hid (decide (MvOk f (m : Int)) = true) := decide_eq_true (e1 ▸ h)
    clear h hV hm hm4 e1 e2
    generalize mnF (numT uRoom) (slideB f m) = R at *
    have z2 := zero2
    have z16 := zero16
    have K1 := Blk.new w 16 (f) 47
    have KR := Blk.new (w.alloc (.cells (mk 16 (f)) 47)) 2 (fun _ => 0) 42
    have K1 := K1.alloc (.cells (mk 2 (fun _ => 0)) 42)
    have HB := Lib.hid (((Below.refl w.heap.size w).alloc (by simp) (.cells (mk 16 (f)) 47)).alloc (by simp) (.cells (mk 2 (fun _ => 0)) 42))
    simp only [World.size_alloc] at K1 KR HB
    go_enter Try.func81, Try.ntmps81
    go_wp2_with ((with_reducible show wpList _ _ _ (Oper.mk _ (Op.load 47 _) _ _ _ _ :: _) _ _); refine loadB (K1) rfl rfl rfl ?_)
    refine (l9Move_any f (m : Int) _).mono ?_
    rw [HY.out]
    rintro e w1 ⟨rfl, hb⟩
    have K1 := K1.below hb K1.lt
    have KR := KR.below hb KR.lt
    have HB : Hid (Below w.heap.size w w1) := HB.out.trans (hb.mono HB.out.size)
    clear hb
    go_wp2_with ((with_reducible show wpList _ _ _ (Oper.mk _ (Op.load 47 _) _ _ _ _ :: _) _ _); refine loadB (K1) rfl rfl rfl ?_)
    refine (HM.out _).mono ?_
    rintro e w2 ⟨rfl, hb⟩
    have K1 := K1.below hb K1.lt
    have KR := KR.below hb KR.lt
    have HB : Hid (Below w.heap.size w w2) := HB.out.trans (hb.mono HB.out.size)
    clear hb
    go_wp2_with (first | ((with_reducible show wpList _ _ _ (Oper.mk _ (Op.store 42 _ _) _ _ _ _ :: _) _ _); refine storeC (KR) rfl rfl rfl rfl ?_))
    try simp only [Exit.inBlock, Exit.then]
    exact retctC (KR.row 2 _) rfl rfl rfl ⟨rfl, below_setRow HB.out (by omega) _⟩
  · rw [mm_no h, decide_eq_false h, fc_nil2]
    have HN : Hid (decide (MvOk f d) = false) := decide_eq_false h
    clear h
    have z2 := zero2
    have z16 := zero16
    have K1 := Blk.new w 16 (f) 47
    have KR := Blk.new (w.alloc (.cells (mk 16 (f)) 47)) 2 (fun _ => 0) 42
    have K1 := K1.alloc (.cells (mk 2 (fun _ => 0)) 42)
    have HB := Lib.hid (((Below.refl w.heap.size w).alloc (by simp) (.cells (mk 16 (f)) 47)).alloc (by simp) (.cells (mk 2 (fun _ => 0)) 42))
    simp only [World.size_alloc] at K1 KR HB
    go_enter Try.func81, Try.ntmps81
    go_wp2_with ((with_reducible show wpList _ _ _ (Oper.mk _ (Op.load 47 _) _ _ _ _ :: _) _ _); refine loadB (K1) rfl rfl rfl ?_)
    refine (l9Move_any f d _).mono ?_
    rw [HN.out]
    rintro e w1 ⟨rfl, hb⟩
    have K1 := K1.below hb K1.lt
    have KR := KR.below hb KR.lt
    have HB : Hid (Below w.heap.size w w1) := HB.out.trans (hb.mono HB.out.size)
    clear hb
    go_wp2_with (first | ((with_reducible show wpList _ _ _ (Oper.mk _ (Op.store 42 _ _) _ _ _ _ :: _) _ _); refine storeC (KR) rfl rfl rfl rfl ?_))
    try simp only [Exit.inBlock, Exit.then]
    exact retctC (KR.row 2 _) rfl rfl rfl ⟨rfl, below_setRow HB.out (by omega) _⟩
set_option maxHeartbeats 1000000 in
theorem implMeanRoom_any (f : Nat → Int) (d : Int) (w : World) : Calls Try.prog 80 #[.agg (mk 16 f), .int .i64 d] w fun e w' => e = .returned (.tuple #[.agg (mk 2 (fcF (mmF (numT uRoom) f d))), .bool (decide (MvOk f d))]) ∧ Below w.heap.size w w' := by
  have z2 := zero2
  have z16 := zero16
  have K1 := Blk.new w 16 (f) 47
  have KR := Blk.new (w.alloc (.cells (mk 16 (f)) 47)) 2 (fun _ => 0) 42
  have K1 := K1.alloc (.cells (mk 2 (fun _ => 0)) 42)
  have HB := Lib.hid (((Below.refl w.heap.size w).alloc (by simp) (.cells (mk 16 (f)) 47)).alloc (by simp) (.cells (mk 2 (fun _ => 0)) 42))
  simp only [World.size_alloc] at K1 KR HB
  have HM := Lib.hid (fun w => meanOfMove_any f d (numT uRoom) 1000 193 #[] #[] w (fun S _ => den_num (by decide) (by decide) uRoom_le) (Go.Proofs.enters_of Try.func193 (by kernel_rfl) rfl) (fun h W hV => room_any h W hV))
  generalize mmF (numT uRoom) f d = R at *
  generalize decide (MvOk f d) = O at *
  go_enter Try.func80, Try.ntmps80
  go_wp2_with ((with_reducible show wpList _ _ _ (Oper.mk _ (Op.load 47 _) _ _ _ _ :: _) _ _); refine loadB (K1) rfl rfl rfl ?_)
  refine (HM.out _).mono ?_
  rintro e w2 ⟨rfl, hb⟩
  have K1 := K1.below hb K1.lt
  have KR := KR.below hb KR.lt
  have HB : Hid (Below w.heap.size w w2) := HB.out.trans (hb.mono HB.out.size)
  clear hb
  go_wp2_with (first | ((with_reducible show wpList _ _ _ (Oper.mk _ (Op.store 42 _ _) _ _ _ _ :: _) _ _); refine storeC (KR) rfl rfl rfl rfl ?_))
  try simp only [Exit.inBlock, Exit.then]
  exact retctC (KR.row 2 _) rfl rfl rfl ⟨rfl, below_setRow HB.out (by omega) _⟩
end Go.Proofs.Ytblcojacmjbjcab
namespace Go.Proofs.Ytblcojacmjbjcab
open Go.RowKit Plain
attribute [local go_sem] store_new
set_option linter.unusedVariables false
set_option linter.unusedSimpArgs false
def KcOk (f : Nat → Int) (n : Int) : Prop := Vd f ∧ 0 ≤ n ∧ n ≤ 3
instance (f : Nat → Int) (n : Int) : Decidable (KcOk f n) := by unfold KcOk; infer_instance
def kcF (f : Nat → Int) (n : Int) : Fc := if KcOk f n then KpF n.toNat f else (0, 0)
def kcO (f : Nat → Int) (n : Int) : Bool := decide (KcOk f n)
end Go.Proofs.Ytblcojacmjbjcab
namespace Go.Proofs.Ytblcojacmjbjcab
open Go.RowKit Plain
attribute [local go_sem] store_new
set_option linter.unusedVariables false
set_option linter.unusedSimpArgs false
def FwOk (f : Nat → Int) (n : Int) : Prop := Vd f ∧ 1 ≤ n ∧ n ≤ 3
instance (f : Nat → Int) (n : Int) : Decidable (FwOk f n) := by unfold FwOk; infer_instance
def fwB (f : Nat → Int) (n : Int) : Bm := if FwOk f n then bmF f (kbV (n.toNat - 1) f) 4 else bm0
def fwD (f : Nat → Int) (n : Int) : Int := ((fwB f n).d : Int)
def fwK (f : Nat → Int) (n : Int) : Bool := (fwB f n).ok
def sameF7 (f g : Nat → Int) : Bool := (List.range 2).all fun c => f c == g c
theorem eqC7 (d : Nat) (f g : Nat → Int) (w : World) : (Op.equalIn (d + 2) 42 (.agg (mk 2 f)) (.agg (mk 2 g))).run Try.prog w = .ok (sameF7 f g) w := by
  cases hq : Try.prog.info? 3 with
  | none => have := size1; simp [hq] at this
  | some i =>
    rw [run_equalIn_array w (d + 1) (mk 2 f) (mk 2 g) Try.underlying42 hq, cells1]
    exact items_all _ _ _ _ _ _ (fun c => .int .i64 (f c)) (fun c => .int .i64 (g c)) (fun c => f c == g c) _ fun c hc => by
      have hc4 : c < 2 := List.mem_range.1 hc
      exact ⟨part_int Try.underlying3 f hc4 w, part_int Try.underlying3 g hc4 w, run_equalIn_int w d _ _ _ _ _ Try.underlying3⟩
theorem sameF7_fc (p q : Fc) : sameF7 (fcF p) (fcF q) = decide (p = q) := by
  obtain ⟨a, b⟩ := p
  obtain ⟨c, d⟩ := q
  have e : sameF7 (fcF (a, b)) (fcF (c, d)) = (((a : Int) == (c : Int)) && ((b : Int) == (d : Int))) := by
    show (((a : Int) == (c : Int)) && ((((b : Int) == (d : Int))) && true)) = _
    rw [Bool.and_true]
  rw [e, Bool.eq_iff_iff]
  simp
  omega
end Go.Proofs.Ytblcojacmjbjcab
