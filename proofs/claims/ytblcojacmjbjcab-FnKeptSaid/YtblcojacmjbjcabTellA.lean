/-
  Several texts in one:
  What the program tells of a board: the chance to be one, to be over, of a tile, of a score, and the room; and the contract of its meanOfMove.
  The contracts of the chances of chapter 9 and of MeanRoom, in the reference and in the program, for all arguments.
  The contracts of KeepChance, in the reference and in the program, for every board and number.
  The contracts of FirstWell, in the reference and in the program, for every board and number.
-/
import Derived.Test.YtblcojacmjbjcabFracA
import Derived.Test.YtblcojacmjbjcabMeanA
import Derived.Test.YtblcojacmjbjcabImplSlideBoard
import Derived.Test.YtblcojacmjbjcabImplWorst
import Derived.Test.YtblcojacmjbjcabPairs
import Derived.Test.YtblcojacmjbjcabCount
import Derived.Test.YtblcojacmjbjcabSpecMA
namespace Go.Proofs.Ytblcojacmjbjcab
open Go.RowKit Plain
attribute [local go_sem] store_new
set_option linter.unusedVariables false
set_option linter.unusedSimpArgs false
def scK (h : Nat → Int) : Nat → Bool
  | 0 => false
  | k + 1 => scK h k || decide (0 < slideS h k 4)
theorem chanceIf_one (is : Bool) (w : World) : Calls Try.prog 246 #[.bool is] w fun e w' => e = .returned (.agg (mk 2 (fcF (oneN is, 1)))) ∧ Below w.heap.size w w' := chanceIf_any is w
theorem toBeOver_any (h : Nat → Int) (w : World) (hV : Vd h) : Calls Try.prog 176 #[.agg (mk 16 h)] w fun e w' => e = .returned (.agg (mk 2 (fcF (uOver h, 1)))) ∧ Below w.heap.size w w' := by
  have z2 := zero2
  have z16 := zero16
  have z18 := zero18
  have K1 := Blk.new w 16 (h) 47
  have K3 := Blk.new (w.alloc (.cells (mk 16 (h)) 47)) 2 (fun _ => 0) 155
  have K1 := K1.alloc (.cells (mk 2 (fun _ => 0)) 155)
  have HB := Lib.hid (((Below.refl w.heap.size w).alloc (by simp) (.cells (mk 16 (h)) 47)).alloc (by simp) (.cells (mk 2 (fun _ => 0)) 155))
  simp only [World.size_alloc] at K1 K3 HB
  have HC := Lib.hid (fun w => countMoves_any h w hV)
  show Calls _ _ _ _ fun e w' => e = .returned (.agg (mk 2 (fcF (oneN (noMvB h), 1)))) ∧ _
  have hO : (((movL h 4).length : Int) == 0) = noMvB h := by
    unfold noMvB
    rw [Bool.eq_iff_iff, beq_iff_eq, decide_eq_true_eq]; omega
  have HO := Lib.hid hO
  clear hO hV
  generalize noMvB h = O at *
  generalize ((movL h 4).length : Int) = L at *
  have hO := HO.out
  go_enter Try.func176, Try.ntmps176
  go_wp2_with ((with_reducible show wpList _ _ _ (Oper.mk _ (Op.load 47 _) _ _ _ _ :: _) _ _); refine loadB (K1) rfl rfl rfl ?_)
  refine (HC.out _).mono ?_
  rintro e w1 ⟨rfl, hb⟩
  have K3 := K3.below hb K3.lt
  have HB : Hid (Below w.heap.size w w1) := HB.out.trans (hb.mono HB.out.size)
  clear hb
  go_wp2_with fail
  refine (chanceIf_one _ _).mono ?_
  rintro e w2 ⟨rfl, hb⟩
  have K3 := K3.below hb K3.lt
  have HB : Hid (Below w.heap.size w w2) := HB.out.trans (hb.mono HB.out.size)
  clear hb
  go_wp2_with ((with_reducible show wpList _ _ _ (Oper.mk _ (Op.store 155 _ _) _ _ _ _ :: _) _ _); refine storeF (K3) rfl rfl rfl rfl ?_)
  try simp only [Exit.inBlock, Exit.then]
  exact retcF (K3.row 2 _) rfl rfl rfl ⟨rfl, below_setRow HB.out (by omega) _⟩
set_option maxHeartbeats 1000000 in
theorem meanOfMove_any (f : Nat → Int) (d : Int) (T : (Nat → Int) → Fc) (M : Nat) (cf : Nat) (pre lb : Array Value) (w : World) (hD : ∀ S, Vd S → Den 1 M T S)
    (eg : ∀ args w, (callFunc cf args).run Try.prog w = .ok (.enter cf args) w)
    (HC : ∀ (h : Nat → Int) (W : World), Vd h → Calls Try.prog cf (pre ++ #[.agg (mk 16 h)] ++ lb) W fun e w' => e = .returned (.agg (mk 2 (fcF (T h)))) ∧ Below W.heap.size W w') :
    Calls Try.prog 175 #[.agg (mk 16 f), .int .i64 d, .func (.func cf) pre lb] w fun e w' => e = .returned (.tuple #[.agg (mk 2 (fcF (mmF T f d))), .bool (decide (MvOk f d))]) ∧ Below w.heap.size w w' := by
  have z2 := zero2
  have z16 := zero16
  have z18 := zero18
  have K1 := Blk.new w 16 (f) 47
  have K3 := Blk.new (w.alloc (.cells (mk 16 (f)) 47)) 2 (fun _ => 0) 155
  have K1 := K1.alloc (.cells (mk 2 (fun _ => 0)) 155)
  have HB := Lib.hid (((Below.refl w.heap.size w).alloc (by simp) (.cells (mk 16 (f)) 47)).alloc (by simp) (.cells (mk 2 (fun _ => 0)) 155))
  simp only [World.size_alloc] at K1 K3 HB
  have iE : ∀ (f g : Nat → Int) (w : World), (Op.equalIn 10000 47 (.agg (mk 16 f)) (.agg (mk 16 g))).run Try.prog w = .ok (sameB f g) w := eqB 9996
  have hfz : mk 2 (fcF (0, 0)) = mk 2 fun _ => 0 := rfl
  have HI := Lib.hid (implSlide_any f d)
  by_cases hS : SlideOk f d
  · obtain ⟨y1, y2, y3, _⟩ := slide_yes hS
    rw [y1, y2, y3] at HI
    clear y1 y2 y3
    by_cases hm : isMv f d.toNat = true
    · have hMv : MvOk f d := ⟨hS, hm⟩
      rw [mm_yes hMv, decide_eq_true hMv]
      have HB2 := Lib.hid (fun W (hb : Below w.heap.size w W) => meanBehind_any (slideB f d.toNat) T 1 M cf pre lb W (slideB_vd hS.1 _) (hD _ (slideB_vd hS.1 _)) (mv_room hS.1 hm) eg (fun p W' hp _ => HC _ W' (plB_vd (slideB_vd hS.1 _) hp)))
      have hq : sameB (slideB f d.toNat) f = false := mv_same hm
      clear hMv hm hS hD HC hfz
      generalize mnF T (slideB f d.toNat) = R at *
      generalize slideB f d.toNat = S at *
      generalize slideS f d.toNat 4 = sc at *
      go_enter Try.func175, Try.ntmps175
      go_wp2_with ((with_reducible show wpList _ _ _ (Oper.mk _ (Op.load 47 _) _ _ _ _ :: _) _ _); refine loadB (K1) rfl rfl rfl ?_)
      refine (HI.out _).mono ?_
      rintro e w1 ⟨rfl, hb⟩
      have K1 := (K1.below hb K1.lt).alloc (.cells (mk 16 (S)) 47)
      have K3 := (K3.below hb K3.lt).alloc (.cells (mk 16 (S)) 47)
      have K4 := Blk.new w1 16 (S) 47
      have HB : Hid (Below w.heap.size w w1) := HB.out.trans (hb.mono HB.out.size)
      have HB : Hid (Below w.heap.size w (w1.alloc (.cells (mk 16 (S)) 47))) := HB.out.alloc HB.out.size _
      clear hb
      go_wp2_with (first | ((with_reducible show wpList _ _ _ (Oper.mk _ (Op.load 47 _) _ _ _ (some _) :: _) _ _); refine loadgB (K1) rfl rfl rfl ?_) | ((with_reducible show wpList _ _ _ (Oper.mk _ (Op.load 47 _) _ _ _ (some _) :: _) _ _); refine loadgB (K4) rfl rfl rfl ?_))
      go_wp2_with (first | ((with_reducible show wpList _ _ _ (Oper.mk _ (Op.load 47 _) _ _ _ _ :: _) _ _); refine loadB (K4) rfl rfl rfl ?_))
      refine (HB2.out _ HB.out).mono ?_
      rintro e w2 ⟨rfl, hb⟩
      have K3 := K3.below hb K3.lt
      have HB : Hid (Below w.heap.size w w2) := HB.out.trans (hb.mono HB.out.size)
      clear hb
      go_wp2_with ((with_reducible show wpList _ _ _ (Oper.mk _ (Op.store 155 _ _) _ _ _ _ :: _) _ _); refine storeF (K3) rfl rfl rfl rfl ?_)
      try simp only [Exit.inBlock, Exit.then]
      exact retctF (K3.row 2 _) rfl rfl rfl ⟨rfl, below_setRow HB.out (by omega) _⟩
    · have hMv : ¬ MvOk f d := fun h => hm h.2
      rw [mm_no hMv, decide_eq_false hMv]
      have hm2 : isMv f d.toNat = false := by simpa using hm
      have hq : sameB (slideB f d.toNat) f = true := by unfold isMv at hm2; simpa using hm2
      rw [hfz]
      clear hMv hm hm2 hS hD HC hfz
      generalize slideB f d.toNat = S at *
      generalize slideS f d.toNat 4 = sc at *
      go_enter Try.func175, Try.ntmps175
      go_wp2_with ((with_reducible show wpList _ _ _ (Oper.mk _ (Op.load 47 _) _ _ _ _ :: _) _ _); refine loadB (K1) rfl rfl rfl ?_)
      refine (HI.out _).mono ?_
      rintro e w1 ⟨rfl, hb⟩
      have K1 := (K1.below hb K1.lt).alloc (.cells (mk 16 (S)) 47)
      have K3 := (K3.below hb K3.lt).alloc (.cells (mk 16 (S)) 47)
      have K4 := Blk.new w1 16 (S) 47
      have HB : Hid (Below w.heap.size w w1) := HB.out.trans (hb.mono HB.out.size)
      have HB : Hid (Below w.heap.size w (w1.alloc (.cells (mk 16 (S)) 47))) := HB.out.alloc HB.out.size _
      clear hb
      go_wp2_with (first | ((with_reducible show wpList _ _ _ (Oper.mk _ (Op.load 47 _) _ _ _ (some _) :: _) _ _); refine loadgB (K1) rfl rfl rfl ?_) | ((with_reducible show wpList _ _ _ (Oper.mk _ (Op.load 47 _) _ _ _ (some _) :: _) _ _); refine loadgB (K4) rfl rfl rfl ?_) | ((with_reducible show wpList _ _ _ (Oper.mk _ (Op.store 155 _ _) _ _ _ _ :: _) _ _); refine storeF (K3) rfl rfl rfl rfl ?_))
      try simp only [Exit.inBlock, Exit.then]
      exact retctF (K3.row 2 _) rfl rfl rfl ⟨rfl, below_setRow HB.out (by omega) _⟩
  · obtain ⟨y1, y2, y3, _⟩ := slide_no hS
    rw [y1, y2, y3] at HI
    have hMv : ¬ MvOk f d := fun h => hS h.1
    rw [mm_no hMv, decide_eq_false hMv, hfz]
    clear y1 y2 y3 hMv hD HC hS hfz
    go_enter Try.func175, Try.ntmps175
    go_wp2_with ((with_reducible show wpList _ _ _ (Oper.mk _ (Op.load 47 _) _ _ _ _ :: _) _ _); refine loadB (K1) rfl rfl rfl ?_)
    refine (HI.out _).mono ?_
    rintro e w1 ⟨rfl, hb⟩
    have K1 := (K1.below hb K1.lt).alloc (.cells (mk 16 (fun _ => 0)) 47)
    have K3 := (K3.below hb K3.lt).alloc (.cells (mk 16 (fun _ => 0)) 47)
    have K4 := Blk.new w1 16 (fun _ => 0) 47
    have HB : Hid (Below w.heap.size w w1) := HB.out.trans (hb.mono HB.out.size)
    have HB : Hid (Below w.heap.size w (w1.alloc (.cells (mk 16 (fun _ => 0)) 47))) := HB.out.alloc HB.out.size _
    clear hb
    go_wp2_with (first | ((with_reducible show wpList _ _ _ (Oper.mk _ (Op.load 47 _) _ _ _ (some _) :: _) _ _); refine loadgB (K1) rfl rfl rfl ?_) | ((with_reducible show wpList _ _ _ (Oper.mk _ (Op.load 47 _) _ _ _ (some _) :: _) _ _); refine loadgB (K4) rfl rfl rfl ?_) | ((with_reducible show wpList _ _ _ (Oper.mk _ (Op.store 155 _ _) _ _ _ _ :: _) _ _); refine storeF (K3) rfl rfl rfl rfl ?_))
    try simp only [Exit.inBlock, Exit.then]
    exact retctF (K3.row 2 _) rfl rfl rfl ⟨rfl, below_setRow HB.out (by omega) _⟩
end Go.Proofs.Ytblcojacmjbjcab
namespace Go.Proofs.Ytblcojacmjbjcab
open Go.RowKit Plain
attribute [local go_sem] store_new
set_option linter.unusedVariables false
set_option linter.unusedSimpArgs false
/-- What ChanceOfNext and ChanceOfTile return. -/
def nxF (f : Nat → Int) (d : Int) (g : Nat → Int) : Fc := if MvOk f d ∧ Vd g then mnF (numT (uNext g)) (slideB f d.toNat) else (0, 0)
def nxO (f : Nat → Int) (d : Int) (g : Nat → Int) : Bool := decide (MvOk f d ∧ Vd g)
def TlOk (f : Nat → Int) (d : Int) (c : Nat → Int) (t : Int) : Prop := MvOk f d ∧ CellIn c ∧ 0 ≤ t ∧ t ≤ 17
instance (f : Nat → Int) (d : Int) (c : Nat → Int) (t : Int) : Decidable (TlOk f d c t) := by unfold TlOk; infer_instance
def tlF (f : Nat → Int) (d : Int) (c : Nat → Int) (t : Int) : Fc := if TlOk f d c t then mnF (numT (uTile c t)) (slideB f d.toNat) else (0, 0)
def tlO (f : Nat → Int) (d : Int) (c : Nat → Int) (t : Int) : Bool := decide (TlOk f d c t)
theorem one_den {u : (Nat → Int) → Nat} (h : ∀ g, u g ≤ 1) (S : Nat → Int) : Den 1 1000 (numT u) S := den_num (by decide) (by decide) (fun g => Nat.le_trans (h g) (by decide))
set_option maxHeartbeats 1000000 in
theorem implChOver_any (f : Nat → Int) (d : Int) (w : World) : Calls Try.prog 66 #[.agg (mk 16 f), .int .i64 d] w fun e w' => e = .returned (.tuple #[.agg (mk 2 (fcF (mmF (numT uOver) f d))), .bool (decide (MvOk f d))]) ∧ Below w.heap.size w w' := by
  have z2 := zero2
  have z16 := zero16
  have K1 := Blk.new w 16 (f) 47
  have KR := Blk.new (w.alloc (.cells (mk 16 (f)) 47)) 2 (fun _ => 0) 42
  have K1 := K1.alloc (.cells (mk 2 (fun _ => 0)) 42)
  have HB := Lib.hid (((Below.refl w.heap.size w).alloc (by simp) (.cells (mk 16 (f)) 47)).alloc (by simp) (.cells (mk 2 (fun _ => 0)) 42))
  simp only [World.size_alloc] at K1 KR HB
  have HM := Lib.hid (fun w => meanOfMove_any f d (numT uOver) 1000 176 #[] #[] w (fun S _ => one_den (fun g => oneN_le _) S) (Go.Proofs.enters_of Try.func176 (by kernel_rfl) rfl) (fun h W hV => toBeOver_any h W hV))
  generalize mmF (numT uOver) f d = R at *
  generalize decide (MvOk f d) = O at *
  go_enter Try.func66, Try.ntmps66
  go_wp2_with ((with_reducible show wpList _ _ _ (Oper.mk _ (Op.load 47 _) _ _ _ _ :: _) _ _); refine loadB (K1) rfl rfl rfl ?_)
  refine (HM.out _).mono ?_
  rintro e w2 ⟨rfl, hb⟩
  have K1 := K1.below hb K1.lt
  have KR := KR.below hb KR.lt
  have HB : Hid (Below w.heap.size w w2) := HB.out.trans (hb.mono HB.out.size)
  clear hb
  go_wp2_with (first | ((with_reducible show wpList _ _ _ (Oper.mk _ (Op.store 42 _ _) _ _ _ _ :: _) _ _); refine storeC (KR) rfl rfl rfl rfl ?_))
  try simp only [Exit.inBlock, Exit.then]
  exact retctC (KR.row 2 _) rfl rfl rfl ⟨rfl, below_setRow HB.out (by omega) _⟩
end Go.Proofs.Ytblcojacmjbjcab
namespace Go.Proofs.Ytblcojacmjbjcab
open Go.RowKit Plain
attribute [local go_sem] store_new
set_option linter.unusedVariables false
set_option linter.unusedSimpArgs false
def KcOk (f : Nat → Int) (n : Int) : Prop := Vd f ∧ 0 ≤ n ∧ n ≤ 3
instance (f : Nat → Int) (n : Int) : Decidable (KcOk f n) := by unfold KcOk; infer_instance
def kcF (f : Nat → Int) (n : Int) : Fc := if KcOk f n then KpF n.toNat f else (0, 0)
def kcO (f : Nat → Int) (n : Int) : Bool := decide (KcOk f n)
set_option maxHeartbeats 1000000 in
theorem specKeepC_any (f : Nat → Int) (n : Int) (w : World) :
    Calls Try.prog 93 #[.agg (mk 16 f), .int .i64 n] w fun e w' => e = .returned (.tuple #[.agg (mk 2 (fcF (kcF f n))), .bool (kcO f n)]) ∧ Below w.heap.size w w' := by
  have z2 := zero2
  have K1 := (Blk.new w 16 f 47).alloc (.cells (mk 2 fun _ => 0) 42)
  have KR := Blk.new (w.alloc (.cells (mk 16 f) 47)) 2 (fun _ => 0) 42
  have HB := Lib.hid (((Below.refl w.heap.size w).alloc (Nat.le_refl _) (.cells (mk 16 f) 47)).alloc (by simp) (.cells (mk 2 fun _ => 0) 42))
  simp only [World.size_alloc] at KR
  by_cases hV : Vd f
  · have HV := Lib.hid hV
    by_cases hn : 0 ≤ n ∧ n ≤ 3
    · obtain ⟨h0, h1⟩ := hn
      have e0 : kcF f n = _ := if_pos ⟨hV, h0, h1⟩
      have e9 : kcO f n = true := decide_eq_true ⟨hV, h0, h1⟩
      rw [e0, e9]
      clear e0 e9
      obtain ⟨m, rfl⟩ := Int.eq_ofNat_of_zero_le h0
      have hm : m ≤ 3 := by omega
      have HC := Lib.hid (fun W => sk_all m hm f W HV.out)
      show Calls _ _ _ _ fun e w' => e = .returned (.tuple #[.agg (mk 2 (fcF (KpF m f))), .bool true]) ∧ _
      generalize KpF m f = R at *
      generalize hM : ((m : Nat) : Int) = N at *
      clear hM hV
      go_enter Try.func93, Try.ntmps93
      go_wp2_with ((with_reducible show wpList _ _ _ (Oper.mk _ (Op.load 47 _) _ _ _ _ :: _) _ _); refine loadB (K1) rfl rfl rfl ?_)
      refine (l2Board_yes _ _ HV.out).mono ?_
      rintro _ w1 ⟨rfl, hb⟩
      have K1 := K1.below hb K1.lt
      have KR := KR.below hb KR.lt
      have HB : Hid (Below w.heap.size w w1) := HB.out.trans (hb.mono HB.out.size)
      clear hb
      go_wp2_with fail
      refine (l1In_yes _ 0 3 _ h0 h1).mono ?_
      rintro _ w2 ⟨rfl, rfl⟩
      go_wp2_with ((with_reducible show wpList _ _ _ (Oper.mk _ (Op.load 47 _) _ _ _ _ :: _) _ _); refine loadB (K1) rfl rfl rfl ?_)
      refine (HC.out _).mono ?_
      rintro _ w3 ⟨rfl, hb⟩
      have K1 := K1.below hb K1.lt
      have KR := KR.below hb KR.lt
      have HB : Hid (Below w.heap.size w w3) := HB.out.trans (hb.mono HB.out.size)
      clear hb
      go_wp2_with ((with_reducible show wpList _ _ _ (Oper.mk _ (Op.store 42 _ _) _ _ _ _ :: _) _ _); refine storeC (KR) rfl rfl rfl rfl ?_)
      try simp only [Exit.inBlock, Exit.then]
      exact retctC (KR.row 2 _) rfl rfl rfl ⟨rfl, below_setRow HB.out (by omega) _⟩
    · have hno : ¬ KcOk f n := fun h => hn h.2
      have e0 : kcF f n = (0, 0) := if_neg hno
      have e9 : kcO f n = false := decide_eq_false hno
      rw [e0, e9, show mk 2 (fcF (0, 0)) = mk 2 fun _ => 0 from rfl]
      clear e0 e9
      have HN := Lib.hid (show n < 0 ∨ 3 < n by omega)
      clear hno hn hV
      go_enter Try.func93, Try.ntmps93
      go_wp2_with ((with_reducible show wpList _ _ _ (Oper.mk _ (Op.load 47 _) _ _ _ _ :: _) _ _); refine loadB (K1) rfl rfl rfl ?_)
      refine (l2Board_yes _ _ HV.out).mono ?_
      rintro _ w1 ⟨rfl, hb⟩
      have K1 := K1.below hb K1.lt
      have KR := KR.below hb KR.lt
      have HB : Hid (Below w.heap.size w w1) := HB.out.trans (hb.mono HB.out.size)
      clear hb
      go_wp2_with fail
      refine (l1In_no _ 0 3 _ HN.out).mono ?_
      rintro _ w2 ⟨rfl, rfl⟩
      go_wp2_with ((with_reducible show wpList _ _ _ (Oper.mk _ (Op.store 42 _ _) _ _ _ _ :: _) _ _); refine storeC (KR) rfl rfl rfl rfl ?_)
      try simp only [Exit.inBlock, Exit.then]
      exact retctC (KR.row 2 _) rfl rfl rfl ⟨rfl, below_setRow HB.out (by omega) _⟩
  · have hno : ¬ KcOk f n := fun h => hV h.1
    have e0 : kcF f n = (0, 0) := if_neg hno
    have e9 : kcO f n = false := decide_eq_false hno
    rw [e0, e9, show mk 2 (fcF (0, 0)) = mk 2 fun _ => 0 from rfl]
    clear e0 e9
    have HV := Lib.hid hV
    clear hno hV
    go_enter Try.func93, Try.ntmps93
    go_wp2_with ((with_reducible show wpList _ _ _ (Oper.mk _ (Op.load 47 _) _ _ _ _ :: _) _ _); refine loadB (K1) rfl rfl rfl ?_)
    refine (l2Board_no _ _ HV.out).mono ?_
    rintro _ w1 ⟨rfl, hb⟩
    have K1 := K1.below hb K1.lt
    have KR := KR.below hb KR.lt
    have HB : Hid (Below w.heap.size w w1) := HB.out.trans (hb.mono HB.out.size)
    clear hb
    go_wp2_with ((with_reducible show wpList _ _ _ (Oper.mk _ (Op.store 42 _ _) _ _ _ _ :: _) _ _); refine storeC (KR) rfl rfl rfl rfl ?_)
    try simp only [Exit.inBlock, Exit.then]
    exact retctC (KR.row 2 _) rfl rfl rfl ⟨rfl, below_setRow HB.out (by omega) _⟩
set_option maxHeartbeats 1000000 in
theorem implKeepC_any (f : Nat → Int) (n : Int) (w : World) :
    Calls Try.prog 92 #[.agg (mk 16 f), .int .i64 n] w fun e w' => e = .returned (.tuple #[.agg (mk 2 (fcF (kcF f n))), .bool (kcO f n)]) ∧ Below w.heap.size w w' := by
  have z2 := zero2
  have K1 := (Blk.new w 16 f 47).alloc (.cells (mk 2 fun _ => 0) 42)
  have KR := Blk.new (w.alloc (.cells (mk 16 f) 47)) 2 (fun _ => 0) 42
  have HB := Lib.hid (((Below.refl w.heap.size w).alloc (Nat.le_refl _) (.cells (mk 16 f) 47)).alloc (by simp) (.cells (mk 2 fun _ => 0) 42))
  simp only [World.size_alloc] at KR
  by_cases hV : Vd f
  · have HV := Lib.hid hV
    by_cases hn : 0 ≤ n ∧ n ≤ 3
    · obtain ⟨h0, h1⟩ := hn
      have e0 : kcF f n = _ := if_pos ⟨hV, h0, h1⟩
      have e9 : kcO f n = true := decide_eq_true ⟨hV, h0, h1⟩
      rw [e0, e9]
      clear e0 e9
      obtain ⟨m, rfl⟩ := Int.eq_ofNat_of_zero_le h0
      have hm : m ≤ 3 := by omega
      have HC := Lib.hid (fun W => kp_all m hm f W HV.out)
      show Calls _ _ _ _ fun e w' => e = .returned (.tuple #[.agg (mk 2 (fcF (KpF m f))), .bool true]) ∧ _
      generalize KpF m f = R at *
      generalize hM : ((m : Nat) : Int) = N at *
      clear hM hV
      have h1g : ¬ N > 3 := by omega
      have h0g : ¬ N < 0 := by omega
      go_enter Try.func92, Try.ntmps92
      go_wp2_with ((with_reducible show wpList _ _ _ (Oper.mk _ (Op.load 47 _) _ _ _ _ :: _) _ _); refine loadB (K1) rfl rfl rfl ?_)
      refine (implBoard_yes _ _ HV.out).mono ?_
      rintro _ w1 ⟨rfl, hb⟩
      have K1 := K1.below hb K1.lt
      have KR := KR.below hb KR.lt
      have HB : Hid (Below w.heap.size w w1) := HB.out.trans (hb.mono HB.out.size)
      clear hb
      go_wp2_with ((with_reducible show wpList _ _ _ (Oper.mk _ (Op.load 47 _) _ _ _ _ :: _) _ _); refine loadB (K1) rfl rfl rfl ?_)
      refine (HC.out _).mono ?_
      rintro _ w3 ⟨rfl, hb⟩
      have K1 := K1.below hb K1.lt
      have KR := KR.below hb KR.lt
      have HB : Hid (Below w.heap.size w w3) := HB.out.trans (hb.mono HB.out.size)
      clear hb
      go_wp2_with ((with_reducible show wpList _ _ _ (Oper.mk _ (Op.store 42 _ _) _ _ _ _ :: _) _ _); refine storeC (KR) rfl rfl rfl rfl ?_)
      try simp only [Exit.inBlock, Exit.then]
      exact retctC (KR.row 2 _) rfl rfl rfl ⟨rfl, below_setRow HB.out (by omega) _⟩
    · have hno : ¬ KcOk f n := fun h => hn h.2
      have e0 : kcF f n = (0, 0) := if_neg hno
      have e9 : kcO f n = false := decide_eq_false hno
      rw [e0, e9, show mk 2 (fcF (0, 0)) = mk 2 fun _ => 0 from rfl]
      clear e0 e9
      have HN := Lib.hid (show n < 0 ∨ 3 < n by omega)
      clear hno hn hV
      have hN := HN.out
      by_cases hl : n < 0
      · clear hN
        go_enter Try.func92, Try.ntmps92
        go_wp2_with ((with_reducible show wpList _ _ _ (Oper.mk _ (Op.load 47 _) _ _ _ _ :: _) _ _); refine loadB (K1) rfl rfl rfl ?_)
        refine (implBoard_yes _ _ HV.out).mono ?_
        rintro _ w1 ⟨rfl, hb⟩
        have K1 := K1.below hb K1.lt
        have KR := KR.below hb KR.lt
        have HB : Hid (Below w.heap.size w w1) := HB.out.trans (hb.mono HB.out.size)
        clear hb
        go_wp2_with ((with_reducible show wpList _ _ _ (Oper.mk _ (Op.store 42 _ _) _ _ _ _ :: _) _ _); refine storeC (KR) rfl rfl rfl rfl ?_)
        try simp only [Exit.inBlock, Exit.then]
        exact retctC (KR.row 2 _) rfl rfl rfl ⟨rfl, below_setRow HB.out (by omega) _⟩
      · have hg : n > 3 := by omega
        clear hN
        go_enter Try.func92, Try.ntmps92
        go_wp2_with ((with_reducible show wpList _ _ _ (Oper.mk _ (Op.load 47 _) _ _ _ _ :: _) _ _); refine loadB (K1) rfl rfl rfl ?_)
        refine (implBoard_yes _ _ HV.out).mono ?_
        rintro _ w1 ⟨rfl, hb⟩
        have K1 := K1.below hb K1.lt
        have KR := KR.below hb KR.lt
        have HB : Hid (Below w.heap.size w w1) := HB.out.trans (hb.mono HB.out.size)
        clear hb
        go_wp2_with ((with_reducible show wpList _ _ _ (Oper.mk _ (Op.store 42 _ _) _ _ _ _ :: _) _ _); refine storeC (KR) rfl rfl rfl rfl ?_)
        try simp only [Exit.inBlock, Exit.then]
        exact retctC (KR.row 2 _) rfl rfl rfl ⟨rfl, below_setRow HB.out (by omega) _⟩
  · have hno : ¬ KcOk f n := fun h => hV h.1
    have e0 : kcF f n = (0, 0) := if_neg hno
    have e9 : kcO f n = false := decide_eq_false hno
    rw [e0, e9, show mk 2 (fcF (0, 0)) = mk 2 fun _ => 0 from rfl]
    clear e0 e9
    have HV := Lib.hid hV
    clear hno hV
    go_enter Try.func92, Try.ntmps92
    go_wp2_with ((with_reducible show wpList _ _ _ (Oper.mk _ (Op.load 47 _) _ _ _ _ :: _) _ _); refine loadB (K1) rfl rfl rfl ?_)
    refine (implBoard_no _ _ HV.out).mono ?_
    rintro _ w1 ⟨rfl, hb⟩
    have K1 := K1.below hb K1.lt
    have KR := KR.below hb KR.lt
    have HB : Hid (Below w.heap.size w w1) := HB.out.trans (hb.mono HB.out.size)
    clear hb
    go_wp2_with ((with_reducible show wpList _ _ _ (Oper.mk _ (Op.store 42 _ _) _ _ _ _ :: _) _ _); refine storeC (KR) rfl rfl rfl rfl ?_)
    try simp only [Exit.inBlock, Exit.then]
    exact retctC (KR.row 2 _) rfl rfl rfl ⟨rfl, below_setRow HB.out (by omega) _⟩
end Go.Proofs.Ytblcojacmjbjcab
namespace Go.Proofs.Ytblcojacmjbjcab
open Go.RowKit Plain
attribute [local go_sem] store_new
set_option linter.unusedVariables false
set_option linter.unusedSimpArgs false
def FwOk (f : Nat → Int) (n : Int) : Prop := Vd f ∧ 1 ≤ n ∧ n ≤ 3
instance (f : Nat → Int) (n : Int) : Decidable (FwOk f n) := by unfold FwOk; infer_instance
def fwB (f : Nat → Int) (n : Int) : Bm := if FwOk f n then bmF f (kbV (n.toNat - 1) f) 4 else bm0
def fwD (f : Nat → Int) (n : Int) : Int := ((fwB f n).d : Int)
def fwK (f : Nat → Int) (n : Int) : Bool := (fwB f n).ok
def sameF7 (f g : Nat → Int) : Bool := (List.range 2).all fun c => f c == g c
theorem eqC7 (d : Nat) (f g : Nat → Int) (w : World) : (Op.equalIn (d + 2) 42 (.agg (mk 2 f)) (.agg (mk 2 g))).run Try.prog w = .ok (sameF7 f g) w := by
  cases hq : Try.prog.info? 3 with
  | none => have := size1; simp [hq] at this
  | some i =>
    rw [run_equalIn_array w (d + 1) (mk 2 f) (mk 2 g) Try.underlying42 hq, cells1]
    exact items_all _ _ _ _ _ _ (fun c => .int .i64 (f c)) (fun c => .int .i64 (g c)) (fun c => f c == g c) _ fun c hc => by
      have hc4 : c < 2 := List.mem_range.1 hc
      exact ⟨part_int Try.underlying3 f hc4 w, part_int Try.underlying3 g hc4 w, run_equalIn_int w d _ _ _ _ _ Try.underlying3⟩
theorem sameF7_fc (p q : Fc) : sameF7 (fcF p) (fcF q) = decide (p = q) := by
  obtain ⟨a, b⟩ := p
  obtain ⟨c, d⟩ := q
  have e : sameF7 (fcF (a, b)) (fcF (c, d)) = (((a : Int) == (c : Int)) && ((b : Int) == (d : Int))) := by
    show (((a : Int) == (c : Int)) && ((((b : Int) == (d : Int))) && true)) = _
    rw [Bool.and_true]
  rw [e, Bool.eq_iff_iff]
  simp
  omega
theorem execC7 {o : Oper} {ev : Operand → Value} {w : World} {b : Nat} {f : Nat → Int} {t : TypeId} {x : Operand} (hg : Blk w b 2 f t) (ho : o.op = .load 42 x) (hx : ev x = .pointer (some ⟨b, 0, none⟩)) :
    (execOp ev o).run Try.prog w = .ok (.value (.agg (mk 2 f))) w := exec_load_blk _ x ho hx hg Try.underlying42 rfl sizeC
set_option maxHeartbeats 4000000 in
set_option maxRecDepth 20000 in
theorem implFirstW_any (f : Nat → Int) (n : Int) (w : World) :
    Calls Try.prog 95 #[.agg (mk 16 f), .int .i64 n] w fun e w' => e = .returned (.tuple #[.int .i64 (fwD f n), .bool (fwK f n)]) ∧ Below w.heap.size w w' := by
  have z2 := zero2
  have z16 := zero16
  have z18 := zero18
  have K3 := Blk.new w 16 f 47
  have HB := Lib.hid ((Below.refl w.heap.size w).alloc (Nat.le_refl _) (.cells (mk 16 f) 47))
  by_cases hV : Vd f
  · have HV := Lib.hid hV
    by_cases hn : 1 ≤ n ∧ n ≤ 3
    · obtain ⟨h0, h1⟩ := hn
      obtain ⟨m, hm⟩ := Int.eq_ofNat_of_zero_le (show 0 ≤ n - 1 by omega)
      have e0 : fwB f n = bmF f (kbV m f) 4 := by
        have e1 : fwB f n = _ := if_pos ⟨hV, h0, h1⟩
        rw [e1, show n.toNat - 1 = m by omega]
      unfold fwD fwK
      rw [e0]
      have hm2 : m ≤ 2 := by omega
      have hnm : n = (m : Int) + 1 := by omega
      subst hnm
      clear e0 hm
      have HM := Lib.hid (fun W => bestMove_any f (kbV m f) (1, 1) 210 #[.int .i64 (m : Int)] #[] W hV (fun d hd hm => ⟨(kb_ok hm2 hV hm).1, by have := kb_ok hm2 hV hm; omega, by have := kb_ok hm2 hV hm; omega⟩) (fun d hd hm => ltF_one (kb_ok hm2 hV hm).2.1) (Go.Proofs.enters_of Try.func210 (by kernel_rfl) rfl) (fun d W' hd hm _ => kb_all m hm2 f d W' hV hm))
      generalize bmF f (kbV m f) 4 = R at *
      have hn2 : (m : Int) + 1 - 1 = (m : Int) := by omega
      have hg0 : ¬ (m : Int) + 1 < 1 := by omega
      have hg1 : ¬ (m : Int) + 1 > 3 := by omega
      clear hV
      go_enter Try.func95, Try.ntmps95
      go_wp2_with ((with_reducible show wpList _ _ _ (Oper.mk _ (Op.load 47 _) _ _ _ _ :: _) _ _); refine loadB (K3) rfl rfl rfl ?_)
      refine (implBoard_yes _ _ HV.out).mono ?_
      rintro _ w1 ⟨rfl, hb⟩
      have K3 := K3.below hb K3.lt
      have HB : Hid (Below w.heap.size w w1) := HB.out.trans (hb.mono HB.out.size)
      clear hb
      go_wp2_with fail
      refine wp_region_held_drew (S := fun W => Blk W w.heap.size 16 f 47) (by kernel_rfl) (K3.drew) (fun hHeld => ?_)
      have K3 := K3.drew
      have HB : Hid (Below w.heap.size w w1.drew) := HB.out.drew
      clear hHeld
      generalize w1.drew = xw at *
      have hHeld : Blk xw w.heap.size 16 f 47 := K3
      refine wpAnyH_take (i := 0) (oi := { dst := some 21, op := _, type := _, pos := _, after := _, guard := _ }) (v := .agg (mk 16 f)) rfl (by kernel_rfl) (by kernel_rfl) (by kernel_rfl) (fun _ _ _ h => h) (Or.inl ⟨by rfl, fun _ q => execB9 q rfl rfl⟩) (by assumption) ?_
      try simp only [Act.put, List.setIfInBounds_toArray, List.set_cons_zero, List.set_cons_succ]
      refine wpAnyH_take (i := 1) (oi := { dst := some 22, op := _, type := _, pos := _, after := _, guard := _ }) (v := .int .i64 ((m : Int) + 1)) rfl (by kernel_rfl) (by kernel_rfl) (by kernel_rfl) (fun _ _ _ h => h) (Or.inl ⟨by rfl, by intro w hSw; clear hSw; go_simp; (try with_reducible rfl)⟩) (by assumption) ?_
      try simp only [Act.put, List.setIfInBounds_toArray, List.set_cons_zero, List.set_cons_succ]
      refine wpAnyH_take (i := 2) (oi := { dst := some 23, op := _, type := _, pos := _, after := _, guard := _ }) (v := .int .i64 (m : Int)) rfl (by kernel_rfl) (by kernel_rfl) (by kernel_rfl) (fun _ _ _ h => h) (Or.inl ⟨by rfl, by intro W q; clear q; go_simp; exact fit62 (by omega)⟩) (by assumption) ?_
      try simp only [Act.put, List.setIfInBounds_toArray, List.set_cons_zero, List.set_cons_succ]
      refine wpAnyH_take (i := 3) (oi := { dst := some 24, op := _, type := _, pos := _, after := _, guard := _ }) (v := .func (.func 210) #[.int .i64 (m : Int)] #[]) rfl (by kernel_rfl) (by kernel_rfl) (by kernel_rfl) (fun _ _ _ h => h) (Or.inl ⟨by rfl, by intro w hSw; clear hSw; go_simp; (try with_reducible rfl)⟩) (by assumption) ?_
      try simp only [Act.put, List.setIfInBounds_toArray, List.set_cons_zero, List.set_cons_succ]
      refine wpAnyH_ready (rs := [4, 10]) (by kernel_rfl) (by simp) ?_
      refine AllReadyH.cons rfl (fun K hK => ?_) ?_
      · go_simp
        refine (whole_any _ 1 _ rfl).mono ?_
        rintro _ x1 ⟨rfl, hb⟩
        have K3 := K3.below hb K3.lt
        have HB : Hid (Below w.heap.size w x1) := HB.out.trans (hb.mono HB.out.size)
        clear hb hHeld
        go_wp2_with fail
        refine hK.out _ _ (K3) (fun hHeld => ?_)
        clear hK K
        try simp only [Act.put, List.setIfInBounds_toArray, List.set_cons_zero, List.set_cons_succ]
        refine wpAnyH_ready (rs := [5, 10]) (by kernel_rfl) (by simp) ?_
        refine AllReadyH.cons rfl (fun K hK => ?_) ?_
        · go_simp
          refine (HM.out _).mono ?_
          rintro _ x2 ⟨rfl, hb⟩
          have K3 := K3.below hb K3.lt
          have HB : Hid (Below w.heap.size w x2) := HB.out.trans (hb.mono HB.out.size)
          clear hb hHeld
          go_wp2_with fail
          refine hK.out _ _ (K3) (fun hHeld => ?_)
          clear hK K
          try simp only [Act.put, List.setIfInBounds_toArray, List.set_cons_zero, List.set_cons_succ]
          refine wpAnyH_take (i := 6) (oi := { dst := some 20, op := _, type := _, pos := _, after := _, guard := _ }) (v := .tuple #[.int .i64 ((R).d : Int), .agg (mk 2 (fcF (R).v)), .bool (R).ok]) rfl (by kernel_rfl) (by kernel_rfl) (by kernel_rfl) (fun _ _ _ h => h) (Or.inl ⟨by rfl, by intro w hSw; clear hSw; go_simp; (try with_reducible rfl)⟩) (by assumption) ?_
          try simp only [Act.put, List.setIfInBounds_toArray, List.set_cons_zero, List.set_cons_succ]
          refine wpAnyH_take (i := 7) (oi := { dst := some 27, op := _, type := _, pos := _, after := _, guard := _ }) (v := .int .i64 ((R).d : Int)) rfl (by kernel_rfl) (by kernel_rfl) (by kernel_rfl) (fun _ _ _ h => h) (Or.inl ⟨by rfl, by intro w hSw; clear hSw; go_simp; (try with_reducible rfl)⟩) (by assumption) ?_
          try simp only [Act.put, List.setIfInBounds_toArray, List.set_cons_zero, List.set_cons_succ]
          refine wpAnyH_take (i := 8) (oi := { dst := some 28, op := _, type := _, pos := _, after := _, guard := _ }) (v := .agg (mk 2 (fcF (R).v))) rfl (by kernel_rfl) (by kernel_rfl) (by kernel_rfl) (fun _ _ _ h => h) (Or.inl ⟨by rfl, by intro w hSw; clear hSw; go_simp; (try with_reducible rfl)⟩) (by assumption) ?_
          try simp only [Act.put, List.setIfInBounds_toArray, List.set_cons_zero, List.set_cons_succ]
          refine wpAnyH_take (i := 9) (oi := { dst := some 29, op := _, type := _, pos := _, after := _, guard := _ }) (v := .bool (R).ok) rfl (by kernel_rfl) (by kernel_rfl) (by kernel_rfl) (fun _ _ _ h => h) (Or.inl ⟨by rfl, by intro w hSw; clear hSw; go_simp; (try with_reducible rfl)⟩) (by assumption) ?_
          try simp only [Act.put, List.setIfInBounds_toArray, List.set_cons_zero, List.set_cons_succ]
          refine wpAnyH_ready (rs := [10]) (by kernel_rfl) (by simp) ?_
          refine AllReadyH.cons rfl (fun K hK => ?_) AllReadyH.nil
          go_simp
          clear hHeld
          have hl0 := K3.lt
          have KN := Blk.new x2 2 (fun _ => 0) 155
          have K3 := K3.alloc (.cells (mk 2 fun _ => 0) 155)
          have HB : Hid (Below w.heap.size w (x2.alloc (.cells (mk 2 fun _ => 0) 155))) := HB.out.alloc HB.out.size _
          generalize x2.alloc (.cells (mk 2 fun _ => 0) 155) = xn3 at *
          generalize x2.heap.size = bN at *
          refine hK.out _ _ (K3) (fun hHeld => ?_)
          clear hK K
          try simp only [Act.put, List.setIfInBounds_toArray, List.set_cons_zero, List.set_cons_succ]
          refine wpAnyH_take (i := 11) (oi := { dst := some 6, op := _, type := _, pos := _, after := _, guard := _ }) (v := .int .i64 ((R).d : Int)) rfl (by kernel_rfl) (by kernel_rfl) (by kernel_rfl) (fun _ _ _ h => h) (Or.inl ⟨by rfl, by intro w hSw; clear hSw; go_simp; (try with_reducible rfl)⟩) (by assumption) ?_
          try simp only [Act.put, List.setIfInBounds_toArray, List.set_cons_zero, List.set_cons_succ]
          refine wpAnyH_ready (rs := [12]) (by kernel_rfl) (by simp) ?_
          refine AllReadyH.cons rfl (fun K hK => ?_) AllReadyH.nil
          have st1 := run_store_blk (P := Try.prog) (g := fcF (R).v) KN
          have ms1 : (mk 2 (fcF (R).v)).size = 2 := mk_size 2 _
          go_simp
          clear st1 ms1 hHeld
          have K3 := K3.rowOther bN (mk 2 (fcF (R).v)) (by omega)
          have HB : Hid (Below w.heap.size w (xn3.setRow bN (mk 2 (fcF (R).v)))) := below_setRow HB.out (by omega) _
          have KN := KN.row 2 (fcF (R).v)
          generalize xn3.setRow bN (mk 2 (fcF (R).v)) = xs4 at *
          refine hK.out _ _ (K3) (fun hHeld => ?_)
          clear hK K
          try simp only [Act.put, List.setIfInBounds_toArray, List.set_cons_zero, List.set_cons_succ]
          refine wpAnyH_take (i := 13) (oi := { dst := some 8, op := _, type := _, pos := _, after := _, guard := _ }) (v := .bool (R).ok) rfl (by kernel_rfl) (by kernel_rfl) (by kernel_rfl) (fun _ _ _ h => h) (Or.inl ⟨by rfl, by intro w hSw; clear hSw; go_simp; (try with_reducible rfl)⟩) (by assumption) ?_
          try simp only [Act.put, List.setIfInBounds_toArray, List.set_cons_zero, List.set_cons_succ]
          refine wpAnyH_done (by kernel_rfl) ?_ _
          clear hHeld
          go_wp2_with fail
          go_ret2
          exact ⟨rfl, HB.out⟩
        refine AllReadyH.cons rfl (fun K hK => ?_) AllReadyH.nil
        go_simp
        clear hHeld
        have hl0 := K3.lt
        have KN := Blk.new x1 2 (fun _ => 0) 155
        have K3 := K3.alloc (.cells (mk 2 fun _ => 0) 155)
        have HB : Hid (Below w.heap.size w (x1.alloc (.cells (mk 2 fun _ => 0) 155))) := HB.out.alloc HB.out.size _
        generalize x1.alloc (.cells (mk 2 fun _ => 0) 155) = xn5 at *
        generalize x1.heap.size = bN at *
        refine hK.out _ _ (K3) (fun hHeld => ?_)
        clear hK K
        try simp only [Act.put, List.setIfInBounds_toArray, List.set_cons_zero, List.set_cons_succ]
        refine wpAnyH_ready (rs := [5]) (by kernel_rfl) (by simp) ?_
        refine AllReadyH.cons rfl (fun K hK => ?_) AllReadyH.nil
        go_simp
        refine (HM.out _).mono ?_
        rintro _ x6 ⟨rfl, hb⟩
        have K3 := K3.below hb K3.lt
        have KN := KN.below hb KN.lt
        have HB : Hid (Below w.heap.size w x6) := HB.out.trans (hb.mono HB.out.size)
        clear hb hHeld
        go_wp2_with fail
        refine hK.out _ _ (K3) (fun hHeld => ?_)
        clear hK K
        try simp only [Act.put, List.setIfInBounds_toArray, List.set_cons_zero, List.set_cons_succ]
        refine wpAnyH_take (i := 6) (oi := { dst := some 20, op := _, type := _, pos := _, after := _, guard := _ }) (v := .tuple #[.int .i64 ((R).d : Int), .agg (mk 2 (fcF (R).v)), .bool (R).ok]) rfl (by kernel_rfl) (by kernel_rfl) (by kernel_rfl) (fun _ _ _ h => h) (Or.inl ⟨by rfl, by intro w hSw; clear hSw; go_simp; (try with_reducible rfl)⟩) (by assumption) ?_
        try simp only [Act.put, List.setIfInBounds_toArray, List.set_cons_zero, List.set_cons_succ]
        refine wpAnyH_take (i := 7) (oi := { dst := some 27, op := _, type := _, pos := _, after := _, guard := _ }) (v := .int .i64 ((R).d : Int)) rfl (by kernel_rfl) (by kernel_rfl) (by kernel_rfl) (fun _ _ _ h => h) (Or.inl ⟨by rfl, by intro w hSw; clear hSw; go_simp; (try with_reducible rfl)⟩) (by assumption) ?_
        try simp only [Act.put, List.setIfInBounds_toArray, List.set_cons_zero, List.set_cons_succ]
        refine wpAnyH_take (i := 8) (oi := { dst := some 28, op := _, type := _, pos := _, after := _, guard := _ }) (v := .agg (mk 2 (fcF (R).v))) rfl (by kernel_rfl) (by kernel_rfl) (by kernel_rfl) (fun _ _ _ h => h) (Or.inl ⟨by rfl, by intro w hSw; clear hSw; go_simp; (try with_reducible rfl)⟩) (by assumption) ?_
        try simp only [Act.put, List.setIfInBounds_toArray, List.set_cons_zero, List.set_cons_succ]
        refine wpAnyH_take (i := 9) (oi := { dst := some 29, op := _, type := _, pos := _, after := _, guard := _ }) (v := .bool (R).ok) rfl (by kernel_rfl) (by kernel_rfl) (by kernel_rfl) (fun _ _ _ h => h) (Or.inl ⟨by rfl, by intro w hSw; clear hSw; go_simp; (try with_reducible rfl)⟩) (by assumption) ?_
        try simp only [Act.put, List.setIfInBounds_toArray, List.set_cons_zero, List.set_cons_succ]
        refine wpAnyH_take (i := 11) (oi := { dst := some 6, op := _, type := _, pos := _, after := _, guard := _ }) (v := .int .i64 ((R).d : Int)) rfl (by kernel_rfl) (by kernel_rfl) (by kernel_rfl) (fun _ _ _ h => h) (Or.inl ⟨by rfl, by intro w hSw; clear hSw; go_simp; (try with_reducible rfl)⟩) (by assumption) ?_
        try simp only [Act.put, List.setIfInBounds_toArray, List.set_cons_zero, List.set_cons_succ]
        refine wpAnyH_ready (rs := [12]) (by kernel_rfl) (by simp) ?_
        refine AllReadyH.cons rfl (fun K hK => ?_) AllReadyH.nil
        have st1 := run_store_blk (P := Try.prog) (g := fcF (R).v) KN
        have ms1 : (mk 2 (fcF (R).v)).size = 2 := mk_size 2 _
        go_simp
        clear st1 ms1 hHeld
        have K3 := K3.rowOther bN (mk 2 (fcF (R).v)) (by omega)
        have HB : Hid (Below w.heap.size w (x6.setRow bN (mk 2 (fcF (R).v)))) := below_setRow HB.out (by omega) _
        have KN := KN.row 2 (fcF (R).v)
        generalize x6.setRow bN (mk 2 (fcF (R).v)) = xs7 at *
        refine hK.out _ _ (K3) (fun hHeld => ?_)
        clear hK K
        try simp only [Act.put, List.setIfInBounds_toArray, List.set_cons_zero, List.set_cons_succ]
        refine wpAnyH_take (i := 13) (oi := { dst := some 8, op := _, type := _, pos := _, after := _, guard := _ }) (v := .bool (R).ok) rfl (by kernel_rfl) (by kernel_rfl) (by kernel_rfl) (fun _ _ _ h => h) (Or.inl ⟨by rfl, by intro w hSw; clear hSw; go_simp; (try with_reducible rfl)⟩) (by assumption) ?_
        try simp only [Act.put, List.setIfInBounds_toArray, List.set_cons_zero, List.set_cons_succ]
        refine wpAnyH_done (by kernel_rfl) ?_ _
        clear hHeld
        go_wp2_with fail
        go_ret2
        exact ⟨rfl, HB.out⟩
      refine AllReadyH.cons rfl (fun K hK => ?_) AllReadyH.nil
      go_simp
      clear hHeld
      have hl0 := K3.lt
      have KN := Blk.new xw 2 (fun _ => 0) 155
      have K3 := K3.alloc (.cells (mk 2 fun _ => 0) 155)
      have HB : Hid (Below w.heap.size w (xw.alloc (.cells (mk 2 fun _ => 0) 155))) := HB.out.alloc HB.out.size _
      generalize xw.alloc (.cells (mk 2 fun _ => 0) 155) = xn8 at *
      generalize xw.heap.size = bN at *
      refine hK.out _ _ (K3) (fun hHeld => ?_)
      clear hK K
      try simp only [Act.put, List.setIfInBounds_toArray, List.set_cons_zero, List.set_cons_succ]
      refine wpAnyH_ready (rs := [4]) (by kernel_rfl) (by simp) ?_
      refine AllReadyH.cons rfl (fun K hK => ?_) AllReadyH.nil
      go_simp
      refine (whole_any _ 1 _ rfl).mono ?_
      rintro _ x9 ⟨rfl, hb⟩
      have K3 := K3.below hb K3.lt
      have KN := KN.below hb KN.lt
      have HB : Hid (Below w.heap.size w x9) := HB.out.trans (hb.mono HB.out.size)
      clear hb hHeld
      go_wp2_with fail
      refine hK.out _ _ (K3) (fun hHeld => ?_)
      clear hK K
      try simp only [Act.put, List.setIfInBounds_toArray, List.set_cons_zero, List.set_cons_succ]
      refine wpAnyH_ready (rs := [5]) (by kernel_rfl) (by simp) ?_
      refine AllReadyH.cons rfl (fun K hK => ?_) AllReadyH.nil
      go_simp
      refine (HM.out _).mono ?_
      rintro _ x10 ⟨rfl, hb⟩
      have K3 := K3.below hb K3.lt
      have KN := KN.below hb KN.lt
      have HB : Hid (Below w.heap.size w x10) := HB.out.trans (hb.mono HB.out.size)
      clear hb hHeld
      go_wp2_with fail
      refine hK.out _ _ (K3) (fun hHeld => ?_)
      clear hK K
      try simp only [Act.put, List.setIfInBounds_toArray, List.set_cons_zero, List.set_cons_succ]
      refine wpAnyH_take (i := 6) (oi := { dst := some 20, op := _, type := _, pos := _, after := _, guard := _ }) (v := .tuple #[.int .i64 ((R).d : Int), .agg (mk 2 (fcF (R).v)), .bool (R).ok]) rfl (by kernel_rfl) (by kernel_rfl) (by kernel_rfl) (fun _ _ _ h => h) (Or.inl ⟨by rfl, by intro w hSw; clear hSw; go_simp; (try with_reducible rfl)⟩) (by assumption) ?_
      try simp only [Act.put, List.setIfInBounds_toArray, List.set_cons_zero, List.set_cons_succ]
      refine wpAnyH_take (i := 7) (oi := { dst := some 27, op := _, type := _, pos := _, after := _, guard := _ }) (v := .int .i64 ((R).d : Int)) rfl (by kernel_rfl) (by kernel_rfl) (by kernel_rfl) (fun _ _ _ h => h) (Or.inl ⟨by rfl, by intro w hSw; clear hSw; go_simp; (try with_reducible rfl)⟩) (by assumption) ?_
      try simp only [Act.put, List.setIfInBounds_toArray, List.set_cons_zero, List.set_cons_succ]
      refine wpAnyH_take (i := 8) (oi := { dst := some 28, op := _, type := _, pos := _, after := _, guard := _ }) (v := .agg (mk 2 (fcF (R).v))) rfl (by kernel_rfl) (by kernel_rfl) (by kernel_rfl) (fun _ _ _ h => h) (Or.inl ⟨by rfl, by intro w hSw; clear hSw; go_simp; (try with_reducible rfl)⟩) (by assumption) ?_
      try simp only [Act.put, List.setIfInBounds_toArray, List.set_cons_zero, List.set_cons_succ]
      refine wpAnyH_take (i := 9) (oi := { dst := some 29, op := _, type := _, pos := _, after := _, guard := _ }) (v := .bool (R).ok) rfl (by kernel_rfl) (by kernel_rfl) (by kernel_rfl) (fun _ _ _ h => h) (Or.inl ⟨by rfl, by intro w hSw; clear hSw; go_simp; (try with_reducible rfl)⟩) (by assumption) ?_
      try simp only [Act.put, List.setIfInBounds_toArray, List.set_cons_zero, List.set_cons_succ]
      refine wpAnyH_take (i := 11) (oi := { dst := some 6, op := _, type := _, pos := _, after := _, guard := _ }) (v := .int .i64 ((R).d : Int)) rfl (by kernel_rfl) (by kernel_rfl) (by kernel_rfl) (fun _ _ _ h => h) (Or.inl ⟨by rfl, by intro w hSw; clear hSw; go_simp; (try with_reducible rfl)⟩) (by assumption) ?_
      try simp only [Act.put, List.setIfInBounds_toArray, List.set_cons_zero, List.set_cons_succ]
      refine wpAnyH_ready (rs := [12]) (by kernel_rfl) (by simp) ?_
      refine AllReadyH.cons rfl (fun K hK => ?_) AllReadyH.nil
      have st1 := run_store_blk (P := Try.prog) (g := fcF (R).v) KN
      have ms1 : (mk 2 (fcF (R).v)).size = 2 := mk_size 2 _
      go_simp
      clear st1 ms1 hHeld
      have K3 := K3.rowOther bN (mk 2 (fcF (R).v)) (by omega)
      have HB : Hid (Below w.heap.size w (x10.setRow bN (mk 2 (fcF (R).v)))) := below_setRow HB.out (by omega) _
      have KN := KN.row 2 (fcF (R).v)
      generalize x10.setRow bN (mk 2 (fcF (R).v)) = xs11 at *
      refine hK.out _ _ (K3) (fun hHeld => ?_)
      clear hK K
      try simp only [Act.put, List.setIfInBounds_toArray, List.set_cons_zero, List.set_cons_succ]
      refine wpAnyH_take (i := 13) (oi := { dst := some 8, op := _, type := _, pos := _, after := _, guard := _ }) (v := .bool (R).ok) rfl (by kernel_rfl) (by kernel_rfl) (by kernel_rfl) (fun _ _ _ h => h) (Or.inl ⟨by rfl, by intro w hSw; clear hSw; go_simp; (try with_reducible rfl)⟩) (by assumption) ?_
      try simp only [Act.put, List.setIfInBounds_toArray, List.set_cons_zero, List.set_cons_succ]
      refine wpAnyH_done (by kernel_rfl) ?_ _
      clear hHeld
      go_wp2_with fail
      go_ret2
      exact ⟨rfl, HB.out⟩
    · have hno : ¬ FwOk f n := fun h => hn h.2
      have e0 : fwB f n = bm0 := if_neg hno
      unfold fwD fwK
      rw [e0]
      clear e0
      show Calls _ _ _ _ fun e w' => e = .returned (.tuple #[.int .i64 0, .bool false]) ∧ _
      have HN := Lib.hid (show n < 1 ∨ 3 < n by omega)
      clear hno hn hV
      have hN := HN.out
      by_cases hl : n < 1
      · clear hN
        go_enter Try.func95, Try.ntmps95
        go_wp2_with ((with_reducible show wpList _ _ _ (Oper.mk _ (Op.load 47 _) _ _ _ _ :: _) _ _); refine loadB (K3) rfl rfl rfl ?_)
        refine (implBoard_yes _ _ HV.out).mono ?_
        rintro _ w1 ⟨rfl, hb⟩
        have K3 := K3.below hb K3.lt
        have HB : Hid (Below w.heap.size w w1) := HB.out.trans (hb.mono HB.out.size)
        clear hb
        go_wp2_with fail
        go_ret2
        exact ⟨rfl, HB.out⟩
      · have hg : n > 3 := by omega
        clear hN
        go_enter Try.func95, Try.ntmps95
        go_wp2_with ((with_reducible show wpList _ _ _ (Oper.mk _ (Op.load 47 _) _ _ _ _ :: _) _ _); refine loadB (K3) rfl rfl rfl ?_)
        refine (implBoard_yes _ _ HV.out).mono ?_
        rintro _ w1 ⟨rfl, hb⟩
        have K3 := K3.below hb K3.lt
        have HB : Hid (Below w.heap.size w w1) := HB.out.trans (hb.mono HB.out.size)
        clear hb
        go_wp2_with fail
        go_ret2
        exact ⟨rfl, HB.out⟩
  · have hno : ¬ FwOk f n := fun h => hV h.1
    have e0 : fwB f n = bm0 := if_neg hno
    unfold fwD fwK
    rw [e0]
    clear e0
    show Calls _ _ _ _ fun e w' => e = .returned (.tuple #[.int .i64 0, .bool false]) ∧ _
    have HV := Lib.hid hV
    clear hno hV
    go_enter Try.func95, Try.ntmps95
    go_wp2_with ((with_reducible show wpList _ _ _ (Oper.mk _ (Op.load 47 _) _ _ _ _ :: _) _ _); refine loadB (K3) rfl rfl rfl ?_)
    refine (implBoard_no _ _ HV.out).mono ?_
    rintro _ w1 ⟨rfl, hb⟩
    have K3 := K3.below hb K3.lt
    have HB : Hid (Below w.heap.size w w1) := HB.out.trans (hb.mono HB.out.size)
    clear hb
    go_wp2_with fail
    go_ret2
    exact ⟨rfl, HB.out⟩
set_option maxHeartbeats 4000000 in
set_option maxRecDepth 20000 in
theorem specFirstW_any (f : Nat → Int) (n : Int) (w : World) :
    Calls Try.prog 96 #[.agg (mk 16 f), .int .i64 n] w fun e w' => e = .returned (.tuple #[.int .i64 (fwD f n), .bool (fwK f n)]) ∧ Below w.heap.size w w' := by
  have z2 := zero2
  have z16 := zero16
  have z18 := zero18
  have K3 := Blk.new w 16 f 47
  have HB := Lib.hid ((Below.refl w.heap.size w).alloc (Nat.le_refl _) (.cells (mk 16 f) 47))
  by_cases hV : Vd f
  · have HV := Lib.hid hV
    by_cases hn : 1 ≤ n ∧ n ≤ 3
    · obtain ⟨h0, h1⟩ := hn
      obtain ⟨m, hm⟩ := Int.eq_ofNat_of_zero_le (show 0 ≤ n - 1 by omega)
      have e0 : fwB f n = bmF f (kbV m f) 4 := by
        have e1 : fwB f n = _ := if_pos ⟨hV, h0, h1⟩
        rw [e1, show n.toNat - 1 = m by omega]
      unfold fwD fwK
      rw [e0]
      have hm2 : m ≤ 2 := by omega
      have hnm : n = (m : Int) + 1 := by omega
      subst hnm
      clear e0 hm
      have HM := Lib.hid (fun w => l2Moves_any f w hV)
      have hle := movL_le f 4
      have HMA := Lib.hid (fun i (hi : i < (movL f 4).length) => mov_at hi)
      have HK := Lib.hid (fun w => show Calls Try.prog 209 #[.agg (mk 16 f), .int .i64 ((m : Int) + 1)] w _ from sk_all (m + 1) (by omega) f w hV)
      have HCC := Lib.hid (fun d w (hd : d < 4) (hm : isMv f d = true) => sd_all m hm2 f d w hV hd hm)
      have HWA := Lib.hid (fun (k d : Nat) hk hm hv hn => well_at (f := f) (V := kbV m f) (k := k) (d := d) (fun d _ hm => (kb_ok hm2 hV hm).1) hk hm hv hn)
      have HWN := Lib.hid (fun hn => well_no (f := f) (V := kbV m f) (fun d _ hm => (kb_ok hm2 hV hm).1) hn)
      obtain ⟨b, hb⟩ : ∃ b, b = KpF (m + 1) f := ⟨_, rfl⟩
      have HBE : Hid (b = (bmF f (kbV m f) 4).v) := by show _ = _; rw [hb, kp_succ]
      rw [← hb] at HK
      clear hb
      have iC : ∀ (p q : Fc) (w : World), (Op.equalIn 10000 42 (.agg (mk 2 (fcF p))) (.agg (mk 2 (fcF q)))).run Try.prog w = .ok (decide (p = q)) w := fun p q w => by rw [eqC7 9998, sameF7_fc]
      have hg0 : (1 : Int) ≤ (m : Int) + 1 := by omega
      clear hV
      generalize kbV m f = V at *
      go_enter Try.func96, Try.ntmps96
      go_wp2_with ((with_reducible show wpList _ _ _ (Oper.mk _ (Op.load 47 _) _ _ _ _ :: _) _ _); refine loadB (K3) rfl rfl rfl ?_)
      refine (l2Board_yes _ _ HV.out).mono ?_
      rintro _ w1 ⟨rfl, hb⟩
      have K3 := K3.below hb K3.lt
      have HB : Hid (Below w.heap.size w w1) := HB.out.trans (hb.mono HB.out.size)
      clear hb
      go_wp2_with fail
      refine (l1In_yes _ 1 3 _ h0 h1).mono ?_
      rintro _ w2 ⟨rfl, rfl⟩
      go_wp2_with fail
      refine wp_region_held_drew (S := fun W => Blk W w.heap.size 16 f 47) (by kernel_rfl) (K3.drew) (fun hHeld => ?_)
      have K3 : Blk w1.drew w.heap.size 16 f 47 := K3.drew
      have HB : Hid (Below w.heap.size w w1.drew) := HB.out.drew
      clear hHeld
      generalize w1.drew = x0 at *
      have hHeld : Blk x0 w.heap.size 16 f 47 := K3
      refine wpAnyH_take (i := 0) (oi := { dst := some 17, op := _, type := _, pos := _, after := _, guard := _ }) (v := .agg (mk 16 f)) rfl (by kernel_rfl) (by kernel_rfl) (by kernel_rfl) (fun _ _ _ h => h) (Or.inl ⟨by rfl, fun _ q => execB7 q rfl rfl⟩) (by assumption) ?_
      try simp only [Act.put, List.setIfInBounds_toArray, List.set_cons_zero, List.set_cons_succ]
      refine wpAnyH_take (i := 2) (oi := { dst := some 19, op := _, type := _, pos := _, after := _, guard := _ }) (v := .agg (mk 16 f)) rfl (by kernel_rfl) (by kernel_rfl) (by kernel_rfl) (fun _ _ _ h => h) (Or.inl ⟨by rfl, fun _ q => execB7 q rfl rfl⟩) (by assumption) ?_
      try simp only [Act.put, List.setIfInBounds_toArray, List.set_cons_zero, List.set_cons_succ]
      refine wpAnyH_take (i := 3) (oi := { dst := some 20, op := _, type := _, pos := _, after := _, guard := _ }) (v := .int .i64 ((m : Int) + 1)) rfl (by kernel_rfl) (by kernel_rfl) (by kernel_rfl) (fun _ _ _ h => h) (Or.inl ⟨by rfl, by intro w hSw; clear hSw; go_simp; (try with_reducible rfl)⟩) (by assumption) ?_
      try simp only [Act.put, List.setIfInBounds_toArray, List.set_cons_zero, List.set_cons_succ]
      refine wpAnyH_ready (rs := [1, 5]) (by kernel_rfl) (by simp) ?_
      refine AllReadyH.cons rfl (fun K hK => ?_) ?_
      · go_simp
        refine (HM.out _).mono ?_
        rintro _ x1 ⟨gm, cm, rfl, hmo, hb⟩
        have CM := mov_mem hmo
        clear hmo
        have K3 := K3.below hb K3.lt
        have HB : Hid (Below w.heap.size w x1) := HB.out.trans (hb.mono HB.out.size)
        clear hb hHeld
        go_wp2_with fail
        refine hK.out _ _ K3 (fun hHeld => ?_)
        clear hK K
        try simp only [Act.put, List.setIfInBounds_toArray, List.set_cons_zero, List.set_cons_succ]
        refine wpAnyH_ready (rs := [4, 5]) (by kernel_rfl) (by simp) ?_
        refine AllReadyH.cons rfl (fun K hK => ?_) ?_
        · go_simp
          refine (HK.out _).mono ?_
          rintro _ x2 ⟨rfl, hb⟩
          have K3 := K3.below hb K3.lt
          have CM := CM.below hb
          have HB : Hid (Below w.heap.size w x2) := HB.out.trans (hb.mono HB.out.size)
          clear hb hHeld
          go_wp2_with fail
          refine hK.out _ _ K3 (fun hHeld => ?_)
          clear hK K
          try simp only [Act.put, List.setIfInBounds_toArray, List.set_cons_zero, List.set_cons_succ]
          refine wpAnyH_ready (rs := [5]) (by kernel_rfl) (by simp) ?_
          refine AllReadyH.cons rfl (fun K hK => ?_) AllReadyH.nil
          go_simp
          clear hHeld
          have hl6 : gm < x2.heap.size := CM.1
          have hl3 : w.heap.size < x2.heap.size := K3.lt
          have KN := Blk.new x2 2 (fun _ => 0) 42
          have K3 := K3.alloc (.cells (mk 2 fun _ => 0) 42)
          have CM := CM.alloc (.cells (mk 2 fun _ => 0) 42)
          have HB : Hid (Below w.heap.size w (x2.alloc (.cells (mk 2 fun _ => 0) 42))) := HB.out.alloc HB.out.size _
          generalize x2.alloc (.cells (mk 2 fun _ => 0) 42) = xn3 at *
          generalize x2.heap.size = bN at *
          refine hK.out _ _ K3 (fun hHeld => ?_)
          clear hK K
          try simp only [Act.put, List.setIfInBounds_toArray, List.set_cons_zero, List.set_cons_succ]
          refine wpAnyH_take (i := 6) (oi := { dst := some 6, op := _, type := _, pos := _, after := _, guard := _ }) (v := .slice (some ⟨gm, 0, none⟩) (movL f 4).length cm) rfl (by kernel_rfl) (by kernel_rfl) (by kernel_rfl) (fun _ _ _ h => h) (Or.inl ⟨by rfl, by intro w hSw; clear hSw; go_simp; (try with_reducible rfl)⟩) (by assumption) ?_
          try simp only [Act.put, List.setIfInBounds_toArray, List.set_cons_zero, List.set_cons_succ]
          refine wpAnyH_ready (rs := [7]) (by kernel_rfl) (by simp) ?_
          refine AllReadyH.cons rfl (fun K hK => ?_) AllReadyH.nil
          have hgb2 : gm ≠ bN := by omega
          have st1 := run_store_blk (P := Try.prog) (g := fcF b) KN
          have ms1 : (mk 2 (fcF b)).size = 2 := mk_size 2 _
          go_simp
          clear st1 ms1 hHeld
          have hgr : xn3.grownBy (xn3.setRow bN (mk 2 (fcF b))) (some bN) := grown_row KN _
          have CM := CM.grown hgr (fun e => by cases e; omega)
          have K3 := K3.rowOther bN (mk 2 (fcF b)) (by omega)
          have HB : Hid (Below w.heap.size w (xn3.setRow bN (mk 2 (fcF b)))) := below_setRow HB.out (by omega) _
          have KN := KN.row 2 (fcF b)
          clear hgr
          generalize xn3.setRow bN (mk 2 (fcF b)) = xs4 at *
          refine hK.out _ _ K3 (fun hHeld => ?_)
          clear hK K
          try simp only [Act.put, List.setIfInBounds_toArray, List.set_cons_zero, List.set_cons_succ]
          refine wpAnyH_done (by kernel_rfl) ?_ _
          clear hHeld
          generalize hMM : movL f 4 = M at *
          generalize hLL : M.length = L at *
          go_wp2_with fail
          go_loopg [8] L (fun gk sI wr => ∃ (k : Nat), k + gk = L ∧ sI = .int .i64 k ∧ Hid (∀ j e : Nat, j < k → M[j]? = some (e : Int) → V e ≠ b) ∧ CAt wr gm L (fun i => M.getD i 0) ∧ Blk wr w.heap.size 16 f 47 ∧ Blk wr bN 2 (fcF b) 42 ∧ Hid (Below w.heap.size w wr))
          case atStart => exact ⟨0, by omega, rfl, fun j e hj => by omega, CM, K3, KN, HB⟩
          case round =>
            obtain ⟨k, hkg, rfl, HNO, CM, K3, KN, HB⟩ := hrel
            cases gk with
            | zero =>
              have hk : ¬ ((k : Int) < (L : Int)) := by omega
              obtain rfl : k = L := by omega
              clear hkg
              obtain ⟨y1, y2⟩ := HWN.out (fun j e hj he => by rw [← HBE.out]; exact HNO.out j e hj he)
              have HY1 := Lib.hid y1
              have HY2 := Lib.hid y2
              clear y1 y2
              go_wp2_with fail
              go_ret2
              exact ⟨by rw [HY1.out, HY2.out] <;> rfl, HB.out⟩
            | succ gk2 =>
              have hk8 : (k : Int) < (L : Int) := by omega
              have hk9 : k < L := by omega
              have hk0 : (0 : Int) ≤ (k : Int) := by omega
              obtain ⟨d, hd4, hgk, hdm, hgd, _⟩ := HMA.out k hk9
              have HGD : Hid (M.getD k 0 = (d : Int)) := hgd
              have HCK := Lib.hid (fun w => HCC.out d w hd4 hdm)
              clear hgd
              go_wp2_with fail
              refine wp_region_held_drew (S := fun W => Blk W w.heap.size 16 f 47 ∧ CAt W gm L (fun i => M.getD i 0) ∧ Blk W bN 2 (fcF b) 42) (by kernel_rfl) (⟨K3.drew, CM.drew, KN.drew⟩) (fun hHeld => ?_)
              have K3 := K3.drew
              have KN := KN.drew
              have CM : CAt wr.drew gm L (fun i => M.getD i 0) := CM.drew
              have HB : Hid (Below w.heap.size w wr.drew) := HB.out.drew
              clear hHeld
              generalize wr.drew = x0 at *
              have hHeld : Blk x0 w.heap.size 16 f 47 ∧ CAt x0 gm L (fun i => M.getD i 0) ∧ Blk x0 bN 2 (fcF b) 42 := ⟨K3, CM, KN⟩
              refine wpAnyH_take (i := 0) (oi := { dst := some 28, op := _, type := _, pos := _, after := _, guard := _ }) (v := .agg (mk 16 f)) rfl (by kernel_rfl) (by kernel_rfl) (by kernel_rfl) (fun _ _ _ h => h) (Or.inl ⟨by rfl, fun _ q => execB7 q.1 rfl rfl⟩) (by assumption) ?_
              try simp only [Act.put, List.setIfInBounds_toArray, List.set_cons_zero, List.set_cons_succ]
              refine wpAnyH_take (i := 1) (oi := { dst := some 29, op := _, type := _, pos := _, after := _, guard := _ }) (v := .slice (some ⟨gm, 0, none⟩) L cm) rfl (by kernel_rfl) (by kernel_rfl) (by kernel_rfl) (fun _ _ _ h => h) (Or.inl ⟨by rfl, by intro w hSw; clear hSw; go_simp; (try with_reducible rfl)⟩) (by assumption) ?_
              try simp only [Act.put, List.setIfInBounds_toArray, List.set_cons_zero, List.set_cons_succ]
              refine wpAnyH_take (i := 2) (oi := { dst := some 30, op := _, type := _, pos := _, after := _, guard := _ }) (v := .int .i64 (k : Int)) rfl (by kernel_rfl) (by kernel_rfl) (by kernel_rfl) (fun _ _ _ h => h) (Or.inl ⟨by rfl, by intro w hSw; clear hSw; go_simp; (try with_reducible rfl)⟩) (by assumption) ?_
              try simp only [Act.put, List.setIfInBounds_toArray, List.set_cons_zero, List.set_cons_succ]
              refine wpAnyH_take (i := 3) (oi := { dst := some 31, op := _, type := _, pos := _, after := _, guard := _ }) (v := .pointer (some ⟨gm, k, none⟩)) rfl (by kernel_rfl) (by kernel_rfl) (by kernel_rfl) (fun _ _ _ h => h) (Or.inl ⟨by rfl, by intro w hSw; clear hSw; go_simp; (try with_reducible rfl)⟩) (by assumption) ?_
              try simp only [Act.put, List.setIfInBounds_toArray, List.set_cons_zero, List.set_cons_succ]
              refine wpAnyH_take (i := 4) (oi := { dst := some 32, op := _, type := _, pos := _, after := _, guard := _ }) (v := .int .i64 (d : Int)) rfl (by kernel_rfl) (by kernel_rfl) (by kernel_rfl) (fun _ _ _ h => h) (Or.inl ⟨by rfl, by intro W q; have c0 : W.cell? ⟨gm, k, none⟩ = some (.int .i64 (M.getD k 0)) := q.2.1.2 k hk9; rw [HGD.out] at c0; clear q; go_simp⟩) (by assumption) ?_
              try simp only [Act.put, List.setIfInBounds_toArray, List.set_cons_zero, List.set_cons_succ]
              refine wpAnyH_take (i := 5) (oi := { dst := some 33, op := _, type := _, pos := _, after := _, guard := _ }) (v := .int .i64 ((m : Int) + 1)) rfl (by kernel_rfl) (by kernel_rfl) (by kernel_rfl) (fun _ _ _ h => h) (Or.inl ⟨by rfl, by intro w hSw; clear hSw; go_simp; (try with_reducible rfl)⟩) (by assumption) ?_
              try simp only [Act.put, List.setIfInBounds_toArray, List.set_cons_zero, List.set_cons_succ]
              refine wpAnyH_take (i := 7) (oi := { dst := some 35, op := _, type := _, pos := _, after := _, guard := _ }) (v := .agg (mk 2 (fcF b))) rfl (by kernel_rfl) (by kernel_rfl) (by kernel_rfl) (fun _ _ _ h => h) (Or.inl ⟨by rfl, fun _ q => execC7 q.2.2 rfl rfl⟩) (by assumption) ?_
              try simp only [Act.put, List.setIfInBounds_toArray, List.set_cons_zero, List.set_cons_succ]
              refine wpAnyH_ready (rs := [6]) (by kernel_rfl) (by simp) ?_
              refine AllReadyH.cons rfl (fun K hK => ?_) AllReadyH.nil
              go_simp
              refine (HCK.out _).mono ?_
              rintro _ x1 ⟨rfl, hb⟩
              have K3 := K3.below hb K3.lt
              have KN := KN.below hb KN.lt
              have CM := CM.below hb
              have HB : Hid (Below w.heap.size w x1) := HB.out.trans (hb.mono HB.out.size)
              clear hb hHeld
              go_wp2_with fail
              refine hK.out _ _ ⟨K3, CM, KN⟩ (fun hHeld => ?_)
              clear hK K
              try simp only [Act.put, List.setIfInBounds_toArray, List.set_cons_zero, List.set_cons_succ]
              refine wpAnyH_take (i := 8) (oi := { dst := some 36, op := _, type := _, pos := _, after := _, guard := _ }) (v := .bool (decide (V d = b))) rfl (by kernel_rfl) (by kernel_rfl) (by kernel_rfl) (fun _ _ _ h => h) (Or.inl ⟨by rfl, by intro W q; clear q; go_simp⟩) (by assumption) ?_
              try simp only [Act.put, List.setIfInBounds_toArray, List.set_cons_zero, List.set_cons_succ]
              refine wpAnyH_done (by kernel_rfl) ?_ _
              clear hHeld
              by_cases hvb : V d = b
              · have hd : decide (V d = b) = true := decide_eq_true hvb
                obtain ⟨y1, y2⟩ := HWA.out k d hgk hdm (by rw [hvb, HBE.out]) (fun j e hj he => by rw [← HBE.out]; exact HNO.out j e hj he)
                have HY1 := Lib.hid y1
                have HY2 := Lib.hid y2
                have ck : x1.cell? ⟨gm, k, none⟩ = some (.int .i64 (d : Int)) := by
                  have c0 : x1.cell? ⟨gm, k, none⟩ = some (.int .i64 (M.getD k 0)) := CM.2 k hk9
                  rw [HGD.out] at c0; exact c0
                clear y1 y2 hvb
                rw [hd]
                go_wp2_with fail
                go_ret2
                exact ⟨by rw [HY1.out, HY2.out] <;> rfl, HB.out⟩
              · have hd : decide (V d = b) = false := decide_eq_false hvb
                have HNO2 : Hid (∀ j e : Nat, j < k + 1 → M[j]? = some (e : Int) → V e ≠ b) := fun j e hj he => by
                  by_cases q : j = k
                  · subst q
                    have e1 : (e : Int) = (d : Int) := by have := he.symm.trans hgk; simpa using this
                    have e2 : e = d := by omega
                    subst e2; exact hvb
                  · exact HNO.out j e (by omega) he
                clear hvb
                rw [hd]
                go_wp2_with fail
                go_roundg gk2
                case rel => exact ⟨k + 1, by omega, by go_num, HNO2, CM, K3, KN, HB⟩
                case measure => omega
        refine AllReadyH.cons rfl (fun K hK => ?_) AllReadyH.nil
        go_simp
        clear hHeld
        have hl6 : gm < x1.heap.size := CM.1
        have hl3 : w.heap.size < x1.heap.size := K3.lt
        have KN := Blk.new x1 2 (fun _ => 0) 42
        have K3 := K3.alloc (.cells (mk 2 fun _ => 0) 42)
        have CM := CM.alloc (.cells (mk 2 fun _ => 0) 42)
        have HB : Hid (Below w.heap.size w (x1.alloc (.cells (mk 2 fun _ => 0) 42))) := HB.out.alloc HB.out.size _
        generalize x1.alloc (.cells (mk 2 fun _ => 0) 42) = xn5 at *
        generalize x1.heap.size = bN at *
        refine hK.out _ _ K3 (fun hHeld => ?_)
        clear hK K
        try simp only [Act.put, List.setIfInBounds_toArray, List.set_cons_zero, List.set_cons_succ]
        have hgb : gm ≠ bN := by omega
        refine wpAnyH_ready (rs := [4]) (by kernel_rfl) (by simp) ?_
        refine AllReadyH.cons rfl (fun K hK => ?_) AllReadyH.nil
        go_simp
        refine (HK.out _).mono ?_
        rintro _ x6 ⟨rfl, hb⟩
        have K3 := K3.below hb K3.lt
        have KN := KN.below hb KN.lt
        have CM := CM.below hb
        have HB : Hid (Below w.heap.size w x6) := HB.out.trans (hb.mono HB.out.size)
        clear hb hHeld
        go_wp2_with fail
        refine hK.out _ _ K3 (fun hHeld => ?_)
        clear hK K
        try simp only [Act.put, List.setIfInBounds_toArray, List.set_cons_zero, List.set_cons_succ]
        refine wpAnyH_take (i := 6) (oi := { dst := some 6, op := _, type := _, pos := _, after := _, guard := _ }) (v := .slice (some ⟨gm, 0, none⟩) (movL f 4).length cm) rfl (by kernel_rfl) (by kernel_rfl) (by kernel_rfl) (fun _ _ _ h => h) (Or.inl ⟨by rfl, by intro w hSw; clear hSw; go_simp; (try with_reducible rfl)⟩) (by assumption) ?_
        try simp only [Act.put, List.setIfInBounds_toArray, List.set_cons_zero, List.set_cons_succ]
        refine wpAnyH_ready (rs := [7]) (by kernel_rfl) (by simp) ?_
        refine AllReadyH.cons rfl (fun K hK => ?_) AllReadyH.nil
        have hgb2 : gm ≠ bN := by omega
        have st1 := run_store_blk (P := Try.prog) (g := fcF b) KN
        have ms1 : (mk 2 (fcF b)).size = 2 := mk_size 2 _
        go_simp
        clear st1 ms1 hHeld
        have hgr : x6.grownBy (x6.setRow bN (mk 2 (fcF b))) (some bN) := grown_row KN _
        have CM := CM.grown hgr (fun e => by cases e; omega)
        have K3 := K3.rowOther bN (mk 2 (fcF b)) (by omega)
        have HB : Hid (Below w.heap.size w (x6.setRow bN (mk 2 (fcF b)))) := below_setRow HB.out (by omega) _
        have KN := KN.row 2 (fcF b)
        clear hgr
        generalize x6.setRow bN (mk 2 (fcF b)) = xs7 at *
        refine hK.out _ _ K3 (fun hHeld => ?_)
        clear hK K
        try simp only [Act.put, List.setIfInBounds_toArray, List.set_cons_zero, List.set_cons_succ]
        refine wpAnyH_done (by kernel_rfl) ?_ _
        clear hHeld
        generalize hMM : movL f 4 = M at *
        generalize hLL : M.length = L at *
        go_wp2_with fail
        go_loopg [8] L (fun gk sI wr => ∃ (k : Nat), k + gk = L ∧ sI = .int .i64 k ∧ Hid (∀ j e : Nat, j < k → M[j]? = some (e : Int) → V e ≠ b) ∧ CAt wr gm L (fun i => M.getD i 0) ∧ Blk wr w.heap.size 16 f 47 ∧ Blk wr bN 2 (fcF b) 42 ∧ Hid (Below w.heap.size w wr))
        case atStart => exact ⟨0, by omega, rfl, fun j e hj => by omega, CM, K3, KN, HB⟩
        case round =>
          obtain ⟨k, hkg, rfl, HNO, CM, K3, KN, HB⟩ := hrel
          cases gk with
          | zero =>
            have hk : ¬ ((k : Int) < (L : Int)) := by omega
            obtain rfl : k = L := by omega
            clear hkg
            obtain ⟨y1, y2⟩ := HWN.out (fun j e hj he => by rw [← HBE.out]; exact HNO.out j e hj he)
            have HY1 := Lib.hid y1
            have HY2 := Lib.hid y2
            clear y1 y2
            go_wp2_with fail
            go_ret2
            exact ⟨by rw [HY1.out, HY2.out] <;> rfl, HB.out⟩
          | succ gk2 =>
            have hk8 : (k : Int) < (L : Int) := by omega
            have hk9 : k < L := by omega
            have hk0 : (0 : Int) ≤ (k : Int) := by omega
            obtain ⟨d, hd4, hgk, hdm, hgd, _⟩ := HMA.out k hk9
            have HGD : Hid (M.getD k 0 = (d : Int)) := hgd
            have HCK := Lib.hid (fun w => HCC.out d w hd4 hdm)
            clear hgd
            go_wp2_with fail
            refine wp_region_held_drew (S := fun W => Blk W w.heap.size 16 f 47 ∧ CAt W gm L (fun i => M.getD i 0) ∧ Blk W bN 2 (fcF b) 42) (by kernel_rfl) (⟨K3.drew, CM.drew, KN.drew⟩) (fun hHeld => ?_)
            have K3 := K3.drew
            have KN := KN.drew
            have CM : CAt wr.drew gm L (fun i => M.getD i 0) := CM.drew
            have HB : Hid (Below w.heap.size w wr.drew) := HB.out.drew
            clear hHeld
            generalize wr.drew = x0 at *
            have hHeld : Blk x0 w.heap.size 16 f 47 ∧ CAt x0 gm L (fun i => M.getD i 0) ∧ Blk x0 bN 2 (fcF b) 42 := ⟨K3, CM, KN⟩
            refine wpAnyH_take (i := 0) (oi := { dst := some 28, op := _, type := _, pos := _, after := _, guard := _ }) (v := .agg (mk 16 f)) rfl (by kernel_rfl) (by kernel_rfl) (by kernel_rfl) (fun _ _ _ h => h) (Or.inl ⟨by rfl, fun _ q => execB7 q.1 rfl rfl⟩) (by assumption) ?_
            try simp only [Act.put, List.setIfInBounds_toArray, List.set_cons_zero, List.set_cons_succ]
            refine wpAnyH_take (i := 1) (oi := { dst := some 29, op := _, type := _, pos := _, after := _, guard := _ }) (v := .slice (some ⟨gm, 0, none⟩) L cm) rfl (by kernel_rfl) (by kernel_rfl) (by kernel_rfl) (fun _ _ _ h => h) (Or.inl ⟨by rfl, by intro w hSw; clear hSw; go_simp; (try with_reducible rfl)⟩) (by assumption) ?_
            try simp only [Act.put, List.setIfInBounds_toArray, List.set_cons_zero, List.set_cons_succ]
            refine wpAnyH_take (i := 2) (oi := { dst := some 30, op := _, type := _, pos := _, after := _, guard := _ }) (v := .int .i64 (k : Int)) rfl (by kernel_rfl) (by kernel_rfl) (by kernel_rfl) (fun _ _ _ h => h) (Or.inl ⟨by rfl, by intro w hSw; clear hSw; go_simp; (try with_reducible rfl)⟩) (by assumption) ?_
            try simp only [Act.put, List.setIfInBounds_toArray, List.set_cons_zero, List.set_cons_succ]
            refine wpAnyH_take (i := 3) (oi := { dst := some 31, op := _, type := _, pos := _, after := _, guard := _ }) (v := .pointer (some ⟨gm, k, none⟩)) rfl (by kernel_rfl) (by kernel_rfl) (by kernel_rfl) (fun _ _ _ h => h) (Or.inl ⟨by rfl, by intro w hSw; clear hSw; go_simp; (try with_reducible rfl)⟩) (by assumption) ?_
            try simp only [Act.put, List.setIfInBounds_toArray, List.set_cons_zero, List.set_cons_succ]
            refine wpAnyH_take (i := 4) (oi := { dst := some 32, op := _, type := _, pos := _, after := _, guard := _ }) (v := .int .i64 (d : Int)) rfl (by kernel_rfl) (by kernel_rfl) (by kernel_rfl) (fun _ _ _ h => h) (Or.inl ⟨by rfl, by intro W q; have c0 : W.cell? ⟨gm, k, none⟩ = some (.int .i64 (M.getD k 0)) := q.2.1.2 k hk9; rw [HGD.out] at c0; clear q; go_simp⟩) (by assumption) ?_
            try simp only [Act.put, List.setIfInBounds_toArray, List.set_cons_zero, List.set_cons_succ]
            refine wpAnyH_take (i := 5) (oi := { dst := some 33, op := _, type := _, pos := _, after := _, guard := _ }) (v := .int .i64 ((m : Int) + 1)) rfl (by kernel_rfl) (by kernel_rfl) (by kernel_rfl) (fun _ _ _ h => h) (Or.inl ⟨by rfl, by intro w hSw; clear hSw; go_simp; (try with_reducible rfl)⟩) (by assumption) ?_
            try simp only [Act.put, List.setIfInBounds_toArray, List.set_cons_zero, List.set_cons_succ]
            refine wpAnyH_take (i := 7) (oi := { dst := some 35, op := _, type := _, pos := _, after := _, guard := _ }) (v := .agg (mk 2 (fcF b))) rfl (by kernel_rfl) (by kernel_rfl) (by kernel_rfl) (fun _ _ _ h => h) (Or.inl ⟨by rfl, fun _ q => execC7 q.2.2 rfl rfl⟩) (by assumption) ?_
            try simp only [Act.put, List.setIfInBounds_toArray, List.set_cons_zero, List.set_cons_succ]
            refine wpAnyH_ready (rs := [6]) (by kernel_rfl) (by simp) ?_
            refine AllReadyH.cons rfl (fun K hK => ?_) AllReadyH.nil
            go_simp
            refine (HCK.out _).mono ?_
            rintro _ x1 ⟨rfl, hb⟩
            have K3 := K3.below hb K3.lt
            have KN := KN.below hb KN.lt
            have CM := CM.below hb
            have HB : Hid (Below w.heap.size w x1) := HB.out.trans (hb.mono HB.out.size)
            clear hb hHeld
            go_wp2_with fail
            refine hK.out _ _ ⟨K3, CM, KN⟩ (fun hHeld => ?_)
            clear hK K
            try simp only [Act.put, List.setIfInBounds_toArray, List.set_cons_zero, List.set_cons_succ]
            refine wpAnyH_take (i := 8) (oi := { dst := some 36, op := _, type := _, pos := _, after := _, guard := _ }) (v := .bool (decide (V d = b))) rfl (by kernel_rfl) (by kernel_rfl) (by kernel_rfl) (fun _ _ _ h => h) (Or.inl ⟨by rfl, by intro W q; clear q; go_simp⟩) (by assumption) ?_
            try simp only [Act.put, List.setIfInBounds_toArray, List.set_cons_zero, List.set_cons_succ]
            refine wpAnyH_done (by kernel_rfl) ?_ _
            clear hHeld
            by_cases hvb : V d = b
            · have hd : decide (V d = b) = true := decide_eq_true hvb
              obtain ⟨y1, y2⟩ := HWA.out k d hgk hdm (by rw [hvb, HBE.out]) (fun j e hj he => by rw [← HBE.out]; exact HNO.out j e hj he)
              have HY1 := Lib.hid y1
              have HY2 := Lib.hid y2
              have ck : x1.cell? ⟨gm, k, none⟩ = some (.int .i64 (d : Int)) := by
                have c0 : x1.cell? ⟨gm, k, none⟩ = some (.int .i64 (M.getD k 0)) := CM.2 k hk9
                rw [HGD.out] at c0; exact c0
              clear y1 y2 hvb
              rw [hd]
              go_wp2_with fail
              go_ret2
              exact ⟨by rw [HY1.out, HY2.out] <;> rfl, HB.out⟩
            · have hd : decide (V d = b) = false := decide_eq_false hvb
              have HNO2 : Hid (∀ j e : Nat, j < k + 1 → M[j]? = some (e : Int) → V e ≠ b) := fun j e hj he => by
                by_cases q : j = k
                · subst q
                  have e1 : (e : Int) = (d : Int) := by have := he.symm.trans hgk; simpa using this
                  have e2 : e = d := by omega
                  subst e2; exact hvb
                · exact HNO.out j e (by omega) he
              clear hvb
              rw [hd]
              go_wp2_with fail
              go_roundg gk2
              case rel => exact ⟨k + 1, by omega, by go_num, HNO2, CM, K3, KN, HB⟩
              case measure => omega
      refine AllReadyH.cons rfl (fun K hK => ?_) AllReadyH.nil
      go_simp
      clear hHeld
      have hl3 : w.heap.size < x0.heap.size := K3.lt
      have KN := Blk.new x0 2 (fun _ => 0) 42
      have K3 := K3.alloc (.cells (mk 2 fun _ => 0) 42)
      have HB : Hid (Below w.heap.size w (x0.alloc (.cells (mk 2 fun _ => 0) 42))) := HB.out.alloc HB.out.size _
      have hlx : x0.heap.size < (x0.alloc (.cells (mk 2 fun _ => 0) 42)).heap.size := by simp
      generalize x0.alloc (.cells (mk 2 fun _ => 0) 42) = xn8 at *
      generalize x0.heap.size = bN at *
      refine hK.out _ _ K3 (fun hHeld => ?_)
      clear hK K
      try simp only [Act.put, List.setIfInBounds_toArray, List.set_cons_zero, List.set_cons_succ]
      refine wpAnyH_ready (rs := [1]) (by kernel_rfl) (by simp) ?_
      refine AllReadyH.cons rfl (fun K hK => ?_) AllReadyH.nil
      go_simp
      refine (HM.out _).mono ?_
      rintro _ x9 ⟨gm, cm, rfl, hmo, hb⟩
      have CM := mov_mem hmo
      have hgb : gm ≠ bN := by have h1 := (hmo.lt gm rfl).1; omega
      clear hmo
      have K3 := K3.below hb K3.lt
      have KN := KN.below hb KN.lt
      have HB : Hid (Below w.heap.size w x9) := HB.out.trans (hb.mono HB.out.size)
      clear hb hHeld
      go_wp2_with fail
      refine hK.out _ _ K3 (fun hHeld => ?_)
      clear hK K
      try simp only [Act.put, List.setIfInBounds_toArray, List.set_cons_zero, List.set_cons_succ]
      refine wpAnyH_ready (rs := [4]) (by kernel_rfl) (by simp) ?_
      refine AllReadyH.cons rfl (fun K hK => ?_) AllReadyH.nil
      go_simp
      refine (HK.out _).mono ?_
      rintro _ x10 ⟨rfl, hb⟩
      have K3 := K3.below hb K3.lt
      have KN := KN.below hb KN.lt
      have CM := CM.below hb
      have HB : Hid (Below w.heap.size w x10) := HB.out.trans (hb.mono HB.out.size)
      clear hb hHeld
      go_wp2_with fail
      refine hK.out _ _ K3 (fun hHeld => ?_)
      clear hK K
      try simp only [Act.put, List.setIfInBounds_toArray, List.set_cons_zero, List.set_cons_succ]
      refine wpAnyH_take (i := 6) (oi := { dst := some 6, op := _, type := _, pos := _, after := _, guard := _ }) (v := .slice (some ⟨gm, 0, none⟩) (movL f 4).length cm) rfl (by kernel_rfl) (by kernel_rfl) (by kernel_rfl) (fun _ _ _ h => h) (Or.inl ⟨by rfl, by intro w hSw; clear hSw; go_simp; (try with_reducible rfl)⟩) (by assumption) ?_
      try simp only [Act.put, List.setIfInBounds_toArray, List.set_cons_zero, List.set_cons_succ]
      refine wpAnyH_ready (rs := [7]) (by kernel_rfl) (by simp) ?_
      refine AllReadyH.cons rfl (fun K hK => ?_) AllReadyH.nil
      have hgb2 : gm ≠ bN := by omega
      have st1 := run_store_blk (P := Try.prog) (g := fcF b) KN
      have ms1 : (mk 2 (fcF b)).size = 2 := mk_size 2 _
      go_simp
      clear st1 ms1 hHeld
      have hgr : x10.grownBy (x10.setRow bN (mk 2 (fcF b))) (some bN) := grown_row KN _
      have CM := CM.grown hgr (fun e => by cases e; omega)
      have K3 := K3.rowOther bN (mk 2 (fcF b)) (by omega)
      have HB : Hid (Below w.heap.size w (x10.setRow bN (mk 2 (fcF b)))) := below_setRow HB.out (by omega) _
      have KN := KN.row 2 (fcF b)
      clear hgr
      generalize x10.setRow bN (mk 2 (fcF b)) = xs11 at *
      refine hK.out _ _ K3 (fun hHeld => ?_)
      clear hK K
      try simp only [Act.put, List.setIfInBounds_toArray, List.set_cons_zero, List.set_cons_succ]
      refine wpAnyH_done (by kernel_rfl) ?_ _
      clear hHeld
      generalize hMM : movL f 4 = M at *
      generalize hLL : M.length = L at *
      go_wp2_with fail
      go_loopg [8] L (fun gk sI wr => ∃ (k : Nat), k + gk = L ∧ sI = .int .i64 k ∧ Hid (∀ j e : Nat, j < k → M[j]? = some (e : Int) → V e ≠ b) ∧ CAt wr gm L (fun i => M.getD i 0) ∧ Blk wr w.heap.size 16 f 47 ∧ Blk wr bN 2 (fcF b) 42 ∧ Hid (Below w.heap.size w wr))
      case atStart => exact ⟨0, by omega, rfl, fun j e hj => by omega, CM, K3, KN, HB⟩
      case round =>
        obtain ⟨k, hkg, rfl, HNO, CM, K3, KN, HB⟩ := hrel
        cases gk with
        | zero =>
          have hk : ¬ ((k : Int) < (L : Int)) := by omega
          obtain rfl : k = L := by omega
          clear hkg
          obtain ⟨y1, y2⟩ := HWN.out (fun j e hj he => by rw [← HBE.out]; exact HNO.out j e hj he)
          have HY1 := Lib.hid y1
          have HY2 := Lib.hid y2
          clear y1 y2
          go_wp2_with fail
          go_ret2
          exact ⟨by rw [HY1.out, HY2.out] <;> rfl, HB.out⟩
        | succ gk2 =>
          have hk8 : (k : Int) < (L : Int) := by omega
          have hk9 : k < L := by omega
          have hk0 : (0 : Int) ≤ (k : Int) := by omega
          obtain ⟨d, hd4, hgk, hdm, hgd, _⟩ := HMA.out k hk9
          have HGD : Hid (M.getD k 0 = (d : Int)) := hgd
          have HCK := Lib.hid (fun w => HCC.out d w hd4 hdm)
          clear hgd
          go_wp2_with fail
          refine wp_region_held_drew (S := fun W => Blk W w.heap.size 16 f 47 ∧ CAt W gm L (fun i => M.getD i 0) ∧ Blk W bN 2 (fcF b) 42) (by kernel_rfl) (⟨K3.drew, CM.drew, KN.drew⟩) (fun hHeld => ?_)
          have K3 := K3.drew
          have KN := KN.drew
          have CM : CAt wr.drew gm L (fun i => M.getD i 0) := CM.drew
          have HB : Hid (Below w.heap.size w wr.drew) := HB.out.drew
          clear hHeld
          generalize wr.drew = x0 at *
          have hHeld : Blk x0 w.heap.size 16 f 47 ∧ CAt x0 gm L (fun i => M.getD i 0) ∧ Blk x0 bN 2 (fcF b) 42 := ⟨K3, CM, KN⟩
          refine wpAnyH_take (i := 0) (oi := { dst := some 28, op := _, type := _, pos := _, after := _, guard := _ }) (v := .agg (mk 16 f)) rfl (by kernel_rfl) (by kernel_rfl) (by kernel_rfl) (fun _ _ _ h => h) (Or.inl ⟨by rfl, fun _ q => execB7 q.1 rfl rfl⟩) (by assumption) ?_
          try simp only [Act.put, List.setIfInBounds_toArray, List.set_cons_zero, List.set_cons_succ]
          refine wpAnyH_take (i := 1) (oi := { dst := some 29, op := _, type := _, pos := _, after := _, guard := _ }) (v := .slice (some ⟨gm, 0, none⟩) L cm) rfl (by kernel_rfl) (by kernel_rfl) (by kernel_rfl) (fun _ _ _ h => h) (Or.inl ⟨by rfl, by intro w hSw; clear hSw; go_simp; (try with_reducible rfl)⟩) (by assumption) ?_
          try simp only [Act.put, List.setIfInBounds_toArray, List.set_cons_zero, List.set_cons_succ]
          refine wpAnyH_take (i := 2) (oi := { dst := some 30, op := _, type := _, pos := _, after := _, guard := _ }) (v := .int .i64 (k : Int)) rfl (by kernel_rfl) (by kernel_rfl) (by kernel_rfl) (fun _ _ _ h => h) (Or.inl ⟨by rfl, by intro w hSw; clear hSw; go_simp; (try with_reducible rfl)⟩) (by assumption) ?_
          try simp only [Act.put, List.setIfInBounds_toArray, List.set_cons_zero, List.set_cons_succ]
          refine wpAnyH_take (i := 3) (oi := { dst := some 31, op := _, type := _, pos := _, after := _, guard := _ }) (v := .pointer (some ⟨gm, k, none⟩)) rfl (by kernel_rfl) (by kernel_rfl) (by kernel_rfl) (fun _ _ _ h => h) (Or.inl ⟨by rfl, by intro w hSw; clear hSw; go_simp; (try with_reducible rfl)⟩) (by assumption) ?_
          try simp only [Act.put, List.setIfInBounds_toArray, List.set_cons_zero, List.set_cons_succ]
          refine wpAnyH_take (i := 4) (oi := { dst := some 32, op := _, type := _, pos := _, after := _, guard := _ }) (v := .int .i64 (d : Int)) rfl (by kernel_rfl) (by kernel_rfl) (by kernel_rfl) (fun _ _ _ h => h) (Or.inl ⟨by rfl, by intro W q; have c0 : W.cell? ⟨gm, k, none⟩ = some (.int .i64 (M.getD k 0)) := q.2.1.2 k hk9; rw [HGD.out] at c0; clear q; go_simp⟩) (by assumption) ?_
          try simp only [Act.put, List.setIfInBounds_toArray, List.set_cons_zero, List.set_cons_succ]
          refine wpAnyH_take (i := 5) (oi := { dst := some 33, op := _, type := _, pos := _, after := _, guard := _ }) (v := .int .i64 ((m : Int) + 1)) rfl (by kernel_rfl) (by kernel_rfl) (by kernel_rfl) (fun _ _ _ h => h) (Or.inl ⟨by rfl, by intro w hSw; clear hSw; go_simp; (try with_reducible rfl)⟩) (by assumption) ?_
          try simp only [Act.put, List.setIfInBounds_toArray, List.set_cons_zero, List.set_cons_succ]
          refine wpAnyH_take (i := 7) (oi := { dst := some 35, op := _, type := _, pos := _, after := _, guard := _ }) (v := .agg (mk 2 (fcF b))) rfl (by kernel_rfl) (by kernel_rfl) (by kernel_rfl) (fun _ _ _ h => h) (Or.inl ⟨by rfl, fun _ q => execC7 q.2.2 rfl rfl⟩) (by assumption) ?_
          try simp only [Act.put, List.setIfInBounds_toArray, List.set_cons_zero, List.set_cons_succ]
          refine wpAnyH_ready (rs := [6]) (by kernel_rfl) (by simp) ?_
          refine AllReadyH.cons rfl (fun K hK => ?_) AllReadyH.nil
          go_simp
          refine (HCK.out _).mono ?_
          rintro _ x1 ⟨rfl, hb⟩
          have K3 := K3.below hb K3.lt
          have KN := KN.below hb KN.lt
          have CM := CM.below hb
          have HB : Hid (Below w.heap.size w x1) := HB.out.trans (hb.mono HB.out.size)
          clear hb hHeld
          go_wp2_with fail
          refine hK.out _ _ ⟨K3, CM, KN⟩ (fun hHeld => ?_)
          clear hK K
          try simp only [Act.put, List.setIfInBounds_toArray, List.set_cons_zero, List.set_cons_succ]
          refine wpAnyH_take (i := 8) (oi := { dst := some 36, op := _, type := _, pos := _, after := _, guard := _ }) (v := .bool (decide (V d = b))) rfl (by kernel_rfl) (by kernel_rfl) (by kernel_rfl) (fun _ _ _ h => h) (Or.inl ⟨by rfl, by intro W q; clear q; go_simp⟩) (by assumption) ?_
          try simp only [Act.put, List.setIfInBounds_toArray, List.set_cons_zero, List.set_cons_succ]
          refine wpAnyH_done (by kernel_rfl) ?_ _
          clear hHeld
          by_cases hvb : V d = b
          · have hd : decide (V d = b) = true := decide_eq_true hvb
            obtain ⟨y1, y2⟩ := HWA.out k d hgk hdm (by rw [hvb, HBE.out]) (fun j e hj he => by rw [← HBE.out]; exact HNO.out j e hj he)
            have HY1 := Lib.hid y1
            have HY2 := Lib.hid y2
            have ck : x1.cell? ⟨gm, k, none⟩ = some (.int .i64 (d : Int)) := by
              have c0 : x1.cell? ⟨gm, k, none⟩ = some (.int .i64 (M.getD k 0)) := CM.2 k hk9
              rw [HGD.out] at c0; exact c0
            clear y1 y2 hvb
            rw [hd]
            go_wp2_with fail
            go_ret2
            exact ⟨by rw [HY1.out, HY2.out] <;> rfl, HB.out⟩
          · have hd : decide (V d = b) = false := decide_eq_false hvb
            have HNO2 : Hid (∀ j e : Nat, j < k + 1 → M[j]? = some (e : Int) → V e ≠ b) := fun j e hj he => by
              by_cases q : j = k
              · subst q
                have e1 : (e : Int) = (d : Int) := by have := he.symm.trans hgk; simpa using this
                have e2 : e = d := by omega
                subst e2; exact hvb
              · exact HNO.out j e (by omega) he
            clear hvb
            rw [hd]
            go_wp2_with fail
            go_roundg gk2
            case rel => exact ⟨k + 1, by omega, by go_num, HNO2, CM, K3, KN, HB⟩
            case measure => omega
    · have hno : ¬ FwOk f n := fun h => hn h.2
      have e0 : fwB f n = bm0 := if_neg hno
      unfold fwD fwK
      rw [e0]
      clear e0
      show Calls _ _ _ _ fun e w' => e = .returned (.tuple #[.int .i64 0, .bool false]) ∧ _
      have HN := Lib.hid (show n < 1 ∨ 3 < n by omega)
      clear hno hn hV
      go_enter Try.func96, Try.ntmps96
      go_wp2_with ((with_reducible show wpList _ _ _ (Oper.mk _ (Op.load 47 _) _ _ _ _ :: _) _ _); refine loadB (K3) rfl rfl rfl ?_)
      refine (l2Board_yes _ _ HV.out).mono ?_
      rintro _ w1 ⟨rfl, hb⟩
      have K3 := K3.below hb K3.lt
      have HB : Hid (Below w.heap.size w w1) := HB.out.trans (hb.mono HB.out.size)
      clear hb
      go_wp2_with fail
      refine (l1In_no _ 1 3 _ HN.out).mono ?_
      rintro _ w2 ⟨rfl, rfl⟩
      go_wp2_with fail
      go_ret2
      exact ⟨rfl, HB.out⟩
  · have hno : ¬ FwOk f n := fun h => hV h.1
    have e0 : fwB f n = bm0 := if_neg hno
    unfold fwD fwK
    rw [e0]
    clear e0
    show Calls _ _ _ _ fun e w' => e = .returned (.tuple #[.int .i64 0, .bool false]) ∧ _
    have HV := Lib.hid hV
    clear hno hV
    go_enter Try.func96, Try.ntmps96
    go_wp2_with ((with_reducible show wpList _ _ _ (Oper.mk _ (Op.load 47 _) _ _ _ _ :: _) _ _); refine loadB (K3) rfl rfl rfl ?_)
    refine (l2Board_no _ _ HV.out).mono ?_
    rintro _ w1 ⟨rfl, hb⟩
    have K3 := K3.below hb K3.lt
    have HB : Hid (Below w.heap.size w w1) := HB.out.trans (hb.mono HB.out.size)
    clear hb
    go_wp2_with fail
    go_ret2
    exact ⟨rfl, HB.out⟩
end Go.Proofs.Ytblcojacmjbjcab
