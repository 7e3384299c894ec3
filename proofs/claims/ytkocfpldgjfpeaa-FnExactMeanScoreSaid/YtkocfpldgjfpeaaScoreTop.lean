/-
  The contracts of MeanScore, in the reference and in the program, for every board and number.
-/
import Derived.Test.YtkocfpldgjfpeaaSpecScore
import Derived.Test.YtkocfpldgjfpeaaImplPlan
namespace Go.Proofs.Ytkocfpldgjfpeaa
open Go.RowKit Plain
attribute [local go_sem] store_new
set_option linter.unusedVariables false
set_option linter.unusedSimpArgs false
def SsOk (f : Nat → Int) (n : Int) : Prop := Vd f ∧ 0 ≤ n ∧ n ≤ 2
instance (f : Nat → Int) (n : Int) : Decidable (SsOk f n) := by unfold SsOk; infer_instance
def ssF (f : Nat → Int) (n : Int) : Fc := if SsOk f n then ScF n.toNat f else (0, 0)
def ssO (f : Nat → Int) (n : Int) : Bool := decide (SsOk f n)
set_option maxHeartbeats 1000000 in
theorem specScoreC_any (f : Nat → Int) (n : Int) (w : World) :
    Calls Try.prog 27 #[.agg (mk 16 f), .int .i64 n] w fun e w' => e = .returned (.tuple #[.agg (mk 2 (fcF (ssF f n))), .bool (ssO f n)]) ∧ Below w.heap.size w w' := by
  have z2 := zero2
  have K1 := (Blk.new w 16 f 29).alloc (.cells (mk 2 fun _ => 0) 26)
  have KR := Blk.new (w.alloc (.cells (mk 16 f) 29)) 2 (fun _ => 0) 26
  have HB := Lib.hid (((Below.refl w.heap.size w).alloc (Nat.le_refl _) (.cells (mk 16 f) 29)).alloc (by simp) (.cells (mk 2 fun _ => 0) 26))
  simp only [World.size_alloc] at KR
  by_cases hV : Vd f
  · have HV := Lib.hid hV
    by_cases hn : 0 ≤ n ∧ n ≤ 2
    · obtain ⟨h0, h1⟩ := hn
      have e0 : ssF f n = _ := if_pos ⟨hV, h0, h1⟩
      have e9 : ssO f n = true := decide_eq_true ⟨hV, h0, h1⟩
      rw [e0, e9]
      clear e0 e9
      obtain ⟨m, rfl⟩ := Int.eq_ofNat_of_zero_le h0
      have hm : m ≤ 2 := by omega
      have HC := Lib.hid (fun W => ss_all m hm f W HV.out)
      show Calls _ _ _ _ fun e w' => e = .returned (.tuple #[.agg (mk 2 (fcF (ScF m f))), .bool true]) ∧ _
      generalize ScF m f = R at *
      generalize hM : ((m : Nat) : Int) = N at *
      clear hM hV
      go_enter Try.func27, Try.ntmps27
      go_wp2_with ((with_reducible show wpList _ _ _ (Oper.mk _ (Op.load 29 _) _ _ _ _ :: _) _ _); refine loadB (K1) rfl rfl rfl ?_)
      refine (l2Board_yes _ _ HV.out).mono ?_
      rintro _ w1 ⟨rfl, hb⟩
      have K1 := K1.below hb K1.lt
      have KR := KR.below hb KR.lt
      have HB : Hid (Below w.heap.size w w1) := HB.out.trans (hb.mono HB.out.size)
      clear hb
      go_wp2_with fail
      refine (l1In_yes _ 0 2 _ h0 h1).mono ?_
      rintro _ w2 ⟨rfl, rfl⟩
      go_wp2_with ((with_reducible show wpList _ _ _ (Oper.mk _ (Op.load 29 _) _ _ _ _ :: _) _ _); refine loadB (K1) rfl rfl rfl ?_)
      refine (HC.out _).mono ?_
      rintro _ w3 ⟨rfl, hb⟩
      have K1 := K1.below hb K1.lt
      have KR := KR.below hb KR.lt
      have HB : Hid (Below w.heap.size w w3) := HB.out.trans (hb.mono HB.out.size)
      clear hb
      go_wp2_with ((with_reducible show wpList _ _ _ (Oper.mk _ (Op.store 26 _ _) _ _ _ _ :: _) _ _); refine storeC (KR) rfl rfl rfl rfl ?_)
      try simp only [Exit.inBlock, Exit.then]
      exact retctC (KR.row 2 _) rfl rfl rfl ⟨rfl, below_setRow HB.out (by omega) _⟩
    · have hno : ¬ SsOk f n := fun h => hn h.2
      have e0 : ssF f n = (0, 0) := if_neg hno
      have e9 : ssO f n = false := decide_eq_false hno
      rw [e0, e9, show mk 2 (fcF (0, 0)) = mk 2 fun _ => 0 from rfl]
      clear e0 e9
      have HN := Lib.hid (show n < 0 ∨ 2 < n by omega)
      clear hno hn hV
      go_enter Try.func27, Try.ntmps27
      go_wp2_with ((with_reducible show wpList _ _ _ (Oper.mk _ (Op.load 29 _) _ _ _ _ :: _) _ _); refine loadB (K1) rfl rfl rfl ?_)
      refine (l2Board_yes _ _ HV.out).mono ?_
      rintro _ w1 ⟨rfl, hb⟩
      have K1 := K1.below hb K1.lt
      have KR := KR.below hb KR.lt
      have HB : Hid (Below w.heap.size w w1) := HB.out.trans (hb.mono HB.out.size)
      clear hb
      go_wp2_with fail
      refine (l1In_no _ 0 2 _ HN.out).mono ?_
      rintro _ w2 ⟨rfl, rfl⟩
      go_wp2_with ((with_reducible show wpList _ _ _ (Oper.mk _ (Op.store 26 _ _) _ _ _ _ :: _) _ _); refine storeC (KR) rfl rfl rfl rfl ?_)
      try simp only [Exit.inBlock, Exit.then]
      exact retctC (KR.row 2 _) rfl rfl rfl ⟨rfl, below_setRow HB.out (by omega) _⟩
  · have hno : ¬ SsOk f n := fun h => hV h.1
    have e0 : ssF f n = (0, 0) := if_neg hno
    have e9 : ssO f n = false := decide_eq_false hno
    rw [e0, e9, show mk 2 (fcF (0, 0)) = mk 2 fun _ => 0 from rfl]
    clear e0 e9
    have HV := Lib.hid hV
    clear hno hV
    go_enter Try.func27, Try.ntmps27
    go_wp2_with ((with_reducible show wpList _ _ _ (Oper.mk _ (Op.load 29 _) _ _ _ _ :: _) _ _); refine loadB (K1) rfl rfl rfl ?_)
    refine (l2Board_no _ _ HV.out).mono ?_
    rintro _ w1 ⟨rfl, hb⟩
    have K1 := K1.below hb K1.lt
    have KR := KR.below hb KR.lt
    have HB : Hid (Below w.heap.size w w1) := HB.out.trans (hb.mono HB.out.size)
    clear hb
    go_wp2_with ((with_reducible show wpList _ _ _ (Oper.mk _ (Op.store 26 _ _) _ _ _ _ :: _) _ _); refine storeC (KR) rfl rfl rfl rfl ?_)
    try simp only [Exit.inBlock, Exit.then]
    exact retctC (KR.row 2 _) rfl rfl rfl ⟨rfl, below_setRow HB.out (by omega) _⟩
set_option maxHeartbeats 1000000 in
theorem implScoreC_any (f : Nat → Int) (n : Int) (w : World) :
    Calls Try.prog 28 #[.agg (mk 16 f), .int .i64 n] w fun e w' => e = .returned (.tuple #[.agg (mk 2 (fcF (ssF f n))), .bool (ssO f n)]) ∧ Below w.heap.size w w' := by
  have z2 := zero2
  have K1 := (Blk.new w 16 f 29).alloc (.cells (mk 2 fun _ => 0) 26)
  have KR := Blk.new (w.alloc (.cells (mk 16 f) 29)) 2 (fun _ => 0) 26
  have HB := Lib.hid (((Below.refl w.heap.size w).alloc (Nat.le_refl _) (.cells (mk 16 f) 29)).alloc (by simp) (.cells (mk 2 fun _ => 0) 26))
  simp only [World.size_alloc] at KR
  by_cases hV : Vd f
  · have HV := Lib.hid hV
    by_cases hn : 0 ≤ n ∧ n ≤ 2
    · obtain ⟨h0, h1⟩ := hn
      have e0 : ssF f n = _ := if_pos ⟨hV, h0, h1⟩
      have e9 : ssO f n = true := decide_eq_true ⟨hV, h0, h1⟩
      rw [e0, e9]
      clear e0 e9
      obtain ⟨m, rfl⟩ := Int.eq_ofNat_of_zero_le h0
      have hm : m ≤ 2 := by omega
      have HC := Lib.hid (fun W => sp_all m hm f W HV.out)
      show Calls _ _ _ _ fun e w' => e = .returned (.tuple #[.agg (mk 2 (fcF (ScF m f))), .bool true]) ∧ _
      generalize ScF m f = R at *
      generalize hM : ((m : Nat) : Int) = N at *
      clear hM hV
      have h1g : ¬ N > 2 := by omega
      have h0g : ¬ N < 0 := by omega
      go_enter Try.func28, Try.ntmps28
      go_wp2_with ((with_reducible show wpList _ _ _ (Oper.mk _ (Op.load 29 _) _ _ _ _ :: _) _ _); refine loadB (K1) rfl rfl rfl ?_)
      refine (implBoard_yes _ _ HV.out).mono ?_
      rintro _ w1 ⟨rfl, hb⟩
      have K1 := K1.below hb K1.lt
      have KR := KR.below hb KR.lt
      have HB : Hid (Below w.heap.size w w1) := HB.out.trans (hb.mono HB.out.size)
      clear hb
      go_wp2_with ((with_reducible show wpList _ _ _ (Oper.mk _ (Op.load 29 _) _ _ _ _ :: _) _ _); refine loadB (K1) rfl rfl rfl ?_)
      refine (HC.out _).mono ?_
      rintro _ w3 ⟨rfl, hb⟩
      have K1 := K1.below hb K1.lt
      have KR := KR.below hb KR.lt
      have HB : Hid (Below w.heap.size w w3) := HB.out.trans (hb.mono HB.out.size)
      clear hb
      go_wp2_with ((with_reducible show wpList _ _ _ (Oper.mk _ (Op.store 26 _ _) _ _ _ _ :: _) _ _); refine storeC (KR) rfl rfl rfl rfl ?_)
      try simp only [Exit.inBlock, Exit.then]
      exact retctC (KR.row 2 _) rfl rfl rfl ⟨rfl, below_setRow HB.out (by omega) _⟩
    · have hno : ¬ SsOk f n := fun h => hn h.2
      have e0 : ssF f n = (0, 0) := if_neg hno
      have e9 : ssO f n = false := decide_eq_false hno
      rw [e0, e9, show mk 2 (fcF (0, 0)) = mk 2 fun _ => 0 from rfl]
      clear e0 e9
      have HN := Lib.hid (show n < 0 ∨ 2 < n by omega)
      clear hno hn hV
      have hN := HN.out
      by_cases hl : n < 0
      · clear hN
        go_enter Try.func28, Try.ntmps28
        go_wp2_with ((with_reducible show wpList _ _ _ (Oper.mk _ (Op.load 29 _) _ _ _ _ :: _) _ _); refine loadB (K1) rfl rfl rfl ?_)
        refine (implBoard_yes _ _ HV.out).mono ?_
        rintro _ w1 ⟨rfl, hb⟩
        have K1 := K1.below hb K1.lt
        have KR := KR.below hb KR.lt
        have HB : Hid (Below w.heap.size w w1) := HB.out.trans (hb.mono HB.out.size)
        clear hb
        go_wp2_with ((with_reducible show wpList _ _ _ (Oper.mk _ (Op.store 26 _ _) _ _ _ _ :: _) _ _); refine storeC (KR) rfl rfl rfl rfl ?_)
        try simp only [Exit.inBlock, Exit.then]
        exact retctC (KR.row 2 _) rfl rfl rfl ⟨rfl, below_setRow HB.out (by omega) _⟩
      · have hg : n > 2 := by omega
        clear hN
        go_enter Try.func28, Try.ntmps28
        go_wp2_with ((with_reducible show wpList _ _ _ (Oper.mk _ (Op.load 29 _) _ _ _ _ :: _) _ _); refine loadB (K1) rfl rfl rfl ?_)
        refine (implBoard_yes _ _ HV.out).mono ?_
        rintro _ w1 ⟨rfl, hb⟩
        have K1 := K1.below hb K1.lt
        have KR := KR.below hb KR.lt
        have HB : Hid (Below w.heap.size w w1) := HB.out.trans (hb.mono HB.out.size)
        clear hb
        go_wp2_with ((with_reducible show wpList _ _ _ (Oper.mk _ (Op.store 26 _ _) _ _ _ _ :: _) _ _); refine storeC (KR) rfl rfl rfl rfl ?_)
        try simp only [Exit.inBlock, Exit.then]
        exact retctC (KR.row 2 _) rfl rfl rfl ⟨rfl, below_setRow HB.out (by omega) _⟩
  · have hno : ¬ SsOk f n := fun h => hV h.1
    have e0 : ssF f n = (0, 0) := if_neg hno
    have e9 : ssO f n = false := decide_eq_false hno
    rw [e0, e9, show mk 2 (fcF (0, 0)) = mk 2 fun _ => 0 from rfl]
    clear e0 e9
    have HV := Lib.hid hV
    clear hno hV
    go_enter Try.func28, Try.ntmps28
    go_wp2_with ((with_reducible show wpList _ _ _ (Oper.mk _ (Op.load 29 _) _ _ _ _ :: _) _ _); refine loadB (K1) rfl rfl rfl ?_)
    refine (implBoard_no _ _ HV.out).mono ?_
    rintro _ w1 ⟨rfl, hb⟩
    have K1 := K1.below hb K1.lt
    have KR := KR.below hb KR.lt
    have HB : Hid (Below w.heap.size w w1) := HB.out.trans (hb.mono HB.out.size)
    clear hb
    go_wp2_with ((with_reducible show wpList _ _ _ (Oper.mk _ (Op.store 26 _ _) _ _ _ _ :: _) _ _); refine storeC (KR) rfl rfl rfl rfl ?_)
    try simp only [Exit.inBlock, Exit.then]
    exact retctC (KR.row 2 _) rfl rfl rfl ⟨rfl, below_setRow HB.out (by omega) _⟩
end Go.Proofs.Ytkocfpldgjfpeaa
