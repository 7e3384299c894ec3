/-
  The contracts of MeanSum, in the reference and in the program, for every board and number.
-/
import Derived.Test.YtkocfpldgjfpeaaSpecFrac
import Derived.Test.YtkocfpldgjfpeaaFracKit
import Derived.Test.YtkocfpldgjfpeaaSumOf
namespace Go.Proofs.Ytkocfpldgjfpeaa
open Go.RowKit Plain
attribute [local go_sem] store_new
set_option linter.unusedVariables false
set_option linter.unusedSimpArgs false
def MsOk (f : Nat → Int) (n : Int) : Prop := Vd f ∧ 0 ≤ n ∧ n ≤ 1000
instance (f : Nat → Int) (n : Int) : Decidable (MsOk f n) := by unfold MsOk; infer_instance
def msF (f : Nat → Int) (n : Int) : Fc := if MsOk f n then plusF ((sumF f 16).toNat, 1) (rd (11 * n.toNat) 5) else (0, 0)
def msO (f : Nat → Int) (n : Int) : Bool := decide (MsOk f n)
set_option maxHeartbeats 1000000 in
theorem specMeanSum_any (f : Nat → Int) (n : Int) (w : World) :
    Calls Try.prog 23 #[.agg (mk 16 f), .int .i64 n] w fun e w' => e = .returned (.tuple #[.agg (mk 2 (fcF (msF f n))), .bool (msO f n)]) ∧ Below w.heap.size w w' := by
  have z2 := zero2
  have K1 := (Blk.new w 16 f 29).alloc (.cells (mk 2 fun _ => 0) 26)
  have KR := Blk.new (w.alloc (.cells (mk 16 f) 29)) 2 (fun _ => 0) 26
  have HB := Lib.hid (((Below.refl w.heap.size w).alloc (Nat.le_refl _) (.cells (mk 16 f) 29)).alloc (by simp) (.cells (mk 2 fun _ => 0) 26))
  simp only [World.size_alloc] at KR
  by_cases hV : Vd f
  · have HV := Lib.hid hV
    by_cases hn : 0 ≤ n ∧ n ≤ 1000
    · obtain ⟨h0, h1⟩ := hn
      have e0 : msF f n = _ := if_pos ⟨hV, h0, h1⟩
      have e9 : msO f n = true := decide_eq_true ⟨hV, h0, h1⟩
      rw [e0, e9]
      clear e0 e9
      obtain ⟨m, rfl⟩ := Int.eq_ofNat_of_zero_le h0
      have hb := sumF_bd hV 16 (Nat.le_refl _)
      have HPL := Lib.hid (fun w => l9Plus_any ((sumF f 16).toNat, 1) (rd (11 * m) 5) w Nat.one_pos (rd_ok (by decide)).pos (by have := rd_le2 (11 * m) 5; have := Nat.mul_le_mul (show (sumF f 16).toNat ≤ 4194304 by omega) this; show (sumF f 16).toNat * (rd (11 * m) 5).2 ≤ _; omega) (by have := rd_le1 (11 * m) 5; show (rd (11 * m) 5).1 * 1 ≤ _; omega) (by have := rd_le2 (11 * m) 5; show 1 * (rd (11 * m) 5).2 ≤ _; omega))
      have HRD := Lib.hid (fun w => l9Cut_any (11 * m) 5 w (by decide) (by omega) (by decide))
      show Calls _ _ _ _ fun e w' => e = .returned (.tuple #[.agg (mk 2 (fcF (plusF ((sumF f 16).toNat, 1) (rd (11 * m) 5)))), .bool true]) ∧ _
      have e11 : (11 : Int) * (m : Int) = ((11 * m : Nat) : Int) := by omega
      have h11 : 11 * m ≤ 11000 := by omega
      have hsb : (sumF f 16).toNat ≤ 4194304 := by omega
      have hsi : sumF f 16 = (((sumF f 16).toNat : Nat) : Int) := by omega
      have HSU := Lib.hid (fun w => l2Sum_any f w hV)
      rw [hsi] at HSU
      clear hsi hV
      generalize rd (11 * m) 5 = Q at *
      generalize plusF ((sumF f 16).toNat, 1) Q = R at *
      generalize (sumF f 16).toNat = s at *
      generalize 11 * m = q at *
      clear hb
      go_enter Try.func23, Try.ntmps23
      go_wp2_with ((with_reducible show wpList _ _ _ (Oper.mk _ (Op.load 29 _) _ _ _ _ :: _) _ _); refine loadB (K1) rfl rfl rfl ?_)
      refine (l2Board_yes _ _ HV.out).mono ?_
      rintro _ w1 ⟨rfl, hb⟩
      have K1 := K1.below hb K1.lt
      have KR := KR.below hb KR.lt
      have HB : Hid (Below w.heap.size w w1) := HB.out.trans (hb.mono HB.out.size)
      clear hb
      go_wp2_with fail
      refine (l1In_yes _ 0 1000 _ h0 h1).mono ?_
      rintro _ w2 ⟨rfl, rfl⟩
      go_wp2_with ((with_reducible show wpList _ _ _ (Oper.mk _ (Op.load 29 _) _ _ _ _ :: _) _ _); refine loadB (K1) rfl rfl rfl ?_)
      refine (HSU.out _).mono ?_
      rintro _ w3 ⟨rfl, hb⟩
      have K1 := K1.below hb K1.lt
      have KR := KR.below hb KR.lt
      have HB : Hid (Below w.heap.size w w3) := HB.out.trans (hb.mono HB.out.size)
      clear hb
      go_wp2_with fail
      refine (HRD.out _).mono ?_
      rintro _ w4 ⟨rfl, hb⟩
      have K1 := K1.below hb K1.lt
      have KR := KR.below hb KR.lt
      have HB : Hid (Below w.heap.size w w4) := HB.out.trans (hb.mono HB.out.size)
      clear hb
      have HPL2 := HPL.out w4
      go_wp2_with fail
      refine HPL2.mono ?_
      rintro _ w5 ⟨rfl, hb⟩
      have K1 := K1.below hb K1.lt
      have KR := KR.below hb KR.lt
      have HB : Hid (Below w.heap.size w w5) := HB.out.trans (hb.mono HB.out.size)
      clear hb
      go_wp2_with ((with_reducible show wpList _ _ _ (Oper.mk _ (Op.store 26 _ _) _ _ _ _ :: _) _ _); refine storeC (KR) rfl rfl rfl rfl ?_)
      try simp only [Exit.inBlock, Exit.then]
      exact retctC (KR.row 2 _) rfl rfl rfl ⟨rfl, below_setRow HB.out (by omega) _⟩
    · have hno : ¬ MsOk f n := fun h => hn h.2
      have e0 : msF f n = (0, 0) := if_neg hno
      have e9 : msO f n = false := decide_eq_false hno
      rw [e0, e9, show mk 2 (fcF (0, 0)) = mk 2 fun _ => 0 from rfl]
      clear e0 e9
      have HN := Lib.hid (show n < 0 ∨ 1000 < n by omega)
      clear hno hn hV
      go_enter Try.func23, Try.ntmps23
      go_wp2_with ((with_reducible show wpList _ _ _ (Oper.mk _ (Op.load 29 _) _ _ _ _ :: _) _ _); refine loadB (K1) rfl rfl rfl ?_)
      refine (l2Board_yes _ _ HV.out).mono ?_
      rintro _ w1 ⟨rfl, hb⟩
      have K1 := K1.below hb K1.lt
      have KR := KR.below hb KR.lt
      have HB : Hid (Below w.heap.size w w1) := HB.out.trans (hb.mono HB.out.size)
      clear hb
      go_wp2_with fail
      refine (l1In_no _ 0 1000 _ HN.out).mono ?_
      rintro _ w2 ⟨rfl, rfl⟩
      go_wp2_with ((with_reducible show wpList _ _ _ (Oper.mk _ (Op.store 26 _ _) _ _ _ _ :: _) _ _); refine storeC (KR) rfl rfl rfl rfl ?_)
      try simp only [Exit.inBlock, Exit.then]
      exact retctC (KR.row 2 _) rfl rfl rfl ⟨rfl, below_setRow HB.out (by omega) _⟩
  · have hno : ¬ MsOk f n := fun h => hV h.1
    have e0 : msF f n = (0, 0) := if_neg hno
    have e9 : msO f n = false := decide_eq_false hno
    rw [e0, e9, show mk 2 (fcF (0, 0)) = mk 2 fun _ => 0 from rfl]
    clear e0 e9
    have HV := Lib.hid hV
    clear hno hV
    go_enter Try.func23, Try.ntmps23
    go_wp2_with ((with_reducible show wpList _ _ _ (Oper.mk _ (Op.load 29 _) _ _ _ _ :: _) _ _); refine loadB (K1) rfl rfl rfl ?_)
    refine (l2Board_no _ _ HV.out).mono ?_
    rintro _ w1 ⟨rfl, hb⟩
    have K1 := K1.below hb K1.lt
    have KR := KR.below hb KR.lt
    have HB : Hid (Below w.heap.size w w1) := HB.out.trans (hb.mono HB.out.size)
    clear hb
    go_wp2_with ((with_reducible show wpList _ _ _ (Oper.mk _ (Op.store 26 _ _) _ _ _ _ :: _) _ _); refine storeC (KR) rfl rfl rfl rfl ?_)
    try simp only [Exit.inBlock, Exit.then]
    exact retctC (KR.row 2 _) rfl rfl rfl ⟨rfl, below_setRow HB.out (by omega) _⟩
set_option maxHeartbeats 1000000 in
theorem implMeanSum_any (f : Nat → Int) (n : Int) (w : World) :
    Calls Try.prog 24 #[.agg (mk 16 f), .int .i64 n] w fun e w' => e = .returned (.tuple #[.agg (mk 2 (fcF (msF f n))), .bool (msO f n)]) ∧ Below w.heap.size w w' := by
  have z2 := zero2
  have K1 := (Blk.new w 16 f 29).alloc (.cells (mk 2 fun _ => 0) 26)
  have KR := Blk.new (w.alloc (.cells (mk 16 f) 29)) 2 (fun _ => 0) 26
  have HB := Lib.hid (((Below.refl w.heap.size w).alloc (Nat.le_refl _) (.cells (mk 16 f) 29)).alloc (by simp) (.cells (mk 2 fun _ => 0) 26))
  simp only [World.size_alloc] at KR
  by_cases hV : Vd f
  · have HV := Lib.hid hV
    by_cases hn : 0 ≤ n ∧ n ≤ 1000
    · obtain ⟨h0, h1⟩ := hn
      have e0 : msF f n = _ := if_pos ⟨hV, h0, h1⟩
      have e9 : msO f n = true := decide_eq_true ⟨hV, h0, h1⟩
      rw [e0, e9]
      clear e0 e9
      obtain ⟨m, rfl⟩ := Int.eq_ofNat_of_zero_le h0
      have hb := sumF_bd hV 16 (Nat.le_refl _)
      have HPL := Lib.hid (fun w => plus_any ((sumF f 16).toNat, 1) (rd (11 * m) 5) w Nat.one_pos (rd_ok (by decide)).pos (by have := rd_le2 (11 * m) 5; have := Nat.mul_le_mul (show (sumF f 16).toNat ≤ 4194304 by omega) this; show (sumF f 16).toNat * (rd (11 * m) 5).2 ≤ _; omega) (by have := rd_le1 (11 * m) 5; show (rd (11 * m) 5).1 * 1 ≤ _; omega) (by have := rd_le2 (11 * m) 5; show 1 * (rd (11 * m) 5).2 ≤ _; omega))
      have HRD := Lib.hid (fun w => reduced_any (11 * m) 5 w (by decide) (by omega) (by decide))
      show Calls _ _ _ _ fun e w' => e = .returned (.tuple #[.agg (mk 2 (fcF (plusF ((sumF f 16).toNat, 1) (rd (11 * m) 5)))), .bool true]) ∧ _
      have e11 : (11 : Int) * (m : Int) = ((11 * m : Nat) : Int) := by omega
      have h11 : 11 * m ≤ 11000 := by omega
      have hsb : (sumF f 16).toNat ≤ 4194304 := by omega
      have hsi : sumF f 16 = (((sumF f 16).toNat : Nat) : Int) := by omega
      have HSM := Lib.hid (implSum_any f)
      rw [sumR_yes hV, vdO_yes hV, hsi] at HSM
      clear hsi hV
      have h1g : ¬ (m : Int) > 1000 := by omega
      have h0g : ¬ (m : Int) < 0 := by omega
      generalize rd (11 * m) 5 = Q at *
      generalize plusF ((sumF f 16).toNat, 1) Q = R at *
      generalize (sumF f 16).toNat = s at *
      generalize 11 * m = q at *
      clear hb
      go_enter Try.func24, Try.ntmps24
      go_wp2_with ((with_reducible show wpList _ _ _ (Oper.mk _ (Op.load 29 _) _ _ _ _ :: _) _ _); refine loadB (K1) rfl rfl rfl ?_)
      refine (HSM.out _).mono ?_
      rintro _ w1 ⟨rfl, hb⟩
      have K1 := K1.below hb K1.lt
      have KR := KR.below hb KR.lt
      have HB : Hid (Below w.heap.size w w1) := HB.out.trans (hb.mono HB.out.size)
      clear hb
      go_wp2_with fail
      refine (whole_any _ s _ rfl).mono ?_
      rintro _ w3 ⟨rfl, hb⟩
      have K1 := K1.below hb K1.lt
      have KR := KR.below hb KR.lt
      have HB : Hid (Below w.heap.size w w3) := HB.out.trans (hb.mono HB.out.size)
      clear hb
      go_wp2_with fail
      refine (HRD.out _).mono ?_
      rintro _ w4 ⟨rfl, hb⟩
      have K1 := K1.below hb K1.lt
      have KR := KR.below hb KR.lt
      have HB : Hid (Below w.heap.size w w4) := HB.out.trans (hb.mono HB.out.size)
      clear hb
      go_wp2_with fail
      refine (HPL.out _).mono ?_
      rintro _ w5 ⟨rfl, hb⟩
      have K1 := K1.below hb K1.lt
      have KR := KR.below hb KR.lt
      have HB : Hid (Below w.heap.size w w5) := HB.out.trans (hb.mono HB.out.size)
      clear hb
      go_wp2_with ((with_reducible show wpList _ _ _ (Oper.mk _ (Op.store 26 _ _) _ _ _ _ :: _) _ _); refine storeC (KR) rfl rfl rfl rfl ?_)
      try simp only [Exit.inBlock, Exit.then]
      exact retctC (KR.row 2 _) rfl rfl rfl ⟨rfl, below_setRow HB.out (by omega) _⟩
    · have hno : ¬ MsOk f n := fun h => hn h.2
      have e0 : msF f n = (0, 0) := if_neg hno
      have e9 : msO f n = false := decide_eq_false hno
      rw [e0, e9, show mk 2 (fcF (0, 0)) = mk 2 fun _ => 0 from rfl]
      clear e0 e9
      have HN := Lib.hid (show n < 0 ∨ 1000 < n by omega)
      have HSM := Lib.hid (implSum_any f)
      rw [sumR_yes hV, vdO_yes hV] at HSM
      clear hno hn hV
      have hN := HN.out
      by_cases hl : n < 0
      · clear hN
        go_enter Try.func24, Try.ntmps24
        go_wp2_with ((with_reducible show wpList _ _ _ (Oper.mk _ (Op.load 29 _) _ _ _ _ :: _) _ _); refine loadB (K1) rfl rfl rfl ?_)
        refine (HSM.out _).mono ?_
        rintro _ w1 ⟨rfl, hb⟩
        have K1 := K1.below hb K1.lt
        have KR := KR.below hb KR.lt
        have HB : Hid (Below w.heap.size w w1) := HB.out.trans (hb.mono HB.out.size)
        clear hb
        go_wp2_with ((with_reducible show wpList _ _ _ (Oper.mk _ (Op.store 26 _ _) _ _ _ _ :: _) _ _); refine storeC (KR) rfl rfl rfl rfl ?_)
        try simp only [Exit.inBlock, Exit.then]
        exact retctC (KR.row 2 _) rfl rfl rfl ⟨rfl, below_setRow HB.out (by omega) _⟩
      · have hg : n > 1000 := by omega
        clear hN
        go_enter Try.func24, Try.ntmps24
        go_wp2_with ((with_reducible show wpList _ _ _ (Oper.mk _ (Op.load 29 _) _ _ _ _ :: _) _ _); refine loadB (K1) rfl rfl rfl ?_)
        refine (HSM.out _).mono ?_
        rintro _ w1 ⟨rfl, hb⟩
        have K1 := K1.below hb K1.lt
        have KR := KR.below hb KR.lt
        have HB : Hid (Below w.heap.size w w1) := HB.out.trans (hb.mono HB.out.size)
        clear hb
        go_wp2_with ((with_reducible show wpList _ _ _ (Oper.mk _ (Op.store 26 _ _) _ _ _ _ :: _) _ _); refine storeC (KR) rfl rfl rfl rfl ?_)
        try simp only [Exit.inBlock, Exit.then]
        exact retctC (KR.row 2 _) rfl rfl rfl ⟨rfl, below_setRow HB.out (by omega) _⟩
  · have hno : ¬ MsOk f n := fun h => hV h.1
    have e0 : msF f n = (0, 0) := if_neg hno
    have e9 : msO f n = false := decide_eq_false hno
    rw [e0, e9, show mk 2 (fcF (0, 0)) = mk 2 fun _ => 0 from rfl]
    clear e0 e9
    have HV := Lib.hid hV
    have HSM := Lib.hid (implSum_any f)
    rw [sumR_no hV, vdO_no hV] at HSM
    clear hno hV
    go_enter Try.func24, Try.ntmps24
    go_wp2_with ((with_reducible show wpList _ _ _ (Oper.mk _ (Op.load 29 _) _ _ _ _ :: _) _ _); refine loadB (K1) rfl rfl rfl ?_)
    refine (HSM.out _).mono ?_
    rintro _ w1 ⟨rfl, hb⟩
    have K1 := K1.below hb K1.lt
    have KR := KR.below hb KR.lt
    have HB : Hid (Below w.heap.size w w1) := HB.out.trans (hb.mono HB.out.size)
    clear hb
    go_wp2_with ((with_reducible show wpList _ _ _ (Oper.mk _ (Op.store 26 _ _) _ _ _ _ :: _) _ _); refine storeC (KR) rfl rfl rfl rfl ?_)
    try simp only [Exit.inBlock, Exit.then]
    exact retctC (KR.row 2 _) rfl rfl rfl ⟨rfl, below_setRow HB.out (by omega) _⟩
end Go.Proofs.Ytkocfpldgjfpeaa
