/-
  Proved: for every code, the law FnRowScores returns true, and the code reads as it did. No condition.
-/
import Derived.Test.YtfikbbhlenopfaaDrawRow
import Derived.Test.YtfikbbhlenopfaaRowsMost
import Derived.Test.YtfikbbhlenopfaaRowsSettle
import Derived.Test.YtfikbbhlenopfaaRowsTurn
import Derived.Test.YtfikbbhlenopfaaGuardsR
import Derived.Test.YtfikbbhlenopfaaClosed
namespace Go.Proofs.Ytfikbbhlenopfaa.fnRowScores
open Go.ChangeShapes Go.WideShapes Go.ChangeAt Go.RowKit Plain
attribute [local go_sem] store_new
set_option linter.unusedSimpArgs false
set_option maxHeartbeats 16000000 in
set_option maxRecDepth 100000 in
theorem walk (w : World) (_ : w.ShapedOpen Try.prog) (a0 : Option Addr) (len0 cap0 : Nat) (z0 : List Int) (hr : IsRow .u8 w a0 len0 cap0 z0) :
    Calls Try.prog 6 #[.slice a0 len0 cap0] w fun e w' => e = .returned (.bool true) ∧ Below w.heap.size w w' := by
  have z4 := zero4
  have HR := Lib.hid hr
  have HB : Hid (Below w.heap.size w w) := Below.refl w.heap.size w
  clear hr
  by_cases hl : len0 ≤ 65536
  · have dl : decide ((65536 : Int) < (len0 : Int)) = false := by simp; omega
    go_enter Try.func6, Try.ntmps6
    go_wp2_with fail
    refine (rBig_any a0 len0 cap0 _).mono ?_
    rintro e w' ⟨rfl, rfl⟩
    rw [dl]
    clear dl
    go_wp2_with fail
    refine (drawMostRowScore_any a0 len0 cap0 _ hl (HR.out.code)).mono ?_
    rintro e w1 ⟨f, rfl, hb⟩
    replace HB : Hid (Below w.heap.size w w1) := HB.out.trans (hb.mono HB.out.size)
    clear hb
    have K3 := Blk.new w1 4 f 24
    replace HB : Hid (Below w.heap.size w (w1.alloc (.cells (mk 4 f) 24))) := HB.out.alloc HB.out.size _
    by_cases hV : VdRow f
    · as_aux_lemma =>
        have hVO : rwO f = true := rwO_yes hV
        obtain ⟨MO, hMO⟩ : ∃ F, F = moR f := ⟨_, rfl⟩
        obtain ⟨R1, hR1⟩ : ∃ F, F = stR f := ⟨_, rfl⟩
        obtain ⟨T, hT⟩ : ∃ F, F = stT f := ⟨_, rfl⟩
        obtain ⟨TU, hTU⟩ : ∃ F, F = tuR f := ⟨_, rfl⟩
        obtain ⟨PR, hPR⟩ : ∃ F, F = rsM f := ⟨_, rfl⟩
        obtain ⟨SY, hSY⟩ : ∃ F, F = syR f := ⟨_, rfl⟩
        have iMO : Hid (∀ W, Calls Try.prog 88 #[.agg (mk 4 f)] W fun e w' => e = .returned (.tuple #[.int .i64 MO, .bool true]) ∧ Below W.heap.size W w') := by show ∀ W, _; rw [hMO, ← hVO]; exact implMost_any f
        have iST : Hid (∀ W, Calls Try.prog 90 #[.agg (mk 4 f)] W fun e w' => e = .returned (.tuple #[.agg (mk 4 R1), .int .i64 T, .bool true]) ∧ Below W.heap.size W w') := by show ∀ W, _; rw [hR1, hT, ← hVO]; exact implSettle_any f
        have iTU : Hid (∀ W, Calls Try.prog 92 #[.agg (mk 4 f)] W fun e w' => e = .returned (.tuple #[.agg (mk 4 TU), .bool true]) ∧ Below W.heap.size W w') := by show ∀ W, _; rw [hTU, ← hVO]; exact implTurn_any f
        have iPR : Hid (∀ W, Calls Try.prog 94 #[.agg (mk 4 f)] W fun e w' => e = .returned (.tuple #[.int .i64 PR, .bool true]) ∧ Below W.heap.size W w') := by show ∀ W, _; rw [hPR, ← hVO]; exact implPairs4_any f
        have iSY : Hid (∀ W, Calls Try.prog 96 #[.agg (mk 4 f)] W fun e w' => e = .returned (.tuple #[.bool SY, .bool true]) ∧ Below W.heap.size W w') := by show ∀ W, _; rw [hSY, ← hVO]; exact implSym_any f
        have sMO : Hid (∀ W, Calls Try.prog 89 #[.agg (mk 4 f)] W fun e w' => e = .returned (.tuple #[.int .i64 MO, .bool true]) ∧ Below W.heap.size W w') := by show ∀ W, _; rw [hMO, ← hVO]; exact specMost_any f
        have sST : Hid (∀ W, Calls Try.prog 91 #[.agg (mk 4 f)] W fun e w' => e = .returned (.tuple #[.agg (mk 4 R1), .int .i64 T, .bool true]) ∧ Below W.heap.size W w') := by show ∀ W, _; rw [hR1, hT, ← hVO]; exact specSettle_any f
        have sTU : Hid (∀ W, Calls Try.prog 93 #[.agg (mk 4 f)] W fun e w' => e = .returned (.tuple #[.agg (mk 4 TU), .bool true]) ∧ Below W.heap.size W w') := by show ∀ W, _; rw [hTU, ← hVO]; exact specTurn_any f
        have sPR : Hid (∀ W, Calls Try.prog 95 #[.agg (mk 4 f)] W fun e w' => e = .returned (.tuple #[.int .i64 PR, .bool true]) ∧ Below W.heap.size W w') := by show ∀ W, _; rw [hPR, ← hVO]; exact specPairs4_any f
        have sSY : Hid (∀ W, Calls Try.prog 97 #[.agg (mk 4 f)] W fun e w' => e = .returned (.tuple #[.bool SY, .bool true]) ∧ Below W.heap.size W w') := by show ∀ W, _; rw [hSY, ← hVO]; exact specSym_any f
        have hMOv : MO = mo 5 f := by rw [hMO, mo_yes hV]
        have hR1v : R1 = (st 5 f).1 := by rw [hR1, (st_yes hV).1]
        have hTv : T = ((st 5 f).2 : Int) := by rw [hT, (st_yes hV).2]
        have hTUv : TU = rev f := by rw [hTU, tu_yes hV]
        have hPRv : PR = (slid f 4).mg := by rw [hPR, (rs_yes hV).2.2.2]
        have hW : VdRow R1 := by rw [hR1v]; exact st_vd 5 f hV
        have hX : VdRow TU := by rw [hTUv]; exact rev_vd hV
        have hVN : VdRow (slid f 4).row := slid_vd hV
        obtain ⟨R2, hR2⟩ : ∃ F, F = (slid R1 4).row := ⟨_, rfl⟩
        obtain ⟨S2, hS2⟩ : ∃ F, F = (slid R1 4).sc := ⟨_, rfl⟩
        obtain ⟨N, hN⟩ : ∃ F, F = (slid f 4).row := ⟨_, rfl⟩
        obtain ⟨SC, hSC⟩ : ∃ F, F = (slid f 4).sc := ⟨_, rfl⟩
        obtain ⟨MN, hMN⟩ : ∃ F, F = mo 5 (slid f 4).row := ⟨_, rfl⟩
        have iS2 : Hid (∀ W, Calls Try.prog 77 #[.agg (mk 4 R1)] W fun e w' => e = .returned (.tuple #[.agg (mk 4 R2), .int .i64 S2, .bool true]) ∧ Below W.heap.size W w') := by show ∀ W, _; rw [hR2, hS2]; intro W; have h9 := implSlideRow_any R1 W; obtain ⟨y1, y2, y3, _⟩ := rs_yes hW; rw [y1, y2, y3] at h9; exact h9
        have iP2 : Hid (∀ W, Calls Try.prog 94 #[.agg (mk 4 TU)] W fun e w' => e = .returned (.tuple #[.int .i64 PR, .bool true]) ∧ Below W.heap.size W w') := by show ∀ W, _; intro W; have h9 := implPairs4_any TU W; obtain ⟨y1, _, _, y4⟩ := rs_yes hX; rw [y1, y4, hTUv, mg_rev, ← hPRv, ← hTUv] at h9; exact h9
        have iY2 : Hid (∀ W, Calls Try.prog 96 #[.agg (mk 4 TU)] W fun e w' => e = .returned (.tuple #[.bool SY, .bool true]) ∧ Below W.heap.size W w') := by show ∀ W, _; intro W; have h9 := implSym_any TU W; rw [rwO_yes hX, hTUv, syR_rev, ← hSY, ← hTUv] at h9; exact h9
        have iM2 : Hid (∀ W, Calls Try.prog 88 #[.agg (mk 4 TU)] W fun e w' => e = .returned (.tuple #[.int .i64 MO, .bool true]) ∧ Below W.heap.size W w') := by show ∀ W, _; intro W; have h9 := implMost_any TU W; rw [rwO_yes hX, mo_yes hX, hTUv, mo_rev, ← hMOv, ← hTUv] at h9; exact h9
        have iS3 : Hid (∀ W, Calls Try.prog 77 #[.agg (mk 4 f)] W fun e w' => e = .returned (.tuple #[.agg (mk 4 N), .int .i64 SC, .bool true]) ∧ Below W.heap.size W w') := by show ∀ W, _; rw [hN, hSC]; intro W; have h9 := implSlideRow_any f W; obtain ⟨y1, y2, y3, _⟩ := rs_yes hV; rw [y1, y2, y3] at h9; exact h9
        have iM3 : Hid (∀ W, Calls Try.prog 88 #[.agg (mk 4 N)] W fun e w' => e = .returned (.tuple #[.int .i64 MN, .bool true]) ∧ Below W.heap.size W w') := by show ∀ W, _; rw [hN, hMN]; intro W; have h9 := implMost_any (slid f 4).row W; rw [rwO_yes hVN, mo_yes hVN] at h9; exact h9
        have s3 : sameR R2 R1 = true := by rw [hR2, hR1v]; exact st_still 5 f hV (by have := ms_le f; omega)
        have hle : SC + MN ≤ MO := by rw [hSC, hMN, hMOv]; exact mo_first hV
        have b1 := sc_bd hV
        have b2 := mo_bd 5 _ hVN
        have e1 : IntKind.i64.wrap (SC + MN) = SC + MN := by rw [hSC, hMN]; exact IntWalk.i64_in _ (by omega)
        have hT4 : T ≤ 4 := by rw [hTv]; have := st_le 5 f hV; have := ms_le f; omega
        have d1 : decide (SC + MN ≤ MO) = true := decide_eq_true hle
        have d2 : decide (T ≤ 4) = true := decide_eq_true hT4
        clear hMO hR1 hT hTU hPR hSY hVO hMOv hR1v hTv hTUv hPRv hW hX hVN hR2 hS2 hN hSC hMN b1 b2 hV hle hT4
        have s1 : sameR R1 R1 = true := sameR_iff.2 fun _ _ => rfl
        have s2 : sameR TU TU = true := sameR_iff.2 fun _ _ => rfl
        have iN := neqR
        have iE : ∀ (f g : Nat → Int) (w : World), (Op.equalIn 10000 24 (.agg (mk 4 f)) (.agg (mk 4 g))).run Try.prog w = .ok (sameR f g) w := eqR 9998
        go_wp2_with (first | ((with_reducible show wpList _ _ _ (Oper.mk _ (Op.load 24 _) _ _ _ _ :: _) _ _); refine loadR (K3) rfl rfl rfl ?_) | ((with_reducible show wpList _ _ _ (Oper.mk _ (Op.load 24 _) _ _ _ (some _) :: _) _ _); refine loadgR (K3) rfl rfl rfl ?_))
        generalize w1.alloc (.cells (mk 4 f) 24) = w1a at *
        refine (iMO.out _).mono ?_
        rintro e w12 ⟨rfl, hb⟩
        replace K3 := K3.below hb K3.lt
        replace HB : Hid (Below w.heap.size w w12) := HB.out.trans (hb.mono HB.out.size)
        clear hb
        go_wp2_with (first | ((with_reducible show wpList _ _ _ (Oper.mk _ (Op.load 24 _) _ _ _ _ :: _) _ _); refine loadR (K3) rfl rfl rfl ?_) | ((with_reducible show wpList _ _ _ (Oper.mk _ (Op.load 24 _) _ _ _ (some _) :: _) _ _); refine loadgR (K3) rfl rfl rfl ?_))
        refine (sMO.out _).mono ?_
        rintro e w13 ⟨rfl, hb⟩
        replace K3 := K3.below hb K3.lt
        replace HB : Hid (Below w.heap.size w w13) := HB.out.trans (hb.mono HB.out.size)
        clear hb
        go_wp2_with (first | ((with_reducible show wpList _ _ _ (Oper.mk _ (Op.load 24 _) _ _ _ _ :: _) _ _); refine loadR (K3) rfl rfl rfl ?_) | ((with_reducible show wpList _ _ _ (Oper.mk _ (Op.load 24 _) _ _ _ (some _) :: _) _ _); refine loadgR (K3) rfl rfl rfl ?_))
        refine (iST.out _).mono ?_
        rintro e w14 ⟨rfl, hb⟩
        replace K3 := K3.below hb K3.lt
        replace HB : Hid (Below w.heap.size w w14) := HB.out.trans (hb.mono HB.out.size)
        clear hb
        replace K3 := K3.alloc (.cells (mk 4 R1) 24)
        have K8 := Blk.new w14 4 R1 24
        replace HB : Hid (Below w.heap.size w (w14.alloc (.cells (mk 4 R1) 24))) := HB.out.alloc HB.out.size _
        go_wp2_with (first | ((with_reducible show wpList _ _ _ (Oper.mk _ (Op.load 24 _) _ _ _ _ :: _) _ _); refine loadR (K3) rfl rfl rfl ?_) | ((with_reducible show wpList _ _ _ (Oper.mk _ (Op.load 24 _) _ _ _ (some _) :: _) _ _); refine loadgR (K3) rfl rfl rfl ?_))
        generalize w14.alloc (.cells (mk 4 R1) 24) = w14a at *
        refine (sST.out _).mono ?_
        rintro e w15 ⟨rfl, hb⟩
        replace K3 := K3.below hb K3.lt
        replace K8 := K8.below hb K8.lt
        replace HB : Hid (Below w.heap.size w w15) := HB.out.trans (hb.mono HB.out.size)
        clear hb
        replace K3 := K3.alloc (.cells (mk 4 R1) 24)
        replace K8 := K8.alloc (.cells (mk 4 R1) 24)
        have K11 := Blk.new w15 4 R1 24
        replace HB : Hid (Below w.heap.size w (w15.alloc (.cells (mk 4 R1) 24))) := HB.out.alloc HB.out.size _
        go_wp2_with (first | ((with_reducible show wpList _ _ _ (Oper.mk _ (Op.load 24 _) _ _ _ _ :: _) _ _); refine loadR (K3) rfl rfl rfl ?_) | ((with_reducible show wpList _ _ _ (Oper.mk _ (Op.load 24 _) _ _ _ (some _) :: _) _ _); refine loadgR (K3) rfl rfl rfl ?_) | ((with_reducible show wpList _ _ _ (Oper.mk _ (Op.load 24 _) _ _ _ _ :: _) _ _); refine loadR (K8) rfl rfl rfl ?_) | ((with_reducible show wpList _ _ _ (Oper.mk _ (Op.load 24 _) _ _ _ (some _) :: _) _ _); refine loadgR (K8) rfl rfl rfl ?_) | ((with_reducible show wpList _ _ _ (Oper.mk _ (Op.load 24 _) _ _ _ _ :: _) _ _); refine loadR (K11) rfl rfl rfl ?_) | ((with_reducible show wpList _ _ _ (Oper.mk _ (Op.load 24 _) _ _ _ (some _) :: _) _ _); refine loadgR (K11) rfl rfl rfl ?_))
        generalize w15.alloc (.cells (mk 4 R1) 24) = w15a at *
        refine (iTU.out _).mono ?_
        rintro e w16 ⟨rfl, hb⟩
        replace K3 := K3.below hb K3.lt
        replace K8 := K8.below hb K8.lt
        replace K11 := K11.below hb K11.lt
        replace HB : Hid (Below w.heap.size w w16) := HB.out.trans (hb.mono HB.out.size)
        clear hb
        replace K3 := K3.alloc (.cells (mk 4 TU) 24)
        replace K8 := K8.alloc (.cells (mk 4 TU) 24)
        replace K11 := K11.alloc (.cells (mk 4 TU) 24)
        have K14 := Blk.new w16 4 TU 24
        replace HB : Hid (Below w.heap.size w (w16.alloc (.cells (mk 4 TU) 24))) := HB.out.alloc HB.out.size _
        clear K11
        go_wp2_with (first | ((with_reducible show wpList _ _ _ (Oper.mk _ (Op.load 24 _) _ _ _ _ :: _) _ _); refine loadR (K3) rfl rfl rfl ?_) | ((with_reducible show wpList _ _ _ (Oper.mk _ (Op.load 24 _) _ _ _ (some _) :: _) _ _); refine loadgR (K3) rfl rfl rfl ?_))
        generalize w16.alloc (.cells (mk 4 TU) 24) = w16a at *
        refine (sTU.out _).mono ?_
        rintro e w17 ⟨rfl, hb⟩
        replace K3 := K3.below hb K3.lt
        replace K8 := K8.below hb K8.lt
        replace K14 := K14.below hb K14.lt
        replace HB : Hid (Below w.heap.size w w17) := HB.out.trans (hb.mono HB.out.size)
        clear hb
        replace K3 := K3.alloc (.cells (mk 4 TU) 24)
        replace K8 := K8.alloc (.cells (mk 4 TU) 24)
        replace K14 := K14.alloc (.cells (mk 4 TU) 24)
        have K16 := Blk.new w17 4 TU 24
        replace HB : Hid (Below w.heap.size w (w17.alloc (.cells (mk 4 TU) 24))) := HB.out.alloc HB.out.size _
        go_wp2_with (first | ((with_reducible show wpList _ _ _ (Oper.mk _ (Op.load 24 _) _ _ _ _ :: _) _ _); refine loadR (K3) rfl rfl rfl ?_) | ((with_reducible show wpList _ _ _ (Oper.mk _ (Op.load 24 _) _ _ _ (some _) :: _) _ _); refine loadgR (K3) rfl rfl rfl ?_) | ((with_reducible show wpList _ _ _ (Oper.mk _ (Op.load 24 _) _ _ _ _ :: _) _ _); refine loadR (K14) rfl rfl rfl ?_) | ((with_reducible show wpList _ _ _ (Oper.mk _ (Op.load 24 _) _ _ _ (some _) :: _) _ _); refine loadgR (K14) rfl rfl rfl ?_) | ((with_reducible show wpList _ _ _ (Oper.mk _ (Op.load 24 _) _ _ _ _ :: _) _ _); refine loadR (K16) rfl rfl rfl ?_) | ((with_reducible show wpList _ _ _ (Oper.mk _ (Op.load 24 _) _ _ _ (some _) :: _) _ _); refine loadgR (K16) rfl rfl rfl ?_))
        generalize w17.alloc (.cells (mk 4 TU) 24) = w17a at *
        refine (iPR.out _).mono ?_
        rintro e w18 ⟨rfl, hb⟩
        replace K3 := K3.below hb K3.lt
        replace K8 := K8.below hb K8.lt
        replace K14 := K14.below hb K14.lt
        replace K16 := K16.below hb K16.lt
        replace HB : Hid (Below w.heap.size w w18) := HB.out.trans (hb.mono HB.out.size)
        clear hb
        clear K16
        go_wp2_with (first | ((with_reducible show wpList _ _ _ (Oper.mk _ (Op.load 24 _) _ _ _ _ :: _) _ _); refine loadR (K3) rfl rfl rfl ?_) | ((with_reducible show wpList _ _ _ (Oper.mk _ (Op.load 24 _) _ _ _ (some _) :: _) _ _); refine loadgR (K3) rfl rfl rfl ?_))
        refine (sPR.out _).mono ?_
        rintro e w19 ⟨rfl, hb⟩
        replace K3 := K3.below hb K3.lt
        replace K8 := K8.below hb K8.lt
        replace K14 := K14.below hb K14.lt
        replace HB : Hid (Below w.heap.size w w19) := HB.out.trans (hb.mono HB.out.size)
        clear hb
        go_wp2_with (first | ((with_reducible show wpList _ _ _ (Oper.mk _ (Op.load 24 _) _ _ _ _ :: _) _ _); refine loadR (K3) rfl rfl rfl ?_) | ((with_reducible show wpList _ _ _ (Oper.mk _ (Op.load 24 _) _ _ _ (some _) :: _) _ _); refine loadgR (K3) rfl rfl rfl ?_))
        refine (iSY.out _).mono ?_
        rintro e w20 ⟨rfl, hb⟩
        replace K3 := K3.below hb K3.lt
        replace K8 := K8.below hb K8.lt
        replace K14 := K14.below hb K14.lt
        replace HB : Hid (Below w.heap.size w w20) := HB.out.trans (hb.mono HB.out.size)
        clear hb
        go_wp2_with (first | ((with_reducible show wpList _ _ _ (Oper.mk _ (Op.load 24 _) _ _ _ _ :: _) _ _); refine loadR (K3) rfl rfl rfl ?_) | ((with_reducible show wpList _ _ _ (Oper.mk _ (Op.load 24 _) _ _ _ (some _) :: _) _ _); refine loadgR (K3) rfl rfl rfl ?_))
        refine (sSY.out _).mono ?_
        rintro e w21 ⟨rfl, hb⟩
        replace K3 := K3.below hb K3.lt
        replace K8 := K8.below hb K8.lt
        replace K14 := K14.below hb K14.lt
        replace HB : Hid (Below w.heap.size w w21) := HB.out.trans (hb.mono HB.out.size)
        clear hb
        go_wp2_with (first | ((with_reducible show wpList _ _ _ (Oper.mk _ (Op.load 24 _) _ _ _ _ :: _) _ _); refine loadR (K8) rfl rfl rfl ?_) | ((with_reducible show wpList _ _ _ (Oper.mk _ (Op.load 24 _) _ _ _ (some _) :: _) _ _); refine loadgR (K8) rfl rfl rfl ?_))
        refine (iS2.out _).mono ?_
        rintro e w22 ⟨rfl, hb⟩
        replace K3 := K3.below hb K3.lt
        replace K8 := K8.below hb K8.lt
        replace K14 := K14.below hb K14.lt
        replace HB : Hid (Below w.heap.size w w22) := HB.out.trans (hb.mono HB.out.size)
        clear hb
        replace K3 := K3.alloc (.cells (mk 4 R2) 24)
        replace K8 := K8.alloc (.cells (mk 4 R2) 24)
        replace K14 := K14.alloc (.cells (mk 4 R2) 24)
        have K26 := Blk.new w22 4 R2 24
        replace HB : Hid (Below w.heap.size w (w22.alloc (.cells (mk 4 R2) 24))) := HB.out.alloc HB.out.size _
        go_wp2_with (first | ((with_reducible show wpList _ _ _ (Oper.mk _ (Op.load 24 _) _ _ _ _ :: _) _ _); refine loadR (K14) rfl rfl rfl ?_) | ((with_reducible show wpList _ _ _ (Oper.mk _ (Op.load 24 _) _ _ _ (some _) :: _) _ _); refine loadgR (K14) rfl rfl rfl ?_))
        generalize w22.alloc (.cells (mk 4 R2) 24) = w22a at *
        refine (iP2.out _).mono ?_
        rintro e w23 ⟨rfl, hb⟩
        replace K3 := K3.below hb K3.lt
        replace K8 := K8.below hb K8.lt
        replace K14 := K14.below hb K14.lt
        replace K26 := K26.below hb K26.lt
        replace HB : Hid (Below w.heap.size w w23) := HB.out.trans (hb.mono HB.out.size)
        clear hb
        go_wp2_with (first | ((with_reducible show wpList _ _ _ (Oper.mk _ (Op.load 24 _) _ _ _ _ :: _) _ _); refine loadR (K14) rfl rfl rfl ?_) | ((with_reducible show wpList _ _ _ (Oper.mk _ (Op.load 24 _) _ _ _ (some _) :: _) _ _); refine loadgR (K14) rfl rfl rfl ?_))
        refine (iY2.out _).mono ?_
        rintro e w24 ⟨rfl, hb⟩
        replace K3 := K3.below hb K3.lt
        replace K8 := K8.below hb K8.lt
        replace K14 := K14.below hb K14.lt
        replace K26 := K26.below hb K26.lt
        replace HB : Hid (Below w.heap.size w w24) := HB.out.trans (hb.mono HB.out.size)
        clear hb
        go_wp2_with (first | ((with_reducible show wpList _ _ _ (Oper.mk _ (Op.load 24 _) _ _ _ _ :: _) _ _); refine loadR (K14) rfl rfl rfl ?_) | ((with_reducible show wpList _ _ _ (Oper.mk _ (Op.load 24 _) _ _ _ (some _) :: _) _ _); refine loadgR (K14) rfl rfl rfl ?_))
        refine (iM2.out _).mono ?_
        rintro e w25 ⟨rfl, hb⟩
        replace K3 := K3.below hb K3.lt
        replace K8 := K8.below hb K8.lt
        replace K14 := K14.below hb K14.lt
        replace K26 := K26.below hb K26.lt
        replace HB : Hid (Below w.heap.size w w25) := HB.out.trans (hb.mono HB.out.size)
        clear hb
        go_wp2_with (first | ((with_reducible show wpList _ _ _ (Oper.mk _ (Op.load 24 _) _ _ _ _ :: _) _ _); refine loadR (K3) rfl rfl rfl ?_) | ((with_reducible show wpList _ _ _ (Oper.mk _ (Op.load 24 _) _ _ _ (some _) :: _) _ _); refine loadgR (K3) rfl rfl rfl ?_))
        refine (iS3.out _).mono ?_
        rintro e w26 ⟨rfl, hb⟩
        replace K3 := K3.below hb K3.lt
        replace K8 := K8.below hb K8.lt
        replace K14 := K14.below hb K14.lt
        replace K26 := K26.below hb K26.lt
        replace HB : Hid (Below w.heap.size w w26) := HB.out.trans (hb.mono HB.out.size)
        clear hb
        replace K3 := K3.alloc (.cells (mk 4 N) 24)
        replace K8 := K8.alloc (.cells (mk 4 N) 24)
        replace K14 := K14.alloc (.cells (mk 4 N) 24)
        replace K26 := K26.alloc (.cells (mk 4 N) 24)
        have K35 := Blk.new w26 4 N 24
        replace HB : Hid (Below w.heap.size w (w26.alloc (.cells (mk 4 N) 24))) := HB.out.alloc HB.out.size _
        go_wp2_with (first | ((with_reducible show wpList _ _ _ (Oper.mk _ (Op.load 24 _) _ _ _ _ :: _) _ _); refine loadR (K35) rfl rfl rfl ?_) | ((with_reducible show wpList _ _ _ (Oper.mk _ (Op.load 24 _) _ _ _ (some _) :: _) _ _); refine loadgR (K35) rfl rfl rfl ?_))
        generalize w26.alloc (.cells (mk 4 N) 24) = w26a at *
        refine (iM3.out _).mono ?_
        rintro e w27 ⟨rfl, hb⟩
        replace K3 := K3.below hb K3.lt
        replace K8 := K8.below hb K8.lt
        replace K14 := K14.below hb K14.lt
        replace K26 := K26.below hb K26.lt
        replace K35 := K35.below hb K35.lt
        replace HB : Hid (Below w.heap.size w w27) := HB.out.trans (hb.mono HB.out.size)
        clear hb
        go_wp2_with (first | ((with_reducible show wpList _ _ _ (Oper.mk _ (Op.load 24 _) _ _ _ _ :: _) _ _); refine loadR (K26) rfl rfl rfl ?_) | ((with_reducible show wpList _ _ _ (Oper.mk _ (Op.load 24 _) _ _ _ (some _) :: _) _ _); refine loadgR (K26) rfl rfl rfl ?_) | ((with_reducible show wpList _ _ _ (Oper.mk _ (Op.load 24 _) _ _ _ _ :: _) _ _); refine loadR (K8) rfl rfl rfl ?_) | ((with_reducible show wpList _ _ _ (Oper.mk _ (Op.load 24 _) _ _ _ (some _) :: _) _ _); refine loadgR (K8) rfl rfl rfl ?_))
        go_ret
        exact ⟨rfl, HB.out⟩
    · as_aux_lemma =>
        have hVO : rwO f = false := rwO_no hV
        obtain ⟨MO, hMO⟩ : ∃ F, F = moR f := ⟨_, rfl⟩
        obtain ⟨R1, hR1⟩ : ∃ F, F = stR f := ⟨_, rfl⟩
        obtain ⟨T, hT⟩ : ∃ F, F = stT f := ⟨_, rfl⟩
        obtain ⟨TU, hTU⟩ : ∃ F, F = tuR f := ⟨_, rfl⟩
        obtain ⟨PR, hPR⟩ : ∃ F, F = rsM f := ⟨_, rfl⟩
        obtain ⟨SY, hSY⟩ : ∃ F, F = syR f := ⟨_, rfl⟩
        have iMO : Hid (∀ W, Calls Try.prog 88 #[.agg (mk 4 f)] W fun e w' => e = .returned (.tuple #[.int .i64 MO, .bool false]) ∧ Below W.heap.size W w') := by show ∀ W, _; rw [hMO, ← hVO]; exact implMost_any f
        have iST : Hid (∀ W, Calls Try.prog 90 #[.agg (mk 4 f)] W fun e w' => e = .returned (.tuple #[.agg (mk 4 R1), .int .i64 T, .bool false]) ∧ Below W.heap.size W w') := by show ∀ W, _; rw [hR1, hT, ← hVO]; exact implSettle_any f
        have iTU : Hid (∀ W, Calls Try.prog 92 #[.agg (mk 4 f)] W fun e w' => e = .returned (.tuple #[.agg (mk 4 TU), .bool false]) ∧ Below W.heap.size W w') := by show ∀ W, _; rw [hTU, ← hVO]; exact implTurn_any f
        have iPR : Hid (∀ W, Calls Try.prog 94 #[.agg (mk 4 f)] W fun e w' => e = .returned (.tuple #[.int .i64 PR, .bool false]) ∧ Below W.heap.size W w') := by show ∀ W, _; rw [hPR, ← hVO]; exact implPairs4_any f
        have iSY : Hid (∀ W, Calls Try.prog 96 #[.agg (mk 4 f)] W fun e w' => e = .returned (.tuple #[.bool SY, .bool false]) ∧ Below W.heap.size W w') := by show ∀ W, _; rw [hSY, ← hVO]; exact implSym_any f
        have sMO : Hid (∀ W, Calls Try.prog 89 #[.agg (mk 4 f)] W fun e w' => e = .returned (.tuple #[.int .i64 MO, .bool false]) ∧ Below W.heap.size W w') := by show ∀ W, _; rw [hMO, ← hVO]; exact specMost_any f
        have sST : Hid (∀ W, Calls Try.prog 91 #[.agg (mk 4 f)] W fun e w' => e = .returned (.tuple #[.agg (mk 4 R1), .int .i64 T, .bool false]) ∧ Below W.heap.size W w') := by show ∀ W, _; rw [hR1, hT, ← hVO]; exact specSettle_any f
        have sTU : Hid (∀ W, Calls Try.prog 93 #[.agg (mk 4 f)] W fun e w' => e = .returned (.tuple #[.agg (mk 4 TU), .bool false]) ∧ Below W.heap.size W w') := by show ∀ W, _; rw [hTU, ← hVO]; exact specTurn_any f
        have sPR : Hid (∀ W, Calls Try.prog 95 #[.agg (mk 4 f)] W fun e w' => e = .returned (.tuple #[.int .i64 PR, .bool false]) ∧ Below W.heap.size W w') := by show ∀ W, _; rw [hPR, ← hVO]; exact specPairs4_any f
        have sSY : Hid (∀ W, Calls Try.prog 97 #[.agg (mk 4 f)] W fun e w' => e = .returned (.tuple #[.bool SY, .bool false]) ∧ Below W.heap.size W w') := by show ∀ W, _; rw [hSY, ← hVO]; exact specSym_any f
        clear hMO hR1 hT hTU hPR hSY hV hVO
        have s1 : sameR R1 R1 = true := sameR_iff.2 fun _ _ => rfl
        have s2 : sameR TU TU = true := sameR_iff.2 fun _ _ => rfl
        have iN := neqR
        go_wp2_with (first | ((with_reducible show wpList _ _ _ (Oper.mk _ (Op.load 24 _) _ _ _ _ :: _) _ _); refine loadR (K3) rfl rfl rfl ?_) | ((with_reducible show wpList _ _ _ (Oper.mk _ (Op.load 24 _) _ _ _ (some _) :: _) _ _); refine loadgR (K3) rfl rfl rfl ?_))
        generalize w1.alloc (.cells (mk 4 f) 24) = w1a at *
        refine (iMO.out _).mono ?_
        rintro e w2 ⟨rfl, hb⟩
        replace K3 := K3.below hb K3.lt
        replace HB : Hid (Below w.heap.size w w2) := HB.out.trans (hb.mono HB.out.size)
        clear hb
        go_wp2_with (first | ((with_reducible show wpList _ _ _ (Oper.mk _ (Op.load 24 _) _ _ _ _ :: _) _ _); refine loadR (K3) rfl rfl rfl ?_) | ((with_reducible show wpList _ _ _ (Oper.mk _ (Op.load 24 _) _ _ _ (some _) :: _) _ _); refine loadgR (K3) rfl rfl rfl ?_))
        refine (sMO.out _).mono ?_
        rintro e w3 ⟨rfl, hb⟩
        replace K3 := K3.below hb K3.lt
        replace HB : Hid (Below w.heap.size w w3) := HB.out.trans (hb.mono HB.out.size)
        clear hb
        go_wp2_with (first | ((with_reducible show wpList _ _ _ (Oper.mk _ (Op.load 24 _) _ _ _ _ :: _) _ _); refine loadR (K3) rfl rfl rfl ?_) | ((with_reducible show wpList _ _ _ (Oper.mk _ (Op.load 24 _) _ _ _ (some _) :: _) _ _); refine loadgR (K3) rfl rfl rfl ?_))
        refine (iST.out _).mono ?_
        rintro e w4 ⟨rfl, hb⟩
        replace K3 := K3.below hb K3.lt
        replace HB : Hid (Below w.heap.size w w4) := HB.out.trans (hb.mono HB.out.size)
        clear hb
        replace K3 := K3.alloc (.cells (mk 4 R1) 24)
        have K8 := Blk.new w4 4 R1 24
        replace HB : Hid (Below w.heap.size w (w4.alloc (.cells (mk 4 R1) 24))) := HB.out.alloc HB.out.size _
        go_wp2_with (first | ((with_reducible show wpList _ _ _ (Oper.mk _ (Op.load 24 _) _ _ _ _ :: _) _ _); refine loadR (K3) rfl rfl rfl ?_) | ((with_reducible show wpList _ _ _ (Oper.mk _ (Op.load 24 _) _ _ _ (some _) :: _) _ _); refine loadgR (K3) rfl rfl rfl ?_))
        generalize w4.alloc (.cells (mk 4 R1) 24) = w4a at *
        refine (sST.out _).mono ?_
        rintro e w5 ⟨rfl, hb⟩
        replace K3 := K3.below hb K3.lt
        replace K8 := K8.below hb K8.lt
        replace HB : Hid (Below w.heap.size w w5) := HB.out.trans (hb.mono HB.out.size)
        clear hb
        replace K3 := K3.alloc (.cells (mk 4 R1) 24)
        replace K8 := K8.alloc (.cells (mk 4 R1) 24)
        have K11 := Blk.new w5 4 R1 24
        replace HB : Hid (Below w.heap.size w (w5.alloc (.cells (mk 4 R1) 24))) := HB.out.alloc HB.out.size _
        go_wp2_with (first | ((with_reducible show wpList _ _ _ (Oper.mk _ (Op.load 24 _) _ _ _ _ :: _) _ _); refine loadR (K3) rfl rfl rfl ?_) | ((with_reducible show wpList _ _ _ (Oper.mk _ (Op.load 24 _) _ _ _ (some _) :: _) _ _); refine loadgR (K3) rfl rfl rfl ?_) | ((with_reducible show wpList _ _ _ (Oper.mk _ (Op.load 24 _) _ _ _ _ :: _) _ _); refine loadR (K8) rfl rfl rfl ?_) | ((with_reducible show wpList _ _ _ (Oper.mk _ (Op.load 24 _) _ _ _ (some _) :: _) _ _); refine loadgR (K8) rfl rfl rfl ?_) | ((with_reducible show wpList _ _ _ (Oper.mk _ (Op.load 24 _) _ _ _ _ :: _) _ _); refine loadR (K11) rfl rfl rfl ?_) | ((with_reducible show wpList _ _ _ (Oper.mk _ (Op.load 24 _) _ _ _ (some _) :: _) _ _); refine loadgR (K11) rfl rfl rfl ?_))
        generalize w5.alloc (.cells (mk 4 R1) 24) = w5a at *
        refine (iTU.out _).mono ?_
        rintro e w6 ⟨rfl, hb⟩
        replace K3 := K3.below hb K3.lt
        replace K8 := K8.below hb K8.lt
        replace K11 := K11.below hb K11.lt
        replace HB : Hid (Below w.heap.size w w6) := HB.out.trans (hb.mono HB.out.size)
        clear hb
        replace K3 := K3.alloc (.cells (mk 4 TU) 24)
        replace K8 := K8.alloc (.cells (mk 4 TU) 24)
        replace K11 := K11.alloc (.cells (mk 4 TU) 24)
        have K14 := Blk.new w6 4 TU 24
        replace HB : Hid (Below w.heap.size w (w6.alloc (.cells (mk 4 TU) 24))) := HB.out.alloc HB.out.size _
        clear K11
        go_wp2_with (first | ((with_reducible show wpList _ _ _ (Oper.mk _ (Op.load 24 _) _ _ _ _ :: _) _ _); refine loadR (K3) rfl rfl rfl ?_) | ((with_reducible show wpList _ _ _ (Oper.mk _ (Op.load 24 _) _ _ _ (some _) :: _) _ _); refine loadgR (K3) rfl rfl rfl ?_))
        generalize w6.alloc (.cells (mk 4 TU) 24) = w6a at *
        refine (sTU.out _).mono ?_
        rintro e w7 ⟨rfl, hb⟩
        replace K3 := K3.below hb K3.lt
        replace K8 := K8.below hb K8.lt
        replace K14 := K14.below hb K14.lt
        replace HB : Hid (Below w.heap.size w w7) := HB.out.trans (hb.mono HB.out.size)
        clear hb
        replace K3 := K3.alloc (.cells (mk 4 TU) 24)
        replace K8 := K8.alloc (.cells (mk 4 TU) 24)
        replace K14 := K14.alloc (.cells (mk 4 TU) 24)
        have K16 := Blk.new w7 4 TU 24
        replace HB : Hid (Below w.heap.size w (w7.alloc (.cells (mk 4 TU) 24))) := HB.out.alloc HB.out.size _
        go_wp2_with (first | ((with_reducible show wpList _ _ _ (Oper.mk _ (Op.load 24 _) _ _ _ _ :: _) _ _); refine loadR (K3) rfl rfl rfl ?_) | ((with_reducible show wpList _ _ _ (Oper.mk _ (Op.load 24 _) _ _ _ (some _) :: _) _ _); refine loadgR (K3) rfl rfl rfl ?_) | ((with_reducible show wpList _ _ _ (Oper.mk _ (Op.load 24 _) _ _ _ _ :: _) _ _); refine loadR (K14) rfl rfl rfl ?_) | ((with_reducible show wpList _ _ _ (Oper.mk _ (Op.load 24 _) _ _ _ (some _) :: _) _ _); refine loadgR (K14) rfl rfl rfl ?_) | ((with_reducible show wpList _ _ _ (Oper.mk _ (Op.load 24 _) _ _ _ _ :: _) _ _); refine loadR (K16) rfl rfl rfl ?_) | ((with_reducible show wpList _ _ _ (Oper.mk _ (Op.load 24 _) _ _ _ (some _) :: _) _ _); refine loadgR (K16) rfl rfl rfl ?_))
        generalize w7.alloc (.cells (mk 4 TU) 24) = w7a at *
        refine (iPR.out _).mono ?_
        rintro e w8 ⟨rfl, hb⟩
        replace K3 := K3.below hb K3.lt
        replace K8 := K8.below hb K8.lt
        replace K14 := K14.below hb K14.lt
        replace K16 := K16.below hb K16.lt
        replace HB : Hid (Below w.heap.size w w8) := HB.out.trans (hb.mono HB.out.size)
        clear hb
        clear K16
        go_wp2_with (first | ((with_reducible show wpList _ _ _ (Oper.mk _ (Op.load 24 _) _ _ _ _ :: _) _ _); refine loadR (K3) rfl rfl rfl ?_) | ((with_reducible show wpList _ _ _ (Oper.mk _ (Op.load 24 _) _ _ _ (some _) :: _) _ _); refine loadgR (K3) rfl rfl rfl ?_))
        refine (sPR.out _).mono ?_
        rintro e w9 ⟨rfl, hb⟩
        replace K3 := K3.below hb K3.lt
        replace K8 := K8.below hb K8.lt
        replace K14 := K14.below hb K14.lt
        replace HB : Hid (Below w.heap.size w w9) := HB.out.trans (hb.mono HB.out.size)
        clear hb
        go_wp2_with (first | ((with_reducible show wpList _ _ _ (Oper.mk _ (Op.load 24 _) _ _ _ _ :: _) _ _); refine loadR (K3) rfl rfl rfl ?_) | ((with_reducible show wpList _ _ _ (Oper.mk _ (Op.load 24 _) _ _ _ (some _) :: _) _ _); refine loadgR (K3) rfl rfl rfl ?_))
        refine (iSY.out _).mono ?_
        rintro e w10 ⟨rfl, hb⟩
        replace K3 := K3.below hb K3.lt
        replace K8 := K8.below hb K8.lt
        replace K14 := K14.below hb K14.lt
        replace HB : Hid (Below w.heap.size w w10) := HB.out.trans (hb.mono HB.out.size)
        clear hb
        go_wp2_with (first | ((with_reducible show wpList _ _ _ (Oper.mk _ (Op.load 24 _) _ _ _ _ :: _) _ _); refine loadR (K3) rfl rfl rfl ?_) | ((with_reducible show wpList _ _ _ (Oper.mk _ (Op.load 24 _) _ _ _ (some _) :: _) _ _); refine loadgR (K3) rfl rfl rfl ?_))
        refine (sSY.out _).mono ?_
        rintro e w11 ⟨rfl, hb⟩
        replace K3 := K3.below hb K3.lt
        replace K8 := K8.below hb K8.lt
        replace K14 := K14.below hb K14.lt
        replace HB : Hid (Below w.heap.size w w11) := HB.out.trans (hb.mono HB.out.size)
        clear hb
        go_wp2_with fail
        go_ret
        exact ⟨rfl, HB.out⟩
  · have dl : decide ((65536 : Int) < (len0 : Int)) = true := by simp; omega
    go_enter Try.func6, Try.ntmps6
    go_wp2_with fail
    refine (rBig_any a0 len0 cap0 _).mono ?_
    rintro e w' ⟨rfl, rfl⟩
    rw [dl]
    go_wp2_with fail
    go_ret
    exact ⟨rfl, HB.out⟩

noncomputable def laidWorld (os : Os) : World := World.holding Try.prog os ⟨#[], #[], []⟩
theorem laid_met (os : Os) : laidMet Try.prog Rows.fnRowScoresRow.laid ((laidWorld os).forCall (fun _ _ => 0) ⟨#[], #[.slice none 0 0], []⟩).memory := laidMet_of_run' 8 (by kernel_rfl) (by kernel_rfl)
theorem reads (os : Os) {H : Type} (enc : TypeId × Value → H) : ∃ places, DataW.whole enc Try.prog ((laidWorld os).forCall (fun _ _ => 0) ⟨#[], #[.slice none 0 0], []⟩).memory Try.f6.params.toList Rows.fnRowScoresSpec.vars false #[.slice none 0 0].toList 8 = some ([.nil], [], places) :=
  ⟨[], by kernel_rfl⟩
set_option linter.unusedVariables false in
set_option maxRecDepth 100000 in
theorem lifted (os : Os) (started : os.Started) (H : Type) (enc : TypeId × Value → H) (F : Stop.Interp) :
    ReturnsInHanded {} Try.checked os 6 .any ((OpenSpec.ofChange Rows.fnRowScoresSpec).preRow enc Try.prog Try.f6 Rows.fnRowScoresRow.domain false Rows.fnRowScoresRow.laid) (((OpenSpec.ofChange Rows.fnRowScoresSpec).at F).post enc Try.prog Try.f6 false true false false) := by
  obtain ⟨places, hx⟩ := reads os enc
  refine returnsInHanded_of_row (C := Try.checked) (s := (OpenSpec.ofChange Rows.fnRowScoresSpec)) own started (by kernel_rfl) Try.func6
    (witness_row_at (enc := enc) (C := Try.checked) false (laidWorld os) #[.slice none 0 0] rfl (by kernel_rfl) (by kernel_rfl) (by kernel_rfl)
      (OpenSpec.preRow_of_cond 8 hx (by kernel_rfl) (fun k hk => by cases hk) (by kernel_rfl) (laid_met os))) ?_
  intro W base args ds gs before hval0 hW _ hcond hsz hL hsh _
  have hval : ∀ (j : Nat) t v, Try.f6.params[j]? = some t → args[j]? = some v → Value.okWide Try.prog W .any base t v := hval0
  have hW' := hW
  obtain ⟨p, q, hA0, hV, rfl, hfz, hnd⟩ := hW
  have hA : DataW.TrodAll enc Try.prog W 0 (fun _ => true) true Try.f6.params.toList args.toList ds p := hA0
  rw [Try.params6] at hA hval
  obtain ⟨v0, vs0, d0, ds0, p0, q0, hargs, rfl, rfl, h0, r0⟩ := trodAll_cons hA
  obtain ⟨rfl, rfl, rfl⟩ := trodAll_nil r0
  obtain rfl : args = #[v0] := by cases args; simp_all
  obtain ⟨rfl, rfl⟩ := trodVars_none hV
  obtain ⟨a0, len0, cap0, rfl⟩ := okWide_slice Try.underlying22 (hval 0 22 v0 rfl rfl)
  have k0 := h0
  have lt0 : ∀ x ∈ p0, x.block < W.heap.size := by obtain ⟨m, hm⟩ := k0; exact DataW.trod_lt m _ _ _ hm
  obtain ⟨z0, w0⟩ : ∃ zs, IsRow .u8 W a0 len0 cap0 zs := by
    obtain ⟨fuel, hf⟩ := h0
    rcases open_ints Try.underlying22 Try.underlying5 (by kernel_rfl) hf with ⟨hcs, _⟩ | ⟨x, l, c, zs, hcs, _, hl, hm, hz, _, hcell, hwz⟩
    · simp [Value.cells] at hcs; obtain ⟨rfl, rfl, rfl⟩ := hcs; exact ⟨[], .inl ⟨rfl, rfl, rfl, rfl⟩⟩
    · simp [Value.cells] at hcs; obtain ⟨rfl, rfl, rfl⟩ := hcs; exact ⟨zs, .inr ⟨_, rfl, hl, hm, by simpa using hz, hcell, hwz⟩⟩
  clear hA0 hval0
  have hwalk : Calls Try.prog 6 #[.slice a0 len0 cap0] W fun e w' => e = .returned (.bool true) ∧ Below W.heap.size W w' := walk W hsh a0 len0 cap0 z0 w0
  refine hwalk.mono fun e W' ⟨he, bel⟩ => ?_
  subst he
  exact ⟨_, rfl, _, _, _, [], _, [], hW', trodAll_mk1 (shut_bool Try.underlying4 _), (trodAll_cons_mk (Below.trod laidOut (by kernel_rfl) (of_decide_eq_true (by kernel_rfl)) k0 bel lt0) trodAll_mk0), rfl, bel.frame _, fun h => by cases h⟩
theorem closed : joinedFacts Try.pinned.checked.prog 6 Try.f6 ((OpenSpec.ofChange Rows.fnRowScoresSpec)).bare Rows.fnRowScoresRow = true := by
  unfold joinedFacts
  repeat' with_reducible refine and_mk ?_ ?_
  case refine_1.refine_1.refine_1.refine_1.refine_1.refine_1.refine_2 => exact enters
  case refine_1.refine_1.refine_1.refine_1.refine_1.refine_2 => exact (show (Rows.fnRowScoresRow.lifted == Try.prog.liftsFinal) = true by rw [final_no]; rfl)
  case refine_1.refine_1.refine_1.refine_1.refine_2 => exact (show (Try.prog.make == some Rows.fnRowScoresRow.make) = true by rw [make_cut]; rfl)
  case refine_1.refine_1.refine_1.refine_1.refine_1.refine_1.refine_1.refine_1.refine_1.refine_1.refine_1.refine_1.refine_1.refine_1.refine_1.refine_1.refine_1.refine_1.refine_1.refine_1.refine_1.refine_1.refine_1.refine_1.refine_1.refine_1.refine_1.refine_1.refine_1.refine_1.refine_2 => exact laidOut
  case refine_1.refine_1.refine_1.refine_1.refine_1.refine_1.refine_1.refine_1.refine_1.refine_1.refine_1.refine_1.refine_1.refine_1.refine_1.refine_1.refine_1.refine_1.refine_1.refine_1.refine_1.refine_1.refine_1.refine_1.refine_1.refine_1.refine_1.refine_1.refine_1.refine_2 => exact maps_rowed
  case refine_1.refine_1.refine_1.refine_1.refine_1.refine_1.refine_1.refine_2 => exact stops_heard
  all_goals (as_aux_lemma => kernel_rfl)
theorem proved : Rows.FnRowScoresSaid :=
  OpenClaim.holds_of_cond 6 Try.f6 rfl rfl rfl rfl rfl rfl rfl ⟨rfl, rfl, rfl, rfl, rfl⟩ rfl rfl rfl rfl rfl (by kernel_rfl) Try.func6 closed
    (of_decide_eq_true (by kernel_rfl)) (by unfold Func.isWrapper; first | (rw [if_pos (by decide +kernel)]; kernel_rfl) | (rw [if_neg (by decide +kernel)]; exact ⟨rfl, rfl⟩))
    (fun os started H enc _ F => by rw [OpenClaim.pre_eq_preRow]; exact lifted os started H enc F)
#print axioms proved
end Go.Proofs.Ytfikbbhlenopfaa.fnRowScores
