/-
  Proved: for every code, the law FnRowsBack returns true, and the code reads as it did. No condition.
-/
import Derived.Test.YtpiegllffkjneaaRowHelp4
import Derived.Test.YtpiegllffkjneaaRbPlain
import Derived.Test.YtpiegllffkjneaaSpecCountIm
import Derived.Test.YtpiegllffkjneaaRowsB
import Derived.Test.YtpiegllffkjneaaBaseA
import Derived.Test.YtpiegllffkjneaaClosed
namespace Go.Proofs.Ytpiegllffkjneaa.fnRowsBack
open Go.ChangeShapes Go.WideShapes Go.ChangeAt Go.RowKit Plain
attribute [local go_sem] store_new
set_option linter.unusedSimpArgs false
set_option linter.unusedVariables false
set_option maxHeartbeats 16000000 in
set_option maxRecDepth 100000 in
theorem walk (w : World) (_ : w.ShapedOpen Try.prog) (a0 : Option Addr) (len0 cap0 : Nat) (z0 : List Int) (hr : IsRow .u8 w a0 len0 cap0 z0) :
    Calls Try.prog 5 #[.slice a0 len0 cap0] w fun e w' => e = .returned (.bool true) ∧ Below w.heap.size w w' := by
  have z4 := zero4
  have HR := Lib.hid hr
  have HB : Hid (Below w.heap.size w w) := Below.refl w.heap.size w
  clear hr
  by_cases hl : len0 ≤ 65536
  · have dl : decide ((65536 : Int) < (len0 : Int)) = false := by simp; omega
    go_enter Try.func5, Try.ntmps5
    go_wp2_with fail
    refine (rBig_any a0 len0 cap0 _).mono ?_
    rintro e w' ⟨rfl, rfl⟩
    rw [dl]
    clear dl
    go_wp2_with fail
    refine (drawRowsBefore_any a0 len0 cap0 _ hl (HR.out.code)).mono ?_
    rintro e w1 ⟨f, rfl, hb⟩
    replace HB : Hid (Below w.heap.size w w1) := HB.out.trans (hb.mono HB.out.size)
    clear hb
    have K3 := Blk.new w1 4 f 24
    replace HB : Hid (Below w.heap.size w (w1.alloc (.cells (mk 4 f) 24))) := HB.out.alloc HB.out.size _
    by_cases hV : VdRow f
    · cases hi : imR f with
      | true =>
        as_aux_lemma =>
          have hVO : rwO f = true := rwO_yes hV
          obtain ⟨n1, hn1⟩ : ∃ F, F = (rbR f).length := ⟨_, rfl⟩
          obtain ⟨h1, hh1⟩ : ∃ F, F = flatF (rbR f) := ⟨_, rfl⟩
          obtain ⟨IM, hIM⟩ : ∃ F, F = imR f := ⟨_, rfl⟩
          obtain ⟨FL, hFL⟩ : ∃ F, F = flR f := ⟨_, rfl⟩
          obtain ⟨N, hN⟩ : ∃ F, F = rsR f := ⟨_, rfl⟩
          obtain ⟨SC, hSC⟩ : ∃ F, F = rsS f := ⟨_, rfl⟩
          obtain ⟨NU, hNU⟩ : ∃ F, F = nuR f := ⟨_, rfl⟩
          have iRB : Hid (∀ W, Calls Try.prog 58 #[.agg (mk 4 f)] W fun e w' => ∃ g c, e = .returned (.tuple #[.slice (some ⟨g, 0, none⟩) n1 c, .bool true]) ∧ KRow 4 w' (.slice (some ⟨g, 0, none⟩) n1 c) n1 h1 ∧ Below W.heap.size W w') := by show ∀ W, _; intro W; rw [hn1, hh1, ← hVO]; exact (implBefore_any f W).mono fun e w' ⟨g, c, q1, q2, q3⟩ => ⟨g, c, q1, KRow.of_list (rbR_all f) q2, q3⟩
          have sRB : Hid (∀ W, Calls Try.prog 59 #[.agg (mk 4 f)] W fun e w' => ∃ g c, e = .returned (.tuple #[.slice (some ⟨g, 0, none⟩) n1 c, .bool true]) ∧ KRow 4 w' (.slice (some ⟨g, 0, none⟩) n1 c) n1 h1 ∧ Below W.heap.size W w') := by show ∀ W, _; intro W; rw [hn1, hh1, ← hVO]; exact (specBefore_any f W).mono fun e w' ⟨g, c, q1, q2, q3⟩ => ⟨g, c, q1, KRow.of_list (rbR_all f) q2, q3⟩
          have iIR : Hid (∀ W, Calls Try.prog 60 #[.agg (mk 4 f)] W fun e w' => e = .returned (.bool true) ∧ Below W.heap.size W w') := by show ∀ W, _; rw [← hVO]; exact implIsRow_any f
          have iIM : Hid (∀ W, Calls Try.prog 62 #[.agg (mk 4 f)] W fun e w' => e = .returned (.tuple #[.bool IM, .bool true]) ∧ Below W.heap.size W w') := by show ∀ W, _; rw [hIM, ← hVO]; exact implImage_any f
          have iFL : Hid (∀ W, Calls Try.prog 64 #[.agg (mk 4 f)] W fun e w' => e = .returned (.tuple #[.bool FL, .bool true]) ∧ Below W.heap.size W w') := by show ∀ W, _; rw [hFL, ← hVO]; exact implFlush_any f
          have iSR : Hid (∀ W, Calls Try.prog 66 #[.agg (mk 4 f)] W fun e w' => e = .returned (.tuple #[.agg (mk 4 N), .int .i64 SC, .bool true]) ∧ Below W.heap.size W w') := by show ∀ W, _; rw [hN, hSC, ← hVO]; exact implSlideRow_any f
          have iNU : Hid (∀ W, Calls Try.prog 68 #[.agg (mk 4 f)] W fun e w' => e = .returned (.tuple #[.int .i64 NU, .bool true]) ∧ Below W.heap.size W w') := by show ∀ W, _; rw [hNU, ← hVO]; exact implNum_any f
          have sIM : Hid (∀ W, Calls Try.prog 63 #[.agg (mk 4 f)] W fun e w' => e = .returned (.tuple #[.bool IM, .bool true]) ∧ Below W.heap.size W w') := by show ∀ W, _; rw [hIM, ← hVO]; exact specImage_any f
          have sFL : Hid (∀ W, Calls Try.prog 65 #[.agg (mk 4 f)] W fun e w' => e = .returned (.tuple #[.bool FL, .bool true]) ∧ Below W.heap.size W w') := by show ∀ W, _; rw [hFL, ← hVO]; exact specFlush_any f
          have sSR : Hid (∀ W, Calls Try.prog 67 #[.agg (mk 4 f)] W fun e w' => e = .returned (.tuple #[.agg (mk 4 N), .int .i64 SC, .bool true]) ∧ Below W.heap.size W w') := by show ∀ W, _; rw [hN, hSC, ← hVO]; exact specSlideRow_any f
          have sNU : Hid (∀ W, Calls Try.prog 69 #[.agg (mk 4 f)] W fun e w' => e = .returned (.tuple #[.int .i64 NU, .bool true]) ∧ Below W.heap.size W w') := by show ∀ W, _; rw [hNU, ← hVO]; exact specNum_any f
          have hn15 : n1 ≤ 15 := by rw [hn1]; exact rbR_15 f
          have dI : decide (0 < n1) = IM := by rw [hn1, hIM]; rfl
          have d60 : decide (60 < n1) = false := by simp; omega
          have hIMv : IM = true := by rw [hIM]; exact hi
          have hFLv : FL = true := by rw [hFL, flR_yes hV]; exact decide_eq_true (im_flush hV hi)
          have hVN : VdRow (slid f 4).row := slid_vd hV
          have hNv : N = (slid f 4).row := by rw [hN, (rs_yes hV).2.1]
          have hNUv : NU = num f 4 := by rw [hNU, nu_yes hV]
          obtain ⟨n2, hn2⟩ : ∃ F, F = (rbR N).length := ⟨_, rfl⟩
          obtain ⟨h2, hh2⟩ : ∃ F, F = flatF (rbR N) := ⟨_, rfl⟩
          obtain ⟨BK, hBK⟩ : ∃ F, F = atR NU := ⟨_, rfl⟩
          have iSL : Hid (∀ i : Nat, i < n1 → ∃ (R : Nat → Int) (S : Int), sameR R f = true ∧ ∀ W, Calls Try.prog 66 #[.agg (mk 4 (fun j => h1 (i * 4 + j)))] W fun e w' => e = .returned (.tuple #[.agg (mk 4 R), .int .i64 S, .bool true]) ∧ Below W.heap.size W w') := fun i hi => by
            obtain ⟨x, hx⟩ : ∃ x, (rbR f)[i]? = some x := ⟨(rbR f)[i]'(by omega), List.getElem?_eq_getElem _⟩
            obtain ⟨q1, q2⟩ := rb_slides hV hx
            rw [← hh1] at q1 q2
            refine ⟨_, (slid (fun j => h1 (i * 4 + j)) 4).sc, q2, fun W => ?_⟩
            have h9 := implSlideRow_any (fun j => h1 (i * 4 + j)) W
            obtain ⟨y1, y2, y3, _⟩ := rs_yes q1
            rw [y1, y2, y3] at h9; exact h9
          have iRB2 : Hid (∀ W, Calls Try.prog 58 #[.agg (mk 4 N)] W fun e w' => ∃ g c, e = .returned (.tuple #[.slice (some ⟨g, 0, none⟩) n2 c, .bool true]) ∧ KRow 4 w' (.slice (some ⟨g, 0, none⟩) n2 c) n2 h2 ∧ Below W.heap.size W w') := by show ∀ W, _; intro W; rw [hn2, hh2]; exact (implBefore_any N W).mono fun e w' ⟨g, c, q1, q2, q3⟩ => ⟨g, c, by rw [q1, rwO_yes (hNv ▸ hVN)], KRow.of_list (rbR_all N) q2, q3⟩
          have iAT2 : Hid (∀ W, Calls Try.prog 71 #[.int .i64 NU] W fun e w' => e = .returned (.tuple #[.agg (mk 4 BK), .bool true]) ∧ Below W.heap.size W w') := by show ∀ W, _; intro W; have h9 := implAt_any NU W; rw [(at_yes (hNUv ▸ (num_back hV).1)).1, ← hBK] at h9; exact h9
          have s2 : sameR BK f = true := by rw [hBK, (at_yes (hNUv ▸ (num_back hV).1)).2, hNUv]; exact (num_back hV).2
          have HOW : Hid (∃ i, i < n2 ∧ sameR (fun j => h2 (i * 4 + j)) f = true) := by show ∃ i, _; rw [hn2, hh2, hNv]; exact rb_own hV
          have hn25 : n2 ≤ 15 := by rw [hn2]; exact rbR_15 N
          clear hn1 hh1 hIM hFL hN hSC hNU hV hVO hVN hNv hNUv hn2 hh2 hBK
          subst hIMv
          subst hFLv
          clear hi
          have s1 : sameR N N = true := sameR_iff.2 fun _ _ => rfl
          have iN := neqR
          go_wp2_with (first | ((with_reducible show wpList _ _ _ (Oper.mk _ (Op.load 24 _) _ _ _ _ :: _) _ _); refine loadR (K3) rfl rfl rfl ?_) | ((with_reducible show wpList _ _ _ (Oper.mk _ (Op.load 24 _) _ _ _ (some _) :: _) _ _); refine loadgR (K3) rfl rfl rfl ?_))
          generalize w1.alloc (.cells (mk 4 f) 24) = w1a at *
          refine (iRB.out _).mono ?_
          rintro e w20 ⟨gl, cl1, rfl, RL, hb⟩
          replace K3 := K3.below hb K3.lt
          replace HB : Hid (Below w.heap.size w w20) := HB.out.trans (hb.mono HB.out.size)
          replace RL := Lib.hid RL
          clear hb
          go_wp2_with (first | ((with_reducible show wpList _ _ _ (Oper.mk _ (Op.load 24 _) _ _ _ _ :: _) _ _); refine loadR (K3) rfl rfl rfl ?_) | ((with_reducible show wpList _ _ _ (Oper.mk _ (Op.load 24 _) _ _ _ (some _) :: _) _ _); refine loadgR (K3) rfl rfl rfl ?_))
          refine (sRB.out _).mono ?_
          rintro e w21 ⟨gw, cw, rfl, RW, hb⟩
          replace K3 := K3.below hb K3.lt
          replace RL := Lib.hid (RL.out.below hb)
          replace HB : Hid (Below w.heap.size w w21) := HB.out.trans (hb.mono HB.out.size)
          replace RW := Lib.hid RW
          clear hb
          go_wp2_with (first | ((with_reducible show wpList _ _ _ (Oper.mk _ (Op.load 24 _) _ _ _ _ :: _) _ _); refine loadR (K3) rfl rfl rfl ?_) | ((with_reducible show wpList _ _ _ (Oper.mk _ (Op.load 24 _) _ _ _ (some _) :: _) _ _); refine loadgR (K3) rfl rfl rfl ?_))
          refine (iIR.out _).mono ?_
          rintro e w22 ⟨rfl, hb⟩
          replace K3 := K3.below hb K3.lt
          replace RL := Lib.hid (RL.out.below hb)
          replace RW := Lib.hid (RW.out.below hb)
          replace HB : Hid (Below w.heap.size w w22) := HB.out.trans (hb.mono HB.out.size)
          clear hb
          go_wp2_with fail
          refine (rRows_yes _ _ n1 h1 _ RL.out RW.out (by omega)).mono ?_
          rintro e w23 ⟨rfl, hb⟩
          replace K3 := K3.below hb K3.lt
          replace RL := Lib.hid (RL.out.below hb)
          replace RW := Lib.hid (RW.out.below hb)
          replace HB : Hid (Below w.heap.size w w23) := HB.out.trans (hb.mono HB.out.size)
          clear hb
          clear RW
          go_wp2_with (first | ((with_reducible show wpList _ _ _ (Oper.mk _ (Op.load 24 _) _ _ _ _ :: _) _ _); refine loadR (K3) rfl rfl rfl ?_) | ((with_reducible show wpList _ _ _ (Oper.mk _ (Op.load 24 _) _ _ _ (some _) :: _) _ _); refine loadgR (K3) rfl rfl rfl ?_))
          refine (iIM.out _).mono ?_
          rintro e w24 ⟨rfl, hb⟩
          replace K3 := K3.below hb K3.lt
          replace RL := Lib.hid (RL.out.below hb)
          replace HB : Hid (Below w.heap.size w w24) := HB.out.trans (hb.mono HB.out.size)
          clear hb
          go_wp2_with (first | ((with_reducible show wpList _ _ _ (Oper.mk _ (Op.load 24 _) _ _ _ _ :: _) _ _); refine loadR (K3) rfl rfl rfl ?_) | ((with_reducible show wpList _ _ _ (Oper.mk _ (Op.load 24 _) _ _ _ (some _) :: _) _ _); refine loadgR (K3) rfl rfl rfl ?_))
          refine (sIM.out _).mono ?_
          rintro e w25 ⟨rfl, hb⟩
          replace K3 := K3.below hb K3.lt
          replace RL := Lib.hid (RL.out.below hb)
          replace HB : Hid (Below w.heap.size w w25) := HB.out.trans (hb.mono HB.out.size)
          clear hb
          go_wp2_with (first | ((with_reducible show wpList _ _ _ (Oper.mk _ (Op.load 24 _) _ _ _ _ :: _) _ _); refine loadR (K3) rfl rfl rfl ?_) | ((with_reducible show wpList _ _ _ (Oper.mk _ (Op.load 24 _) _ _ _ (some _) :: _) _ _); refine loadgR (K3) rfl rfl rfl ?_))
          refine (iFL.out _).mono ?_
          rintro e w26 ⟨rfl, hb⟩
          replace K3 := K3.below hb K3.lt
          replace RL := Lib.hid (RL.out.below hb)
          replace HB : Hid (Below w.heap.size w w26) := HB.out.trans (hb.mono HB.out.size)
          clear hb
          go_wp2_with (first | ((with_reducible show wpList _ _ _ (Oper.mk _ (Op.load 24 _) _ _ _ _ :: _) _ _); refine loadR (K3) rfl rfl rfl ?_) | ((with_reducible show wpList _ _ _ (Oper.mk _ (Op.load 24 _) _ _ _ (some _) :: _) _ _); refine loadgR (K3) rfl rfl rfl ?_))
          refine (sFL.out _).mono ?_
          rintro e w27 ⟨rfl, hb⟩
          replace K3 := K3.below hb K3.lt
          replace RL := Lib.hid (RL.out.below hb)
          replace HB : Hid (Below w.heap.size w w27) := HB.out.trans (hb.mono HB.out.size)
          clear hb
          go_wp2_with (first | ((with_reducible show wpList _ _ _ (Oper.mk _ (Op.load 24 _) _ _ _ _ :: _) _ _); refine loadR (K3) rfl rfl rfl ?_) | ((with_reducible show wpList _ _ _ (Oper.mk _ (Op.load 24 _) _ _ _ (some _) :: _) _ _); refine loadgR (K3) rfl rfl rfl ?_))
          refine (iSR.out _).mono ?_
          rintro e w28 ⟨rfl, hb⟩
          replace K3 := K3.below hb K3.lt
          replace RL := Lib.hid (RL.out.below hb)
          replace HB : Hid (Below w.heap.size w w28) := HB.out.trans (hb.mono HB.out.size)
          clear hb
          replace K3 := K3.alloc (.cells (mk 4 N) 24)
          replace RL := Lib.hid (RL.out.below ((Below.refl _ _).alloc (Nat.le_refl _) (.cells (mk 4 N) 24)))
          have K16 := Blk.new w28 4 N 24
          replace HB : Hid (Below w.heap.size w (w28.alloc (.cells (mk 4 N) 24))) := HB.out.alloc HB.out.size _
          go_wp2_with (first | ((with_reducible show wpList _ _ _ (Oper.mk _ (Op.load 24 _) _ _ _ _ :: _) _ _); refine loadR (K3) rfl rfl rfl ?_) | ((with_reducible show wpList _ _ _ (Oper.mk _ (Op.load 24 _) _ _ _ (some _) :: _) _ _); refine loadgR (K3) rfl rfl rfl ?_))
          generalize w28.alloc (.cells (mk 4 N) 24) = w28a at *
          refine (sSR.out _).mono ?_
          rintro e w29 ⟨rfl, hb⟩
          replace K3 := K3.below hb K3.lt
          replace K16 := K16.below hb K16.lt
          replace RL := Lib.hid (RL.out.below hb)
          replace HB : Hid (Below w.heap.size w w29) := HB.out.trans (hb.mono HB.out.size)
          clear hb
          replace K3 := K3.alloc (.cells (mk 4 N) 24)
          replace K16 := K16.alloc (.cells (mk 4 N) 24)
          replace RL := Lib.hid (RL.out.below ((Below.refl _ _).alloc (Nat.le_refl _) (.cells (mk 4 N) 24)))
          have K19 := Blk.new w29 4 N 24
          replace HB : Hid (Below w.heap.size w (w29.alloc (.cells (mk 4 N) 24))) := HB.out.alloc HB.out.size _
          go_wp2_with (first | ((with_reducible show wpList _ _ _ (Oper.mk _ (Op.load 24 _) _ _ _ _ :: _) _ _); refine loadR (K3) rfl rfl rfl ?_) | ((with_reducible show wpList _ _ _ (Oper.mk _ (Op.load 24 _) _ _ _ (some _) :: _) _ _); refine loadgR (K3) rfl rfl rfl ?_) | ((with_reducible show wpList _ _ _ (Oper.mk _ (Op.load 24 _) _ _ _ _ :: _) _ _); refine loadR (K16) rfl rfl rfl ?_) | ((with_reducible show wpList _ _ _ (Oper.mk _ (Op.load 24 _) _ _ _ (some _) :: _) _ _); refine loadgR (K16) rfl rfl rfl ?_) | ((with_reducible show wpList _ _ _ (Oper.mk _ (Op.load 24 _) _ _ _ _ :: _) _ _); refine loadR (K19) rfl rfl rfl ?_) | ((with_reducible show wpList _ _ _ (Oper.mk _ (Op.load 24 _) _ _ _ (some _) :: _) _ _); refine loadgR (K19) rfl rfl rfl ?_))
          generalize w29.alloc (.cells (mk 4 N) 24) = w29a at *
          refine (iNU.out _).mono ?_
          rintro e w30 ⟨rfl, hb⟩
          replace K3 := K3.below hb K3.lt
          replace K16 := K16.below hb K16.lt
          replace K19 := K19.below hb K19.lt
          replace RL := Lib.hid (RL.out.below hb)
          replace HB : Hid (Below w.heap.size w w30) := HB.out.trans (hb.mono HB.out.size)
          clear hb
          clear K19
          go_wp2_with (first | ((with_reducible show wpList _ _ _ (Oper.mk _ (Op.load 24 _) _ _ _ _ :: _) _ _); refine loadR (K3) rfl rfl rfl ?_) | ((with_reducible show wpList _ _ _ (Oper.mk _ (Op.load 24 _) _ _ _ (some _) :: _) _ _); refine loadgR (K3) rfl rfl rfl ?_))
          refine (sNU.out _).mono ?_
          rintro e w31 ⟨rfl, hb⟩
          replace K3 := K3.below hb K3.lt
          replace K16 := K16.below hb K16.lt
          replace RL := Lib.hid (RL.out.below hb)
          replace HB : Hid (Below w.heap.size w w31) := HB.out.trans (hb.mono HB.out.size)
          clear hb
          go_wp2_with fail
          refine (drawRowAt_any a0 len0 cap0 _ hl (HR.out.code.later HB.out)).mono ?_
          rintro e w32 ⟨z9, rfl, hb⟩
          replace K3 := K3.below hb K3.lt
          replace K16 := K16.below hb K16.lt
          replace RL := Lib.hid (RL.out.below hb)
          replace HB : Hid (Below w.heap.size w w32) := HB.out.trans (hb.mono HB.out.size)
          clear hb
          obtain ⟨AR, hAR⟩ : ∃ F, F = atR z9 := ⟨_, rfl⟩
          obtain ⟨AO, hAO⟩ : ∃ F, F = atO z9 := ⟨_, rfl⟩
          have iAT : Hid (∀ W, Calls Try.prog 71 #[.int .i64 z9] W fun e w' => e = .returned (.tuple #[.agg (mk 4 AR), .bool AO]) ∧ Below W.heap.size W w') := by show ∀ W, _; rw [hAR, hAO]; exact implAt_any z9
          have sAT : Hid (∀ W, Calls Try.prog 72 #[.int .i64 z9] W fun e w' => e = .returned (.tuple #[.agg (mk 4 AR), .bool AO]) ∧ Below W.heap.size W w') := by show ∀ W, _; rw [hAR, hAO]; exact specAt_any z9
          have s9 : sameR AR AR = true := sameR_iff.2 fun _ _ => rfl
          clear hAR hAO
          go_wp2_with fail
          refine (iAT.out _).mono ?_
          rintro e w33 ⟨rfl, hb⟩
          replace K3 := K3.below hb K3.lt
          replace K16 := K16.below hb K16.lt
          replace RL := Lib.hid (RL.out.below hb)
          replace HB : Hid (Below w.heap.size w w33) := HB.out.trans (hb.mono HB.out.size)
          clear hb
          replace K3 := K3.alloc (.cells (mk 4 AR) 24)
          replace K16 := K16.alloc (.cells (mk 4 AR) 24)
          replace RL := Lib.hid (RL.out.below ((Below.refl _ _).alloc (Nat.le_refl _) (.cells (mk 4 AR) 24)))
          have K27 := Blk.new w33 4 AR 24
          replace HB : Hid (Below w.heap.size w (w33.alloc (.cells (mk 4 AR) 24))) := HB.out.alloc HB.out.size _
          go_wp2_with fail
          generalize w33.alloc (.cells (mk 4 AR) 24) = w33a at *
          refine (sAT.out _).mono ?_
          rintro e w34 ⟨rfl, hb⟩
          replace K3 := K3.below hb K3.lt
          replace K16 := K16.below hb K16.lt
          replace K27 := K27.below hb K27.lt
          replace RL := Lib.hid (RL.out.below hb)
          replace HB : Hid (Below w.heap.size w w34) := HB.out.trans (hb.mono HB.out.size)
          clear hb
          replace K3 := K3.alloc (.cells (mk 4 AR) 24)
          replace K16 := K16.alloc (.cells (mk 4 AR) 24)
          replace K27 := K27.alloc (.cells (mk 4 AR) 24)
          replace RL := Lib.hid (RL.out.below ((Below.refl _ _).alloc (Nat.le_refl _) (.cells (mk 4 AR) 24)))
          have K29 := Blk.new w34 4 AR 24
          replace HB : Hid (Below w.heap.size w (w34.alloc (.cells (mk 4 AR) 24))) := HB.out.alloc HB.out.size _
          go_wp2_with (first | ((with_reducible show wpList _ _ _ (Oper.mk _ (Op.load 24 _) _ _ _ _ :: _) _ _); refine loadR (K27) rfl rfl rfl ?_) | ((with_reducible show wpList _ _ _ (Oper.mk _ (Op.load 24 _) _ _ _ (some _) :: _) _ _); refine loadgR (K27) rfl rfl rfl ?_) | ((with_reducible show wpList _ _ _ (Oper.mk _ (Op.load 24 _) _ _ _ _ :: _) _ _); refine loadR (K29) rfl rfl rfl ?_) | ((with_reducible show wpList _ _ _ (Oper.mk _ (Op.load 24 _) _ _ _ (some _) :: _) _ _); refine loadgR (K29) rfl rfl rfl ?_))
          generalize w34.alloc (.cells (mk 4 AR) 24) = w34a at *
          refine (drawCountIm_any a0 len0 cap0 _ hl (HR.out.code.later HB.out)).mono ?_
          rintro e w35 ⟨z8, rfl, hb⟩
          replace K3 := K3.below hb K3.lt
          replace K16 := K16.below hb K16.lt
          replace K27 := K27.below hb K27.lt
          replace K29 := K29.below hb K29.lt
          replace RL := Lib.hid (RL.out.below hb)
          replace HB : Hid (Below w.heap.size w w35) := HB.out.trans (hb.mono HB.out.size)
          clear hb
          clear K27 K29
          obtain ⟨CR, hCR⟩ : ∃ F, F = ciR z8 := ⟨_, rfl⟩
          obtain ⟨CO, hCO⟩ : ∃ F, F = ciO z8 := ⟨_, rfl⟩
          have iCI : Hid (∀ W, Calls Try.prog 74 #[.int .i64 z8] W fun e w' => e = .returned (.tuple #[.int .i64 CR, .bool CO]) ∧ Below W.heap.size W w') := by show ∀ W, _; rw [hCR, hCO]; exact implCountIm_any z8
          have sCI : Hid (∀ W, Calls Try.prog 75 #[.int .i64 z8] W fun e w' => e = .returned (.tuple #[.int .i64 CR, .bool CO]) ∧ Below W.heap.size W w') := by show ∀ W, _; rw [hCR, hCO]; exact specCountIm_any z8
          clear hCR hCO
          go_wp2_with fail
          refine (iCI.out _).mono ?_
          rintro e w36 ⟨rfl, hb⟩
          replace K3 := K3.below hb K3.lt
          replace K16 := K16.below hb K16.lt
          replace RL := Lib.hid (RL.out.below hb)
          replace HB : Hid (Below w.heap.size w w36) := HB.out.trans (hb.mono HB.out.size)
          clear hb
          go_wp2_with fail
          refine (sCI.out _).mono ?_
          rintro e w37 ⟨rfl, hb⟩
          replace K3 := K3.below hb K3.lt
          replace K16 := K16.below hb K16.lt
          replace RL := Lib.hid (RL.out.below hb)
          replace HB : Hid (Below w.heap.size w w37) := HB.out.trans (hb.mono HB.out.size)
          clear hb
          obtain ⟨_, _, eL, _, CL⟩ := RL.out
          cases eL
          clear RL
          go_wp2_with fail
          generalize hb3 : w1.heap.size = b3 at *
          generalize hb16 : w28.heap.size = b16 at *
          go_loopg [36] n1 (fun gk s36 wr => ∃ i : Nat, i + gk = n1 ∧ s36 = .int .i64 i ∧ CAt wr gl (n1 * 4) h1 ∧ Blk wr b3 4 f 24 ∧ Blk wr b16 4 N 24 ∧ Hid (Below w.heap.size w wr))
          case atStart => exact ⟨0, by omega, rfl, CL, K3, K16, HB⟩
          case round =>
            clear CL K3 K16 HB
            obtain ⟨i, hig, rfl, CL, K3, K16, HB⟩ := hrel
            cases gk with
            | zero =>
              have hk : ¬ ((i : Int) < (n1 : Int)) := by omega
              clear CL
              go_wp2_with fail
              refine (iAT2.out _).mono ?_
              rintro e w38 ⟨rfl, hb⟩
              replace K3 := K3.below hb K3.lt
              replace K16 := K16.below hb K16.lt
              replace HB : Hid (Below w.heap.size w w38) := HB.out.trans (hb.mono HB.out.size)
              clear hb
              replace K3 := K3.alloc (.cells (mk 4 BK) 24)
              replace K16 := K16.alloc (.cells (mk 4 BK) 24)
              have K40 := Blk.new w38 4 BK 24
              replace HB : Hid (Below w.heap.size w (w38.alloc (.cells (mk 4 BK) 24))) := HB.out.alloc HB.out.size _
              go_wp2_with (first | ((with_reducible show wpList _ _ _ (Oper.mk _ (Op.load 24 _) _ _ _ _ :: _) _ _); refine loadR (K16) rfl rfl rfl ?_) | ((with_reducible show wpList _ _ _ (Oper.mk _ (Op.load 24 _) _ _ _ (some _) :: _) _ _); refine loadgR (K16) rfl rfl rfl ?_))
              generalize w38.alloc (.cells (mk 4 BK) 24) = w38a at *
              refine (iRB2.out _).mono ?_
              rintro e w39 ⟨g2, c2, rfl, RA, hb⟩
              replace K3 := K3.below hb K3.lt
              replace K16 := K16.below hb K16.lt
              replace K40 := K40.below hb K40.lt
              replace HB : Hid (Below w.heap.size w w39) := HB.out.trans (hb.mono HB.out.size)
              replace RA := Lib.hid RA
              clear hb
              obtain ⟨_, _, eA, _, CA⟩ := RA.out
              cases eA
              clear RA
              go_wp2_with (first | ((with_reducible show wpList _ _ _ (Oper.mk _ (Op.load 24 _) _ _ _ _ :: _) _ _); refine loadR (K40) rfl rfl rfl ?_) | ((with_reducible show wpList _ _ _ (Oper.mk _ (Op.load 24 _) _ _ _ (some _) :: _) _ _); refine loadgR (K40) rfl rfl rfl ?_) | ((with_reducible show wpList _ _ _ (Oper.mk _ (Op.load 24 _) _ _ _ _ :: _) _ _); refine loadR (K3) rfl rfl rfl ?_) | ((with_reducible show wpList _ _ _ (Oper.mk _ (Op.load 24 _) _ _ _ (some _) :: _) _ _); refine loadgR (K3) rfl rfl rfl ?_))
              clear K40 K16
              go_loopg [44] n2 (fun gk s44 wr => ∃ i : Nat, i + gk = n2 ∧ s44 = .int .i64 i ∧ Hid (∀ j, j < i → sameR (fun c => h2 (j * 4 + c)) f = false) ∧ CAt wr g2 (n2 * 4) h2 ∧ Blk wr b3 4 f 24 ∧ Hid (Below w.heap.size w wr))
              case atStart => exact ⟨0, by omega, rfl, fun j hj => by omega, CA, K3, HB⟩
              case round =>
                clear CA K3 HB
                obtain ⟨i, hig2, rfl, HNo, CA, K3, HB⟩ := hrel
                cases gk with
                | zero =>
                  exfalso
                  obtain ⟨q, hq, hs⟩ := HOW.out
                  rw [HNo.out q (by omega)] at hs
                  cases hs
                | succ gk3 =>
                  have hi4 : (i : Int) < (n2 : Int) := by omega
                  have hi0 : (0 : Int) ≤ (i : Int) := by omega
                  have a0 := CA.2 (i * 4) (by omega)
                  have c0 := K3.cell (i := 0) (by omega)
                  have a1 := CA.2 (i * 4 + 1) (by omega)
                  have c1 := K3.cell (i := 1) (by omega)
                  have a2 := CA.2 (i * 4 + 2) (by omega)
                  have c2 := K3.cell (i := 2) (by omega)
                  have a3 := CA.2 (i * 4 + 3) (by omega)
                  have c3 := K3.cell (i := 3) (by omega)
                  have e2 : (#[.int .i64 (h2 (i * 4)), .int .i64 (h2 (i * 4 + 1)), .int .i64 (h2 (i * 4 + 2)), .int .i64 (h2 (i * 4 + 3))] : Array Value) = mk 4 (fun c => h2 (i * 4 + c)) := rfl
                  have e3 : (#[.int .i64 (f 0), .int .i64 (f 1), .int .i64 (f 2), .int .i64 (f 3)] : Array Value) = mk 4 f := rfl
                  have iE : ∀ (w : World), (Op.equalIn 10000 24 (.agg (mk 4 (fun c => h2 (i * 4 + c)))) (.agg (mk 4 f))).run Try.prog w = .ok (sameR (fun c => h2 (i * 4 + c)) f) w := fun w => eqR 9998 _ _ w
                  clear s1 s2 iN
                  go_wp2_with fail
                  go_quiet (fail)
                  all_goals
                    clear a0 c0 a1 c1 a2 c2 a3 c3 e2 e3 iE
                    cases hs : sameR (fun c => h2 (i * 4 + c)) f with
                    | true =>
                      go_wp2_with fail
                      go_ret
                      exact ⟨rfl, below_drewN HB.out _⟩
                    | false =>
                      have HNo2 : Hid (∀ j, j < i + 1 → sameR (fun c => h2 (j * 4 + c)) f = false) := fun j hj => by
                        rcases (by omega : j < i ∨ j = i) with q | rfl
                        · exact HNo.out j q
                        · exact hs
                      clear hs
                      go_wp2_with fail
                      go_roundg gk3
                      case rel => exact ⟨i + 1, by omega, by go_num, HNo2, CA, K3.drewN _, below_drewN HB.out _⟩
                      case measure => omega
            | succ gk2 =>
              have hi4 : (i : Int) < (n1 : Int) := by omega
              have hi0 : (0 : Int) ≤ (i : Int) := by omega
              have hi9 : i < n1 := by omega
              obtain ⟨R, S, sS, iS⟩ := iSL.out i hi9
              have IS := Lib.hid iS
              clear iS
              go_wp2_with (first | ((with_reducible show wpList _ _ _ (Oper.mk _ (Op.load 24 _) _ _ _ _ :: _) _ _); refine loadAR (off := i * 4) CL (by omega) rfl rfl rfl ?_))
              refine (IS.out _).mono ?_
              rintro e wq ⟨rfl, hb⟩
              replace K3 := K3.below hb K3.lt
              replace K16 := K16.below hb K16.lt
              replace CL := CL.below hb
              replace HB : Hid (Below w.heap.size w wq) := HB.out.trans (hb.mono HB.out.size)
              clear hb
              replace K3 := K3.alloc (.cells (mk 4 R) 24)
              replace K16 := K16.alloc (.cells (mk 4 R) 24)
              replace CL := CL.alloc (.cells (mk 4 R) 24)
              have K37 := Blk.new wq 4 R 24
              replace HB : Hid (Below w.heap.size w (wq.alloc (.cells (mk 4 R) 24))) := HB.out.alloc HB.out.size _
              go_wp2_with (first | ((with_reducible show wpList _ _ _ (Oper.mk _ (Op.load 24 _) _ _ _ _ :: _) _ _); refine loadR (K37) rfl rfl rfl ?_) | ((with_reducible show wpList _ _ _ (Oper.mk _ (Op.load 24 _) _ _ _ (some _) :: _) _ _); refine loadgR (K37) rfl rfl rfl ?_) | ((with_reducible show wpList _ _ _ (Oper.mk _ (Op.load 24 _) _ _ _ _ :: _) _ _); refine loadR (K3) rfl rfl rfl ?_) | ((with_reducible show wpList _ _ _ (Oper.mk _ (Op.load 24 _) _ _ _ (some _) :: _) _ _); refine loadgR (K3) rfl rfl rfl ?_))
              go_roundg gk2
              case rel => exact ⟨i + 1, by omega, by go_num, CL, K3, K16, HB⟩
              case measure => omega
      | false =>
        as_aux_lemma =>
          have hVO : rwO f = true := rwO_yes hV
          obtain ⟨n1, hn1⟩ : ∃ F, F = (rbR f).length := ⟨_, rfl⟩
          obtain ⟨h1, hh1⟩ : ∃ F, F = flatF (rbR f) := ⟨_, rfl⟩
          obtain ⟨IM, hIM⟩ : ∃ F, F = imR f := ⟨_, rfl⟩
          obtain ⟨FL, hFL⟩ : ∃ F, F = flR f := ⟨_, rfl⟩
          obtain ⟨N, hN⟩ : ∃ F, F = rsR f := ⟨_, rfl⟩
          obtain ⟨SC, hSC⟩ : ∃ F, F = rsS f := ⟨_, rfl⟩
          obtain ⟨NU, hNU⟩ : ∃ F, F = nuR f := ⟨_, rfl⟩
          have iRB : Hid (∀ W, Calls Try.prog 58 #[.agg (mk 4 f)] W fun e w' => ∃ g c, e = .returned (.tuple #[.slice (some ⟨g, 0, none⟩) n1 c, .bool true]) ∧ KRow 4 w' (.slice (some ⟨g, 0, none⟩) n1 c) n1 h1 ∧ Below W.heap.size W w') := by show ∀ W, _; intro W; rw [hn1, hh1, ← hVO]; exact (implBefore_any f W).mono fun e w' ⟨g, c, q1, q2, q3⟩ => ⟨g, c, q1, KRow.of_list (rbR_all f) q2, q3⟩
          have sRB : Hid (∀ W, Calls Try.prog 59 #[.agg (mk 4 f)] W fun e w' => ∃ g c, e = .returned (.tuple #[.slice (some ⟨g, 0, none⟩) n1 c, .bool true]) ∧ KRow 4 w' (.slice (some ⟨g, 0, none⟩) n1 c) n1 h1 ∧ Below W.heap.size W w') := by show ∀ W, _; intro W; rw [hn1, hh1, ← hVO]; exact (specBefore_any f W).mono fun e w' ⟨g, c, q1, q2, q3⟩ => ⟨g, c, q1, KRow.of_list (rbR_all f) q2, q3⟩
          have iIR : Hid (∀ W, Calls Try.prog 60 #[.agg (mk 4 f)] W fun e w' => e = .returned (.bool true) ∧ Below W.heap.size W w') := by show ∀ W, _; rw [← hVO]; exact implIsRow_any f
          have iIM : Hid (∀ W, Calls Try.prog 62 #[.agg (mk 4 f)] W fun e w' => e = .returned (.tuple #[.bool IM, .bool true]) ∧ Below W.heap.size W w') := by show ∀ W, _; rw [hIM, ← hVO]; exact implImage_any f
          have iFL : Hid (∀ W, Calls Try.prog 64 #[.agg (mk 4 f)] W fun e w' => e = .returned (.tuple #[.bool FL, .bool true]) ∧ Below W.heap.size W w') := by show ∀ W, _; rw [hFL, ← hVO]; exact implFlush_any f
          have iSR : Hid (∀ W, Calls Try.prog 66 #[.agg (mk 4 f)] W fun e w' => e = .returned (.tuple #[.agg (mk 4 N), .int .i64 SC, .bool true]) ∧ Below W.heap.size W w') := by show ∀ W, _; rw [hN, hSC, ← hVO]; exact implSlideRow_any f
          have iNU : Hid (∀ W, Calls Try.prog 68 #[.agg (mk 4 f)] W fun e w' => e = .returned (.tuple #[.int .i64 NU, .bool true]) ∧ Below W.heap.size W w') := by show ∀ W, _; rw [hNU, ← hVO]; exact implNum_any f
          have sIM : Hid (∀ W, Calls Try.prog 63 #[.agg (mk 4 f)] W fun e w' => e = .returned (.tuple #[.bool IM, .bool true]) ∧ Below W.heap.size W w') := by show ∀ W, _; rw [hIM, ← hVO]; exact specImage_any f
          have sFL : Hid (∀ W, Calls Try.prog 65 #[.agg (mk 4 f)] W fun e w' => e = .returned (.tuple #[.bool FL, .bool true]) ∧ Below W.heap.size W w') := by show ∀ W, _; rw [hFL, ← hVO]; exact specFlush_any f
          have sSR : Hid (∀ W, Calls Try.prog 67 #[.agg (mk 4 f)] W fun e w' => e = .returned (.tuple #[.agg (mk 4 N), .int .i64 SC, .bool true]) ∧ Below W.heap.size W w') := by show ∀ W, _; rw [hN, hSC, ← hVO]; exact specSlideRow_any f
          have sNU : Hid (∀ W, Calls Try.prog 69 #[.agg (mk 4 f)] W fun e w' => e = .returned (.tuple #[.int .i64 NU, .bool true]) ∧ Below W.heap.size W w') := by show ∀ W, _; rw [hNU, ← hVO]; exact specNum_any f
          have hn15 : n1 ≤ 15 := by rw [hn1]; exact rbR_15 f
          have dI : decide (0 < n1) = IM := by rw [hn1, hIM]; rfl
          have d60 : decide (60 < n1) = false := by simp; omega
          have hIMv : IM = false := by rw [hIM]; exact hi
          have hVN : VdRow (slid f 4).row := slid_vd hV
          have hNv : N = (slid f 4).row := by rw [hN, (rs_yes hV).2.1]
          have hNUv : NU = num f 4 := by rw [hNU, nu_yes hV]
          obtain ⟨n2, hn2⟩ : ∃ F, F = (rbR N).length := ⟨_, rfl⟩
          obtain ⟨h2, hh2⟩ : ∃ F, F = flatF (rbR N) := ⟨_, rfl⟩
          obtain ⟨BK, hBK⟩ : ∃ F, F = atR NU := ⟨_, rfl⟩
          have iSL : Hid (∀ i : Nat, i < n1 → ∃ (R : Nat → Int) (S : Int), sameR R f = true ∧ ∀ W, Calls Try.prog 66 #[.agg (mk 4 (fun j => h1 (i * 4 + j)))] W fun e w' => e = .returned (.tuple #[.agg (mk 4 R), .int .i64 S, .bool true]) ∧ Below W.heap.size W w') := fun i hi => by
            obtain ⟨x, hx⟩ : ∃ x, (rbR f)[i]? = some x := ⟨(rbR f)[i]'(by omega), List.getElem?_eq_getElem _⟩
            obtain ⟨q1, q2⟩ := rb_slides hV hx
            rw [← hh1] at q1 q2
            refine ⟨_, (slid (fun j => h1 (i * 4 + j)) 4).sc, q2, fun W => ?_⟩
            have h9 := implSlideRow_any (fun j => h1 (i * 4 + j)) W
            obtain ⟨y1, y2, y3, _⟩ := rs_yes q1
            rw [y1, y2, y3] at h9; exact h9
          have iRB2 : Hid (∀ W, Calls Try.prog 58 #[.agg (mk 4 N)] W fun e w' => ∃ g c, e = .returned (.tuple #[.slice (some ⟨g, 0, none⟩) n2 c, .bool true]) ∧ KRow 4 w' (.slice (some ⟨g, 0, none⟩) n2 c) n2 h2 ∧ Below W.heap.size W w') := by show ∀ W, _; intro W; rw [hn2, hh2]; exact (implBefore_any N W).mono fun e w' ⟨g, c, q1, q2, q3⟩ => ⟨g, c, by rw [q1, rwO_yes (hNv ▸ hVN)], KRow.of_list (rbR_all N) q2, q3⟩
          have iAT2 : Hid (∀ W, Calls Try.prog 71 #[.int .i64 NU] W fun e w' => e = .returned (.tuple #[.agg (mk 4 BK), .bool true]) ∧ Below W.heap.size W w') := by show ∀ W, _; intro W; have h9 := implAt_any NU W; rw [(at_yes (hNUv ▸ (num_back hV).1)).1, ← hBK] at h9; exact h9
          have s2 : sameR BK f = true := by rw [hBK, (at_yes (hNUv ▸ (num_back hV).1)).2, hNUv]; exact (num_back hV).2
          have HOW : Hid (∃ i, i < n2 ∧ sameR (fun j => h2 (i * 4 + j)) f = true) := by show ∃ i, _; rw [hn2, hh2, hNv]; exact rb_own hV
          have hn25 : n2 ≤ 15 := by rw [hn2]; exact rbR_15 N
          clear hn1 hh1 hIM hFL hN hSC hNU hV hVO hVN hNv hNUv hn2 hh2 hBK
          subst hIMv
          clear hi
          have s1 : sameR N N = true := sameR_iff.2 fun _ _ => rfl
          have iN := neqR
          go_wp2_with (first | ((with_reducible show wpList _ _ _ (Oper.mk _ (Op.load 24 _) _ _ _ _ :: _) _ _); refine loadR (K3) rfl rfl rfl ?_) | ((with_reducible show wpList _ _ _ (Oper.mk _ (Op.load 24 _) _ _ _ (some _) :: _) _ _); refine loadgR (K3) rfl rfl rfl ?_))
          generalize w1.alloc (.cells (mk 4 f) 24) = w1a at *
          refine (iRB.out _).mono ?_
          rintro e w40 ⟨gl, cl1, rfl, RL, hb⟩
          replace K3 := K3.below hb K3.lt
          replace HB : Hid (Below w.heap.size w w40) := HB.out.trans (hb.mono HB.out.size)
          replace RL := Lib.hid RL
          clear hb
          go_wp2_with (first | ((with_reducible show wpList _ _ _ (Oper.mk _ (Op.load 24 _) _ _ _ _ :: _) _ _); refine loadR (K3) rfl rfl rfl ?_) | ((with_reducible show wpList _ _ _ (Oper.mk _ (Op.load 24 _) _ _ _ (some _) :: _) _ _); refine loadgR (K3) rfl rfl rfl ?_))
          refine (sRB.out _).mono ?_
          rintro e w41 ⟨gw, cw, rfl, RW, hb⟩
          replace K3 := K3.below hb K3.lt
          replace RL := Lib.hid (RL.out.below hb)
          replace HB : Hid (Below w.heap.size w w41) := HB.out.trans (hb.mono HB.out.size)
          replace RW := Lib.hid RW
          clear hb
          go_wp2_with (first | ((with_reducible show wpList _ _ _ (Oper.mk _ (Op.load 24 _) _ _ _ _ :: _) _ _); refine loadR (K3) rfl rfl rfl ?_) | ((with_reducible show wpList _ _ _ (Oper.mk _ (Op.load 24 _) _ _ _ (some _) :: _) _ _); refine loadgR (K3) rfl rfl rfl ?_))
          refine (iIR.out _).mono ?_
          rintro e w42 ⟨rfl, hb⟩
          replace K3 := K3.below hb K3.lt
          replace RL := Lib.hid (RL.out.below hb)
          replace RW := Lib.hid (RW.out.below hb)
          replace HB : Hid (Below w.heap.size w w42) := HB.out.trans (hb.mono HB.out.size)
          clear hb
          go_wp2_with fail
          refine (rRows_yes _ _ n1 h1 _ RL.out RW.out (by omega)).mono ?_
          rintro e w43 ⟨rfl, hb⟩
          replace K3 := K3.below hb K3.lt
          replace RL := Lib.hid (RL.out.below hb)
          replace RW := Lib.hid (RW.out.below hb)
          replace HB : Hid (Below w.heap.size w w43) := HB.out.trans (hb.mono HB.out.size)
          clear hb
          clear RW
          go_wp2_with (first | ((with_reducible show wpList _ _ _ (Oper.mk _ (Op.load 24 _) _ _ _ _ :: _) _ _); refine loadR (K3) rfl rfl rfl ?_) | ((with_reducible show wpList _ _ _ (Oper.mk _ (Op.load 24 _) _ _ _ (some _) :: _) _ _); refine loadgR (K3) rfl rfl rfl ?_))
          refine (iIM.out _).mono ?_
          rintro e w44 ⟨rfl, hb⟩
          replace K3 := K3.below hb K3.lt
          replace RL := Lib.hid (RL.out.below hb)
          replace HB : Hid (Below w.heap.size w w44) := HB.out.trans (hb.mono HB.out.size)
          clear hb
          go_wp2_with (first | ((with_reducible show wpList _ _ _ (Oper.mk _ (Op.load 24 _) _ _ _ _ :: _) _ _); refine loadR (K3) rfl rfl rfl ?_) | ((with_reducible show wpList _ _ _ (Oper.mk _ (Op.load 24 _) _ _ _ (some _) :: _) _ _); refine loadgR (K3) rfl rfl rfl ?_))
          refine (sIM.out _).mono ?_
          rintro e w45 ⟨rfl, hb⟩
          replace K3 := K3.below hb K3.lt
          replace RL := Lib.hid (RL.out.below hb)
          replace HB : Hid (Below w.heap.size w w45) := HB.out.trans (hb.mono HB.out.size)
          clear hb
          go_wp2_with (first | ((with_reducible show wpList _ _ _ (Oper.mk _ (Op.load 24 _) _ _ _ _ :: _) _ _); refine loadR (K3) rfl rfl rfl ?_) | ((with_reducible show wpList _ _ _ (Oper.mk _ (Op.load 24 _) _ _ _ (some _) :: _) _ _); refine loadgR (K3) rfl rfl rfl ?_))
          refine (iFL.out _).mono ?_
          rintro e w46 ⟨rfl, hb⟩
          replace K3 := K3.below hb K3.lt
          replace RL := Lib.hid (RL.out.below hb)
          replace HB : Hid (Below w.heap.size w w46) := HB.out.trans (hb.mono HB.out.size)
          clear hb
          go_wp2_with (first | ((with_reducible show wpList _ _ _ (Oper.mk _ (Op.load 24 _) _ _ _ _ :: _) _ _); refine loadR (K3) rfl rfl rfl ?_) | ((with_reducible show wpList _ _ _ (Oper.mk _ (Op.load 24 _) _ _ _ (some _) :: _) _ _); refine loadgR (K3) rfl rfl rfl ?_))
          refine (sFL.out _).mono ?_
          rintro e w47 ⟨rfl, hb⟩
          replace K3 := K3.below hb K3.lt
          replace RL := Lib.hid (RL.out.below hb)
          replace HB : Hid (Below w.heap.size w w47) := HB.out.trans (hb.mono HB.out.size)
          clear hb
          go_wp2_with (first | ((with_reducible show wpList _ _ _ (Oper.mk _ (Op.load 24 _) _ _ _ _ :: _) _ _); refine loadR (K3) rfl rfl rfl ?_) | ((with_reducible show wpList _ _ _ (Oper.mk _ (Op.load 24 _) _ _ _ (some _) :: _) _ _); refine loadgR (K3) rfl rfl rfl ?_))
          refine (iSR.out _).mono ?_
          rintro e w48 ⟨rfl, hb⟩
          replace K3 := K3.below hb K3.lt
          replace RL := Lib.hid (RL.out.below hb)
          replace HB : Hid (Below w.heap.size w w48) := HB.out.trans (hb.mono HB.out.size)
          clear hb
          replace K3 := K3.alloc (.cells (mk 4 N) 24)
          replace RL := Lib.hid (RL.out.below ((Below.refl _ _).alloc (Nat.le_refl _) (.cells (mk 4 N) 24)))
          have K16 := Blk.new w48 4 N 24
          replace HB : Hid (Below w.heap.size w (w48.alloc (.cells (mk 4 N) 24))) := HB.out.alloc HB.out.size _
          go_wp2_with (first | ((with_reducible show wpList _ _ _ (Oper.mk _ (Op.load 24 _) _ _ _ _ :: _) _ _); refine loadR (K3) rfl rfl rfl ?_) | ((with_reducible show wpList _ _ _ (Oper.mk _ (Op.load 24 _) _ _ _ (some _) :: _) _ _); refine loadgR (K3) rfl rfl rfl ?_))
          generalize w48.alloc (.cells (mk 4 N) 24) = w48a at *
          refine (sSR.out _).mono ?_
          rintro e w49 ⟨rfl, hb⟩
          replace K3 := K3.below hb K3.lt
          replace K16 := K16.below hb K16.lt
          replace RL := Lib.hid (RL.out.below hb)
          replace HB : Hid (Below w.heap.size w w49) := HB.out.trans (hb.mono HB.out.size)
          clear hb
          replace K3 := K3.alloc (.cells (mk 4 N) 24)
          replace K16 := K16.alloc (.cells (mk 4 N) 24)
          replace RL := Lib.hid (RL.out.below ((Below.refl _ _).alloc (Nat.le_refl _) (.cells (mk 4 N) 24)))
          have K19 := Blk.new w49 4 N 24
          replace HB : Hid (Below w.heap.size w (w49.alloc (.cells (mk 4 N) 24))) := HB.out.alloc HB.out.size _
          go_wp2_with (first | ((with_reducible show wpList _ _ _ (Oper.mk _ (Op.load 24 _) _ _ _ _ :: _) _ _); refine loadR (K3) rfl rfl rfl ?_) | ((with_reducible show wpList _ _ _ (Oper.mk _ (Op.load 24 _) _ _ _ (some _) :: _) _ _); refine loadgR (K3) rfl rfl rfl ?_) | ((with_reducible show wpList _ _ _ (Oper.mk _ (Op.load 24 _) _ _ _ _ :: _) _ _); refine loadR (K16) rfl rfl rfl ?_) | ((with_reducible show wpList _ _ _ (Oper.mk _ (Op.load 24 _) _ _ _ (some _) :: _) _ _); refine loadgR (K16) rfl rfl rfl ?_) | ((with_reducible show wpList _ _ _ (Oper.mk _ (Op.load 24 _) _ _ _ _ :: _) _ _); refine loadR (K19) rfl rfl rfl ?_) | ((with_reducible show wpList _ _ _ (Oper.mk _ (Op.load 24 _) _ _ _ (some _) :: _) _ _); refine loadgR (K19) rfl rfl rfl ?_))
          generalize w49.alloc (.cells (mk 4 N) 24) = w49a at *
          refine (iNU.out _).mono ?_
          rintro e w50 ⟨rfl, hb⟩
          replace K3 := K3.below hb K3.lt
          replace K16 := K16.below hb K16.lt
          replace K19 := K19.below hb K19.lt
          replace RL := Lib.hid (RL.out.below hb)
          replace HB : Hid (Below w.heap.size w w50) := HB.out.trans (hb.mono HB.out.size)
          clear hb
          clear K19
          go_wp2_with (first | ((with_reducible show wpList _ _ _ (Oper.mk _ (Op.load 24 _) _ _ _ _ :: _) _ _); refine loadR (K3) rfl rfl rfl ?_) | ((with_reducible show wpList _ _ _ (Oper.mk _ (Op.load 24 _) _ _ _ (some _) :: _) _ _); refine loadgR (K3) rfl rfl rfl ?_))
          refine (sNU.out _).mono ?_
          rintro e w51 ⟨rfl, hb⟩
          replace K3 := K3.below hb K3.lt
          replace K16 := K16.below hb K16.lt
          replace RL := Lib.hid (RL.out.below hb)
          replace HB : Hid (Below w.heap.size w w51) := HB.out.trans (hb.mono HB.out.size)
          clear hb
          go_wp2_with fail
          refine (drawRowAt_any a0 len0 cap0 _ hl (HR.out.code.later HB.out)).mono ?_
          rintro e w52 ⟨z9, rfl, hb⟩
          replace K3 := K3.below hb K3.lt
          replace K16 := K16.below hb K16.lt
          replace RL := Lib.hid (RL.out.below hb)
          replace HB : Hid (Below w.heap.size w w52) := HB.out.trans (hb.mono HB.out.size)
          clear hb
          obtain ⟨AR, hAR⟩ : ∃ F, F = atR z9 := ⟨_, rfl⟩
          obtain ⟨AO, hAO⟩ : ∃ F, F = atO z9 := ⟨_, rfl⟩
          have iAT : Hid (∀ W, Calls Try.prog 71 #[.int .i64 z9] W fun e w' => e = .returned (.tuple #[.agg (mk 4 AR), .bool AO]) ∧ Below W.heap.size W w') := by show ∀ W, _; rw [hAR, hAO]; exact implAt_any z9
          have sAT : Hid (∀ W, Calls Try.prog 72 #[.int .i64 z9] W fun e w' => e = .returned (.tuple #[.agg (mk 4 AR), .bool AO]) ∧ Below W.heap.size W w') := by show ∀ W, _; rw [hAR, hAO]; exact specAt_any z9
          have s9 : sameR AR AR = true := sameR_iff.2 fun _ _ => rfl
          clear hAR hAO
          go_wp2_with fail
          refine (iAT.out _).mono ?_
          rintro e w53 ⟨rfl, hb⟩
          replace K3 := K3.below hb K3.lt
          replace K16 := K16.below hb K16.lt
          replace RL := Lib.hid (RL.out.below hb)
          replace HB : Hid (Below w.heap.size w w53) := HB.out.trans (hb.mono HB.out.size)
          clear hb
          replace K3 := K3.alloc (.cells (mk 4 AR) 24)
          replace K16 := K16.alloc (.cells (mk 4 AR) 24)
          replace RL := Lib.hid (RL.out.below ((Below.refl _ _).alloc (Nat.le_refl _) (.cells (mk 4 AR) 24)))
          have K27 := Blk.new w53 4 AR 24
          replace HB : Hid (Below w.heap.size w (w53.alloc (.cells (mk 4 AR) 24))) := HB.out.alloc HB.out.size _
          go_wp2_with fail
          generalize w53.alloc (.cells (mk 4 AR) 24) = w53a at *
          refine (sAT.out _).mono ?_
          rintro e w54 ⟨rfl, hb⟩
          replace K3 := K3.below hb K3.lt
          replace K16 := K16.below hb K16.lt
          replace K27 := K27.below hb K27.lt
          replace RL := Lib.hid (RL.out.below hb)
          replace HB : Hid (Below w.heap.size w w54) := HB.out.trans (hb.mono HB.out.size)
          clear hb
          replace K3 := K3.alloc (.cells (mk 4 AR) 24)
          replace K16 := K16.alloc (.cells (mk 4 AR) 24)
          replace K27 := K27.alloc (.cells (mk 4 AR) 24)
          replace RL := Lib.hid (RL.out.below ((Below.refl _ _).alloc (Nat.le_refl _) (.cells (mk 4 AR) 24)))
          have K29 := Blk.new w54 4 AR 24
          replace HB : Hid (Below w.heap.size w (w54.alloc (.cells (mk 4 AR) 24))) := HB.out.alloc HB.out.size _
          go_wp2_with (first | ((with_reducible show wpList _ _ _ (Oper.mk _ (Op.load 24 _) _ _ _ _ :: _) _ _); refine loadR (K27) rfl rfl rfl ?_) | ((with_reducible show wpList _ _ _ (Oper.mk _ (Op.load 24 _) _ _ _ (some _) :: _) _ _); refine loadgR (K27) rfl rfl rfl ?_) | ((with_reducible show wpList _ _ _ (Oper.mk _ (Op.load 24 _) _ _ _ _ :: _) _ _); refine loadR (K29) rfl rfl rfl ?_) | ((with_reducible show wpList _ _ _ (Oper.mk _ (Op.load 24 _) _ _ _ (some _) :: _) _ _); refine loadgR (K29) rfl rfl rfl ?_))
          generalize w54.alloc (.cells (mk 4 AR) 24) = w54a at *
          refine (drawCountIm_any a0 len0 cap0 _ hl (HR.out.code.later HB.out)).mono ?_
          rintro e w55 ⟨z8, rfl, hb⟩
          replace K3 := K3.below hb K3.lt
          replace K16 := K16.below hb K16.lt
          replace K27 := K27.below hb K27.lt
          replace K29 := K29.below hb K29.lt
          replace RL := Lib.hid (RL.out.below hb)
          replace HB : Hid (Below w.heap.size w w55) := HB.out.trans (hb.mono HB.out.size)
          clear hb
          clear K27 K29
          obtain ⟨CR, hCR⟩ : ∃ F, F = ciR z8 := ⟨_, rfl⟩
          obtain ⟨CO, hCO⟩ : ∃ F, F = ciO z8 := ⟨_, rfl⟩
          have iCI : Hid (∀ W, Calls Try.prog 74 #[.int .i64 z8] W fun e w' => e = .returned (.tuple #[.int .i64 CR, .bool CO]) ∧ Below W.heap.size W w') := by show ∀ W, _; rw [hCR, hCO]; exact implCountIm_any z8
          have sCI : Hid (∀ W, Calls Try.prog 75 #[.int .i64 z8] W fun e w' => e = .returned (.tuple #[.int .i64 CR, .bool CO]) ∧ Below W.heap.size W w') := by show ∀ W, _; rw [hCR, hCO]; exact specCountIm_any z8
          clear hCR hCO
          go_wp2_with fail
          refine (iCI.out _).mono ?_
          rintro e w56 ⟨rfl, hb⟩
          replace K3 := K3.below hb K3.lt
          replace K16 := K16.below hb K16.lt
          replace RL := Lib.hid (RL.out.below hb)
          replace HB : Hid (Below w.heap.size w w56) := HB.out.trans (hb.mono HB.out.size)
          clear hb
          go_wp2_with fail
          refine (sCI.out _).mono ?_
          rintro e w57 ⟨rfl, hb⟩
          replace K3 := K3.below hb K3.lt
          replace K16 := K16.below hb K16.lt
          replace RL := Lib.hid (RL.out.below hb)
          replace HB : Hid (Below w.heap.size w w57) := HB.out.trans (hb.mono HB.out.size)
          clear hb
          obtain ⟨_, _, eL, _, CL⟩ := RL.out
          cases eL
          clear RL
          go_wp2_with fail
          generalize hb3 : w1.heap.size = b3 at *
          generalize hb16 : w48.heap.size = b16 at *
          go_loopg [36] n1 (fun gk s36 wr => ∃ i : Nat, i + gk = n1 ∧ s36 = .int .i64 i ∧ CAt wr gl (n1 * 4) h1 ∧ Blk wr b3 4 f 24 ∧ Blk wr b16 4 N 24 ∧ Hid (Below w.heap.size w wr))
          case atStart => exact ⟨0, by omega, rfl, CL, K3, K16, HB⟩
          case round =>
            clear CL K3 K16 HB
            obtain ⟨i, hig, rfl, CL, K3, K16, HB⟩ := hrel
            cases gk with
            | zero =>
              have hk : ¬ ((i : Int) < (n1 : Int)) := by omega
              clear CL
              go_wp2_with fail
              refine (iAT2.out _).mono ?_
              rintro e w58 ⟨rfl, hb⟩
              replace K3 := K3.below hb K3.lt
              replace K16 := K16.below hb K16.lt
              replace HB : Hid (Below w.heap.size w w58) := HB.out.trans (hb.mono HB.out.size)
              clear hb
              replace K3 := K3.alloc (.cells (mk 4 BK) 24)
              replace K16 := K16.alloc (.cells (mk 4 BK) 24)
              have K40 := Blk.new w58 4 BK 24
              replace HB : Hid (Below w.heap.size w (w58.alloc (.cells (mk 4 BK) 24))) := HB.out.alloc HB.out.size _
              go_wp2_with (first | ((with_reducible show wpList _ _ _ (Oper.mk _ (Op.load 24 _) _ _ _ _ :: _) _ _); refine loadR (K16) rfl rfl rfl ?_) | ((with_reducible show wpList _ _ _ (Oper.mk _ (Op.load 24 _) _ _ _ (some _) :: _) _ _); refine loadgR (K16) rfl rfl rfl ?_))
              generalize w58.alloc (.cells (mk 4 BK) 24) = w58a at *
              refine (iRB2.out _).mono ?_
              rintro e w59 ⟨g2, c2, rfl, RA, hb⟩
              replace K3 := K3.below hb K3.lt
              replace K16 := K16.below hb K16.lt
              replace K40 := K40.below hb K40.lt
              replace HB : Hid (Below w.heap.size w w59) := HB.out.trans (hb.mono HB.out.size)
              replace RA := Lib.hid RA
              clear hb
              obtain ⟨_, _, eA, _, CA⟩ := RA.out
              cases eA
              clear RA
              go_wp2_with (first | ((with_reducible show wpList _ _ _ (Oper.mk _ (Op.load 24 _) _ _ _ _ :: _) _ _); refine loadR (K40) rfl rfl rfl ?_) | ((with_reducible show wpList _ _ _ (Oper.mk _ (Op.load 24 _) _ _ _ (some _) :: _) _ _); refine loadgR (K40) rfl rfl rfl ?_) | ((with_reducible show wpList _ _ _ (Oper.mk _ (Op.load 24 _) _ _ _ _ :: _) _ _); refine loadR (K3) rfl rfl rfl ?_) | ((with_reducible show wpList _ _ _ (Oper.mk _ (Op.load 24 _) _ _ _ (some _) :: _) _ _); refine loadgR (K3) rfl rfl rfl ?_))
              clear K40 K16
              go_loopg [44] n2 (fun gk s44 wr => ∃ i : Nat, i + gk = n2 ∧ s44 = .int .i64 i ∧ Hid (∀ j, j < i → sameR (fun c => h2 (j * 4 + c)) f = false) ∧ CAt wr g2 (n2 * 4) h2 ∧ Blk wr b3 4 f 24 ∧ Hid (Below w.heap.size w wr))
              case atStart => exact ⟨0, by omega, rfl, fun j hj => by omega, CA, K3, HB⟩
              case round =>
                clear CA K3 HB
                obtain ⟨i, hig2, rfl, HNo, CA, K3, HB⟩ := hrel
                cases gk with
                | zero =>
                  exfalso
                  obtain ⟨q, hq, hs⟩ := HOW.out
                  rw [HNo.out q (by omega)] at hs
                  cases hs
                | succ gk3 =>
                  have hi4 : (i : Int) < (n2 : Int) := by omega
                  have hi0 : (0 : Int) ≤ (i : Int) := by omega
                  have a0 := CA.2 (i * 4) (by omega)
                  have c0 := K3.cell (i := 0) (by omega)
                  have a1 := CA.2 (i * 4 + 1) (by omega)
                  have c1 := K3.cell (i := 1) (by omega)
                  have a2 := CA.2 (i * 4 + 2) (by omega)
                  have c2 := K3.cell (i := 2) (by omega)
                  have a3 := CA.2 (i * 4 + 3) (by omega)
                  have c3 := K3.cell (i := 3) (by omega)
                  have e2 : (#[.int .i64 (h2 (i * 4)), .int .i64 (h2 (i * 4 + 1)), .int .i64 (h2 (i * 4 + 2)), .int .i64 (h2 (i * 4 + 3))] : Array Value) = mk 4 (fun c => h2 (i * 4 + c)) := rfl
                  have e3 : (#[.int .i64 (f 0), .int .i64 (f 1), .int .i64 (f 2), .int .i64 (f 3)] : Array Value) = mk 4 f := rfl
                  have iE : ∀ (w : World), (Op.equalIn 10000 24 (.agg (mk 4 (fun c => h2 (i * 4 + c)))) (.agg (mk 4 f))).run Try.prog w = .ok (sameR (fun c => h2 (i * 4 + c)) f) w := fun w => eqR 9998 _ _ w
                  clear s1 s2 iN
                  go_wp2_with fail
                  go_quiet (fail)
                  all_goals
                    clear a0 c0 a1 c1 a2 c2 a3 c3 e2 e3 iE
                    cases hs : sameR (fun c => h2 (i * 4 + c)) f with
                    | true =>
                      go_wp2_with fail
                      go_ret
                      exact ⟨rfl, below_drewN HB.out _⟩
                    | false =>
                      have HNo2 : Hid (∀ j, j < i + 1 → sameR (fun c => h2 (j * 4 + c)) f = false) := fun j hj => by
                        rcases (by omega : j < i ∨ j = i) with q | rfl
                        · exact HNo.out j q
                        · exact hs
                      clear hs
                      go_wp2_with fail
                      go_roundg gk3
                      case rel => exact ⟨i + 1, by omega, by go_num, HNo2, CA, K3.drewN _, below_drewN HB.out _⟩
                      case measure => omega
            | succ gk2 =>
              have hi4 : (i : Int) < (n1 : Int) := by omega
              have hi0 : (0 : Int) ≤ (i : Int) := by omega
              have hi9 : i < n1 := by omega
              obtain ⟨R, S, sS, iS⟩ := iSL.out i hi9
              have IS := Lib.hid iS
              clear iS
              go_wp2_with (first | ((with_reducible show wpList _ _ _ (Oper.mk _ (Op.load 24 _) _ _ _ _ :: _) _ _); refine loadAR (off := i * 4) CL (by omega) rfl rfl rfl ?_))
              refine (IS.out _).mono ?_
              rintro e wq ⟨rfl, hb⟩
              replace K3 := K3.below hb K3.lt
              replace K16 := K16.below hb K16.lt
              replace CL := CL.below hb
              replace HB : Hid (Below w.heap.size w wq) := HB.out.trans (hb.mono HB.out.size)
              clear hb
              replace K3 := K3.alloc (.cells (mk 4 R) 24)
              replace K16 := K16.alloc (.cells (mk 4 R) 24)
              replace CL := CL.alloc (.cells (mk 4 R) 24)
              have K37 := Blk.new wq 4 R 24
              replace HB : Hid (Below w.heap.size w (wq.alloc (.cells (mk 4 R) 24))) := HB.out.alloc HB.out.size _
              go_wp2_with (first | ((with_reducible show wpList _ _ _ (Oper.mk _ (Op.load 24 _) _ _ _ _ :: _) _ _); refine loadR (K37) rfl rfl rfl ?_) | ((with_reducible show wpList _ _ _ (Oper.mk _ (Op.load 24 _) _ _ _ (some _) :: _) _ _); refine loadgR (K37) rfl rfl rfl ?_) | ((with_reducible show wpList _ _ _ (Oper.mk _ (Op.load 24 _) _ _ _ _ :: _) _ _); refine loadR (K3) rfl rfl rfl ?_) | ((with_reducible show wpList _ _ _ (Oper.mk _ (Op.load 24 _) _ _ _ (some _) :: _) _ _); refine loadgR (K3) rfl rfl rfl ?_))
              go_roundg gk2
              case rel => exact ⟨i + 1, by omega, by go_num, CL, K3, K16, HB⟩
              case measure => omega
    · as_aux_lemma =>
        have hVO : rwO f = false := rwO_no hV
        obtain ⟨n1, hn1⟩ : ∃ F, F = (rbR f).length := ⟨_, rfl⟩
        obtain ⟨h1, hh1⟩ : ∃ F, F = flatF (rbR f) := ⟨_, rfl⟩
        obtain ⟨IM, hIM⟩ : ∃ F, F = imR f := ⟨_, rfl⟩
        obtain ⟨FL, hFL⟩ : ∃ F, F = flR f := ⟨_, rfl⟩
        obtain ⟨N, hN⟩ : ∃ F, F = rsR f := ⟨_, rfl⟩
        obtain ⟨SC, hSC⟩ : ∃ F, F = rsS f := ⟨_, rfl⟩
        obtain ⟨NU, hNU⟩ : ∃ F, F = nuR f := ⟨_, rfl⟩
        have iRB : Hid (∀ W, Calls Try.prog 58 #[.agg (mk 4 f)] W fun e w' => ∃ g c, e = .returned (.tuple #[.slice (some ⟨g, 0, none⟩) n1 c, .bool false]) ∧ KRow 4 w' (.slice (some ⟨g, 0, none⟩) n1 c) n1 h1 ∧ Below W.heap.size W w') := by show ∀ W, _; intro W; rw [hn1, hh1, ← hVO]; exact (implBefore_any f W).mono fun e w' ⟨g, c, q1, q2, q3⟩ => ⟨g, c, q1, KRow.of_list (rbR_all f) q2, q3⟩
        have sRB : Hid (∀ W, Calls Try.prog 59 #[.agg (mk 4 f)] W fun e w' => ∃ g c, e = .returned (.tuple #[.slice (some ⟨g, 0, none⟩) n1 c, .bool false]) ∧ KRow 4 w' (.slice (some ⟨g, 0, none⟩) n1 c) n1 h1 ∧ Below W.heap.size W w') := by show ∀ W, _; intro W; rw [hn1, hh1, ← hVO]; exact (specBefore_any f W).mono fun e w' ⟨g, c, q1, q2, q3⟩ => ⟨g, c, q1, KRow.of_list (rbR_all f) q2, q3⟩
        have iIR : Hid (∀ W, Calls Try.prog 60 #[.agg (mk 4 f)] W fun e w' => e = .returned (.bool false) ∧ Below W.heap.size W w') := by show ∀ W, _; rw [← hVO]; exact implIsRow_any f
        have iIM : Hid (∀ W, Calls Try.prog 62 #[.agg (mk 4 f)] W fun e w' => e = .returned (.tuple #[.bool IM, .bool false]) ∧ Below W.heap.size W w') := by show ∀ W, _; rw [hIM, ← hVO]; exact implImage_any f
        have iFL : Hid (∀ W, Calls Try.prog 64 #[.agg (mk 4 f)] W fun e w' => e = .returned (.tuple #[.bool FL, .bool false]) ∧ Below W.heap.size W w') := by show ∀ W, _; rw [hFL, ← hVO]; exact implFlush_any f
        have iSR : Hid (∀ W, Calls Try.prog 66 #[.agg (mk 4 f)] W fun e w' => e = .returned (.tuple #[.agg (mk 4 N), .int .i64 SC, .bool false]) ∧ Below W.heap.size W w') := by show ∀ W, _; rw [hN, hSC, ← hVO]; exact implSlideRow_any f
        have iNU : Hid (∀ W, Calls Try.prog 68 #[.agg (mk 4 f)] W fun e w' => e = .returned (.tuple #[.int .i64 NU, .bool false]) ∧ Below W.heap.size W w') := by show ∀ W, _; rw [hNU, ← hVO]; exact implNum_any f
        have sIM : Hid (∀ W, Calls Try.prog 63 #[.agg (mk 4 f)] W fun e w' => e = .returned (.tuple #[.bool IM, .bool false]) ∧ Below W.heap.size W w') := by show ∀ W, _; rw [hIM, ← hVO]; exact specImage_any f
        have sFL : Hid (∀ W, Calls Try.prog 65 #[.agg (mk 4 f)] W fun e w' => e = .returned (.tuple #[.bool FL, .bool false]) ∧ Below W.heap.size W w') := by show ∀ W, _; rw [hFL, ← hVO]; exact specFlush_any f
        have sSR : Hid (∀ W, Calls Try.prog 67 #[.agg (mk 4 f)] W fun e w' => e = .returned (.tuple #[.agg (mk 4 N), .int .i64 SC, .bool false]) ∧ Below W.heap.size W w') := by show ∀ W, _; rw [hN, hSC, ← hVO]; exact specSlideRow_any f
        have sNU : Hid (∀ W, Calls Try.prog 69 #[.agg (mk 4 f)] W fun e w' => e = .returned (.tuple #[.int .i64 NU, .bool false]) ∧ Below W.heap.size W w') := by show ∀ W, _; rw [hNU, ← hVO]; exact specNum_any f
        have hn15 : n1 ≤ 15 := by rw [hn1]; exact rbR_15 f
        have dI : decide (0 < n1) = IM := by rw [hn1, hIM]; rfl
        have d60 : decide (60 < n1) = false := by simp; omega
        have hn0 : n1 = 0 := by rw [hn1, rbR_no hV]; rfl
        have hI0 : IM = false := by rw [hIM]; exact imR_no hV
        clear hn1 hh1 hIM hFL hN hSC hNU hV hVO hn15
        subst hn0 hI0
        have s1 : sameR N N = true := sameR_iff.2 fun _ _ => rfl
        have iN := neqR
        go_wp2_with (first | ((with_reducible show wpList _ _ _ (Oper.mk _ (Op.load 24 _) _ _ _ _ :: _) _ _); refine loadR (K3) rfl rfl rfl ?_) | ((with_reducible show wpList _ _ _ (Oper.mk _ (Op.load 24 _) _ _ _ (some _) :: _) _ _); refine loadgR (K3) rfl rfl rfl ?_))
        generalize w1.alloc (.cells (mk 4 f) 24) = w1a at *
        refine (iRB.out _).mono ?_
        rintro e w2 ⟨gl, cl1, rfl, RL, hb⟩
        replace K3 := K3.below hb K3.lt
        replace HB : Hid (Below w.heap.size w w2) := HB.out.trans (hb.mono HB.out.size)
        replace RL := Lib.hid RL
        clear hb
        go_wp2_with (first | ((with_reducible show wpList _ _ _ (Oper.mk _ (Op.load 24 _) _ _ _ _ :: _) _ _); refine loadR (K3) rfl rfl rfl ?_) | ((with_reducible show wpList _ _ _ (Oper.mk _ (Op.load 24 _) _ _ _ (some _) :: _) _ _); refine loadgR (K3) rfl rfl rfl ?_))
        refine (sRB.out _).mono ?_
        rintro e w3 ⟨gw, cw, rfl, RW, hb⟩
        replace K3 := K3.below hb K3.lt
        replace RL := Lib.hid (RL.out.below hb)
        replace HB : Hid (Below w.heap.size w w3) := HB.out.trans (hb.mono HB.out.size)
        replace RW := Lib.hid RW
        clear hb
        go_wp2_with (first | ((with_reducible show wpList _ _ _ (Oper.mk _ (Op.load 24 _) _ _ _ _ :: _) _ _); refine loadR (K3) rfl rfl rfl ?_) | ((with_reducible show wpList _ _ _ (Oper.mk _ (Op.load 24 _) _ _ _ (some _) :: _) _ _); refine loadgR (K3) rfl rfl rfl ?_))
        refine (iIR.out _).mono ?_
        rintro e w4 ⟨rfl, hb⟩
        replace K3 := K3.below hb K3.lt
        replace RL := Lib.hid (RL.out.below hb)
        replace RW := Lib.hid (RW.out.below hb)
        replace HB : Hid (Below w.heap.size w w4) := HB.out.trans (hb.mono HB.out.size)
        clear hb
        go_wp2_with fail
        refine (rRows_yes _ _ 0 h1 _ RL.out RW.out (by omega)).mono ?_
        rintro e w5 ⟨rfl, hb⟩
        replace K3 := K3.below hb K3.lt
        replace RL := Lib.hid (RL.out.below hb)
        replace RW := Lib.hid (RW.out.below hb)
        replace HB : Hid (Below w.heap.size w w5) := HB.out.trans (hb.mono HB.out.size)
        clear hb
        clear RW
        go_wp2_with (first | ((with_reducible show wpList _ _ _ (Oper.mk _ (Op.load 24 _) _ _ _ _ :: _) _ _); refine loadR (K3) rfl rfl rfl ?_) | ((with_reducible show wpList _ _ _ (Oper.mk _ (Op.load 24 _) _ _ _ (some _) :: _) _ _); refine loadgR (K3) rfl rfl rfl ?_))
        refine (iIM.out _).mono ?_
        rintro e w6 ⟨rfl, hb⟩
        replace K3 := K3.below hb K3.lt
        replace RL := Lib.hid (RL.out.below hb)
        replace HB : Hid (Below w.heap.size w w6) := HB.out.trans (hb.mono HB.out.size)
        clear hb
        go_wp2_with (first | ((with_reducible show wpList _ _ _ (Oper.mk _ (Op.load 24 _) _ _ _ _ :: _) _ _); refine loadR (K3) rfl rfl rfl ?_) | ((with_reducible show wpList _ _ _ (Oper.mk _ (Op.load 24 _) _ _ _ (some _) :: _) _ _); refine loadgR (K3) rfl rfl rfl ?_))
        refine (sIM.out _).mono ?_
        rintro e w7 ⟨rfl, hb⟩
        replace K3 := K3.below hb K3.lt
        replace RL := Lib.hid (RL.out.below hb)
        replace HB : Hid (Below w.heap.size w w7) := HB.out.trans (hb.mono HB.out.size)
        clear hb
        go_wp2_with (first | ((with_reducible show wpList _ _ _ (Oper.mk _ (Op.load 24 _) _ _ _ _ :: _) _ _); refine loadR (K3) rfl rfl rfl ?_) | ((with_reducible show wpList _ _ _ (Oper.mk _ (Op.load 24 _) _ _ _ (some _) :: _) _ _); refine loadgR (K3) rfl rfl rfl ?_))
        refine (iFL.out _).mono ?_
        rintro e w8 ⟨rfl, hb⟩
        replace K3 := K3.below hb K3.lt
        replace RL := Lib.hid (RL.out.below hb)
        replace HB : Hid (Below w.heap.size w w8) := HB.out.trans (hb.mono HB.out.size)
        clear hb
        go_wp2_with (first | ((with_reducible show wpList _ _ _ (Oper.mk _ (Op.load 24 _) _ _ _ _ :: _) _ _); refine loadR (K3) rfl rfl rfl ?_) | ((with_reducible show wpList _ _ _ (Oper.mk _ (Op.load 24 _) _ _ _ (some _) :: _) _ _); refine loadgR (K3) rfl rfl rfl ?_))
        refine (sFL.out _).mono ?_
        rintro e w9 ⟨rfl, hb⟩
        replace K3 := K3.below hb K3.lt
        replace RL := Lib.hid (RL.out.below hb)
        replace HB : Hid (Below w.heap.size w w9) := HB.out.trans (hb.mono HB.out.size)
        clear hb
        go_wp2_with (first | ((with_reducible show wpList _ _ _ (Oper.mk _ (Op.load 24 _) _ _ _ _ :: _) _ _); refine loadR (K3) rfl rfl rfl ?_) | ((with_reducible show wpList _ _ _ (Oper.mk _ (Op.load 24 _) _ _ _ (some _) :: _) _ _); refine loadgR (K3) rfl rfl rfl ?_))
        refine (iSR.out _).mono ?_
        rintro e w10 ⟨rfl, hb⟩
        replace K3 := K3.below hb K3.lt
        replace RL := Lib.hid (RL.out.below hb)
        replace HB : Hid (Below w.heap.size w w10) := HB.out.trans (hb.mono HB.out.size)
        clear hb
        replace K3 := K3.alloc (.cells (mk 4 N) 24)
        replace RL := Lib.hid (RL.out.below ((Below.refl _ _).alloc (Nat.le_refl _) (.cells (mk 4 N) 24)))
        have K16 := Blk.new w10 4 N 24
        replace HB : Hid (Below w.heap.size w (w10.alloc (.cells (mk 4 N) 24))) := HB.out.alloc HB.out.size _
        go_wp2_with (first | ((with_reducible show wpList _ _ _ (Oper.mk _ (Op.load 24 _) _ _ _ _ :: _) _ _); refine loadR (K3) rfl rfl rfl ?_) | ((with_reducible show wpList _ _ _ (Oper.mk _ (Op.load 24 _) _ _ _ (some _) :: _) _ _); refine loadgR (K3) rfl rfl rfl ?_))
        generalize w10.alloc (.cells (mk 4 N) 24) = w10a at *
        refine (sSR.out _).mono ?_
        rintro e w11 ⟨rfl, hb⟩
        replace K3 := K3.below hb K3.lt
        replace K16 := K16.below hb K16.lt
        replace RL := Lib.hid (RL.out.below hb)
        replace HB : Hid (Below w.heap.size w w11) := HB.out.trans (hb.mono HB.out.size)
        clear hb
        replace K3 := K3.alloc (.cells (mk 4 N) 24)
        replace K16 := K16.alloc (.cells (mk 4 N) 24)
        replace RL := Lib.hid (RL.out.below ((Below.refl _ _).alloc (Nat.le_refl _) (.cells (mk 4 N) 24)))
        have K19 := Blk.new w11 4 N 24
        replace HB : Hid (Below w.heap.size w (w11.alloc (.cells (mk 4 N) 24))) := HB.out.alloc HB.out.size _
        go_wp2_with (first | ((with_reducible show wpList _ _ _ (Oper.mk _ (Op.load 24 _) _ _ _ _ :: _) _ _); refine loadR (K3) rfl rfl rfl ?_) | ((with_reducible show wpList _ _ _ (Oper.mk _ (Op.load 24 _) _ _ _ (some _) :: _) _ _); refine loadgR (K3) rfl rfl rfl ?_) | ((with_reducible show wpList _ _ _ (Oper.mk _ (Op.load 24 _) _ _ _ _ :: _) _ _); refine loadR (K16) rfl rfl rfl ?_) | ((with_reducible show wpList _ _ _ (Oper.mk _ (Op.load 24 _) _ _ _ (some _) :: _) _ _); refine loadgR (K16) rfl rfl rfl ?_) | ((with_reducible show wpList _ _ _ (Oper.mk _ (Op.load 24 _) _ _ _ _ :: _) _ _); refine loadR (K19) rfl rfl rfl ?_) | ((with_reducible show wpList _ _ _ (Oper.mk _ (Op.load 24 _) _ _ _ (some _) :: _) _ _); refine loadgR (K19) rfl rfl rfl ?_))
        generalize w11.alloc (.cells (mk 4 N) 24) = w11a at *
        refine (iNU.out _).mono ?_
        rintro e w12 ⟨rfl, hb⟩
        replace K3 := K3.below hb K3.lt
        replace K16 := K16.below hb K16.lt
        replace K19 := K19.below hb K19.lt
        replace RL := Lib.hid (RL.out.below hb)
        replace HB : Hid (Below w.heap.size w w12) := HB.out.trans (hb.mono HB.out.size)
        clear hb
        clear K19
        go_wp2_with (first | ((with_reducible show wpList _ _ _ (Oper.mk _ (Op.load 24 _) _ _ _ _ :: _) _ _); refine loadR (K3) rfl rfl rfl ?_) | ((with_reducible show wpList _ _ _ (Oper.mk _ (Op.load 24 _) _ _ _ (some _) :: _) _ _); refine loadgR (K3) rfl rfl rfl ?_))
        refine (sNU.out _).mono ?_
        rintro e w13 ⟨rfl, hb⟩
        replace K3 := K3.below hb K3.lt
        replace K16 := K16.below hb K16.lt
        replace RL := Lib.hid (RL.out.below hb)
        replace HB : Hid (Below w.heap.size w w13) := HB.out.trans (hb.mono HB.out.size)
        clear hb
        go_wp2_with fail
        refine (drawRowAt_any a0 len0 cap0 _ hl (HR.out.code.later HB.out)).mono ?_
        rintro e w14 ⟨z9, rfl, hb⟩
        replace K3 := K3.below hb K3.lt
        replace K16 := K16.below hb K16.lt
        replace RL := Lib.hid (RL.out.below hb)
        replace HB : Hid (Below w.heap.size w w14) := HB.out.trans (hb.mono HB.out.size)
        clear hb
        obtain ⟨AR, hAR⟩ : ∃ F, F = atR z9 := ⟨_, rfl⟩
        obtain ⟨AO, hAO⟩ : ∃ F, F = atO z9 := ⟨_, rfl⟩
        have iAT : Hid (∀ W, Calls Try.prog 71 #[.int .i64 z9] W fun e w' => e = .returned (.tuple #[.agg (mk 4 AR), .bool AO]) ∧ Below W.heap.size W w') := by show ∀ W, _; rw [hAR, hAO]; exact implAt_any z9
        have sAT : Hid (∀ W, Calls Try.prog 72 #[.int .i64 z9] W fun e w' => e = .returned (.tuple #[.agg (mk 4 AR), .bool AO]) ∧ Below W.heap.size W w') := by show ∀ W, _; rw [hAR, hAO]; exact specAt_any z9
        have s9 : sameR AR AR = true := sameR_iff.2 fun _ _ => rfl
        clear hAR hAO
        go_wp2_with fail
        refine (iAT.out _).mono ?_
        rintro e w15 ⟨rfl, hb⟩
        replace K3 := K3.below hb K3.lt
        replace K16 := K16.below hb K16.lt
        replace RL := Lib.hid (RL.out.below hb)
        replace HB : Hid (Below w.heap.size w w15) := HB.out.trans (hb.mono HB.out.size)
        clear hb
        replace K3 := K3.alloc (.cells (mk 4 AR) 24)
        replace K16 := K16.alloc (.cells (mk 4 AR) 24)
        replace RL := Lib.hid (RL.out.below ((Below.refl _ _).alloc (Nat.le_refl _) (.cells (mk 4 AR) 24)))
        have K27 := Blk.new w15 4 AR 24
        replace HB : Hid (Below w.heap.size w (w15.alloc (.cells (mk 4 AR) 24))) := HB.out.alloc HB.out.size _
        go_wp2_with fail
        generalize w15.alloc (.cells (mk 4 AR) 24) = w15a at *
        refine (sAT.out _).mono ?_
        rintro e w16 ⟨rfl, hb⟩
        replace K3 := K3.below hb K3.lt
        replace K16 := K16.below hb K16.lt
        replace K27 := K27.below hb K27.lt
        replace RL := Lib.hid (RL.out.below hb)
        replace HB : Hid (Below w.heap.size w w16) := HB.out.trans (hb.mono HB.out.size)
        clear hb
        replace K3 := K3.alloc (.cells (mk 4 AR) 24)
        replace K16 := K16.alloc (.cells (mk 4 AR) 24)
        replace K27 := K27.alloc (.cells (mk 4 AR) 24)
        replace RL := Lib.hid (RL.out.below ((Below.refl _ _).alloc (Nat.le_refl _) (.cells (mk 4 AR) 24)))
        have K29 := Blk.new w16 4 AR 24
        replace HB : Hid (Below w.heap.size w (w16.alloc (.cells (mk 4 AR) 24))) := HB.out.alloc HB.out.size _
        go_wp2_with (first | ((with_reducible show wpList _ _ _ (Oper.mk _ (Op.load 24 _) _ _ _ _ :: _) _ _); refine loadR (K27) rfl rfl rfl ?_) | ((with_reducible show wpList _ _ _ (Oper.mk _ (Op.load 24 _) _ _ _ (some _) :: _) _ _); refine loadgR (K27) rfl rfl rfl ?_) | ((with_reducible show wpList _ _ _ (Oper.mk _ (Op.load 24 _) _ _ _ _ :: _) _ _); refine loadR (K29) rfl rfl rfl ?_) | ((with_reducible show wpList _ _ _ (Oper.mk _ (Op.load 24 _) _ _ _ (some _) :: _) _ _); refine loadgR (K29) rfl rfl rfl ?_))
        generalize w16.alloc (.cells (mk 4 AR) 24) = w16a at *
        refine (drawCountIm_any a0 len0 cap0 _ hl (HR.out.code.later HB.out)).mono ?_
        rintro e w17 ⟨z8, rfl, hb⟩
        replace K3 := K3.below hb K3.lt
        replace K16 := K16.below hb K16.lt
        replace K27 := K27.below hb K27.lt
        replace K29 := K29.below hb K29.lt
        replace RL := Lib.hid (RL.out.below hb)
        replace HB : Hid (Below w.heap.size w w17) := HB.out.trans (hb.mono HB.out.size)
        clear hb
        clear K27 K29
        obtain ⟨CR, hCR⟩ : ∃ F, F = ciR z8 := ⟨_, rfl⟩
        obtain ⟨CO, hCO⟩ : ∃ F, F = ciO z8 := ⟨_, rfl⟩
        have iCI : Hid (∀ W, Calls Try.prog 74 #[.int .i64 z8] W fun e w' => e = .returned (.tuple #[.int .i64 CR, .bool CO]) ∧ Below W.heap.size W w') := by show ∀ W, _; rw [hCR, hCO]; exact implCountIm_any z8
        have sCI : Hid (∀ W, Calls Try.prog 75 #[.int .i64 z8] W fun e w' => e = .returned (.tuple #[.int .i64 CR, .bool CO]) ∧ Below W.heap.size W w') := by show ∀ W, _; rw [hCR, hCO]; exact specCountIm_any z8
        clear hCR hCO
        go_wp2_with fail
        refine (iCI.out _).mono ?_
        rintro e w18 ⟨rfl, hb⟩
        replace K3 := K3.below hb K3.lt
        replace K16 := K16.below hb K16.lt
        replace RL := Lib.hid (RL.out.below hb)
        replace HB : Hid (Below w.heap.size w w18) := HB.out.trans (hb.mono HB.out.size)
        clear hb
        go_wp2_with fail
        refine (sCI.out _).mono ?_
        rintro e w19 ⟨rfl, hb⟩
        replace K3 := K3.below hb K3.lt
        replace K16 := K16.below hb K16.lt
        replace RL := Lib.hid (RL.out.below hb)
        replace HB : Hid (Below w.heap.size w w19) := HB.out.trans (hb.mono HB.out.size)
        clear hb
        clear RL K3 K16
        go_wp2_with fail
        go_loopg [36] 0 (fun gk s36 wr => gk = 0 ∧ s36 = .int .i64 0 ∧ Hid (Below w.heap.size w wr))
        case atStart => exact ⟨rfl, rfl, HB⟩
        case round =>
          clear HB
          obtain ⟨hg0, rfl, HB⟩ := hrel
          subst hg0
          go_wp2_with fail
          go_ret
          exact ⟨rfl, HB.out⟩
  · have dl : decide ((65536 : Int) < (len0 : Int)) = true := by simp; omega
    go_enter Try.func5, Try.ntmps5
    go_wp2_with fail
    refine (rBig_any a0 len0 cap0 _).mono ?_
    rintro e w' ⟨rfl, rfl⟩
    rw [dl]
    go_wp2_with fail
    go_ret
    exact ⟨rfl, HB.out⟩

noncomputable def laidWorld (os : Os) : World := World.holding Try.prog os ⟨#[], #[], []⟩
theorem laid_met (os : Os) : laidMet Try.prog Rows.fnRowsBackRow.laid ((laidWorld os).forCall (fun _ _ => 0) ⟨#[], #[.slice none 0 0], []⟩).memory := laidMet_of_run' 8 (by kernel_rfl) (by kernel_rfl)
theorem reads (os : Os) {H : Type} (enc : TypeId × Value → H) : ∃ places, DataW.whole enc Try.prog ((laidWorld os).forCall (fun _ _ => 0) ⟨#[], #[.slice none 0 0], []⟩).memory Try.f5.params.toList Rows.fnRowsBackSpec.vars false #[.slice none 0 0].toList 8 = some ([.nil], [], places) :=
  ⟨[], by kernel_rfl⟩
set_option linter.unusedVariables false in
set_option maxRecDepth 100000 in
theorem lifted (os : Os) (started : os.Started) (H : Type) (enc : TypeId × Value → H) (F : Stop.Interp) :
    ReturnsInHanded {} Try.checked os 5 .any ((OpenSpec.ofChange Rows.fnRowsBackSpec).preRow enc Try.prog Try.f5 Rows.fnRowsBackRow.domain false Rows.fnRowsBackRow.laid) (((OpenSpec.ofChange Rows.fnRowsBackSpec).at F).post enc Try.prog Try.f5 false true false false) := by
  obtain ⟨places, hx⟩ := reads os enc
  refine returnsInHanded_of_row (C := Try.checked) (s := (OpenSpec.ofChange Rows.fnRowsBackSpec)) own started (by kernel_rfl) Try.func5
    (witness_row_at (enc := enc) (C := Try.checked) false (laidWorld os) #[.slice none 0 0] rfl (by kernel_rfl) (by kernel_rfl) (by kernel_rfl)
      (OpenSpec.preRow_of_cond 8 hx (by kernel_rfl) (fun k hk => by cases hk) (by kernel_rfl) (laid_met os))) ?_
  intro W base args ds gs before hval0 hW _ hcond hsz hL hsh _
  have hval : ∀ (j : Nat) t v, Try.f5.params[j]? = some t → args[j]? = some v → Value.okWide Try.prog W .any base t v := hval0
  have hW' := hW
  obtain ⟨p, q, hA0, hV, rfl, hfz, hnd⟩ := hW
  have hA : DataW.TrodAll enc Try.prog W 0 (fun _ => true) true Try.f5.params.toList args.toList ds p := hA0
  rw [Try.params5] at hA hval
  obtain ⟨v0, vs0, d0, ds0, p0, q0, hargs, rfl, rfl, h0, r0⟩ := trodAll_cons hA
  obtain ⟨rfl, rfl, rfl⟩ := trodAll_nil r0
  obtain rfl : args = #[v0] := by cases args; simp_all
  obtain ⟨rfl, rfl⟩ := trodVars_none hV
  obtain ⟨a0, len0, cap0, rfl⟩ := okWide_slice Try.underlying22 (hval 0 22 v0 rfl rfl)
  have k0 := h0
  have lt0 : ∀ x ∈ p0, x.block < W.heap.size := by obtain ⟨m, hm⟩ := k0; exact DataW.trod_lt m _ _ _ hm
  obtain ⟨z0, w0⟩ : ∃ zs, IsRow .u8 W a0 len0 cap0 zs := by
    obtain ⟨fuel, hf⟩ := h0
    rcases open_ints Try.underlying22 Try.underlying5 (by kernel_rfl) hf with ⟨hcs, _⟩ | ⟨x, l, c, zs, hcs, _, hl, hm, hz, _, hcell, hwz⟩
    · simp [Value.cells] at hcs; obtain ⟨rfl, rfl, rfl⟩ := hcs; exact ⟨[], .inl ⟨rfl, rfl, rfl, rfl⟩⟩
    · simp [Value.cells] at hcs; obtain ⟨rfl, rfl, rfl⟩ := hcs; exact ⟨zs, .inr ⟨_, rfl, hl, hm, by simpa using hz, hcell, hwz⟩⟩
  clear hA0 hval0
  have hwalk : Calls Try.prog 5 #[.slice a0 len0 cap0] W fun e w' => e = .returned (.bool true) ∧ Below W.heap.size W w' := walk W hsh a0 len0 cap0 z0 w0
  refine hwalk.mono fun e W' ⟨he, bel⟩ => ?_
  subst he
  exact ⟨_, rfl, _, _, _, [], _, [], hW', trodAll_mk1 (shut_bool Try.underlying4 _), (trodAll_cons_mk (Below.trod laidOut (by kernel_rfl) (of_decide_eq_true (by kernel_rfl)) k0 bel lt0) trodAll_mk0), rfl, bel.frame _, fun h => by cases h⟩
theorem closed : joinedFacts Try.pinned.checked.prog 5 Try.f5 ((OpenSpec.ofChange Rows.fnRowsBackSpec)).bare Rows.fnRowsBackRow = true := by
  unfold joinedFacts
  repeat' with_reducible refine and_mk ?_ ?_
  case refine_1.refine_1.refine_1.refine_1.refine_1.refine_1.refine_2 => exact enters
  case refine_1.refine_1.refine_1.refine_1.refine_1.refine_2 => exact (show (Rows.fnRowsBackRow.lifted == Try.prog.liftsFinal) = true by rw [final_no]; rfl)
  case refine_1.refine_1.refine_1.refine_1.refine_2 => exact (show (Try.prog.make == some Rows.fnRowsBackRow.make) = true by rw [make_cut]; rfl)
  case refine_1.refine_1.refine_1.refine_1.refine_1.refine_1.refine_1.refine_1.refine_1.refine_1.refine_1.refine_1.refine_1.refine_1.refine_1.refine_1.refine_1.refine_1.refine_1.refine_1.refine_1.refine_1.refine_1.refine_1.refine_1.refine_1.refine_1.refine_1.refine_1.refine_1.refine_2 => exact laidOut
  case refine_1.refine_1.refine_1.refine_1.refine_1.refine_1.refine_1.refine_1.refine_1.refine_1.refine_1.refine_1.refine_1.refine_1.refine_1.refine_1.refine_1.refine_1.refine_1.refine_1.refine_1.refine_1.refine_1.refine_1.refine_1.refine_1.refine_1.refine_1.refine_1.refine_2 => exact maps_rowed
  case refine_1.refine_1.refine_1.refine_1.refine_1.refine_1.refine_1.refine_2 => exact stops_heard
  all_goals (as_aux_lemma => kernel_rfl)
theorem proved : Rows.FnRowsBackSaid :=
  OpenClaim.holds_of_cond 5 Try.f5 rfl rfl rfl rfl rfl rfl rfl ⟨rfl, rfl, rfl, rfl, rfl⟩ rfl rfl rfl rfl rfl (by kernel_rfl) Try.func5 closed
    (of_decide_eq_true (by kernel_rfl)) (by unfold Func.isWrapper; first | (rw [if_pos (by decide +kernel)]; kernel_rfl) | (rw [if_neg (by decide +kernel)]; exact ⟨rfl, rfl⟩))
    (fun os started H enc _ F => by rw [OpenClaim.pre_eq_preRow]; exact lifted os started H enc F)
#print axioms proved
end Go.Proofs.Ytpiegllffkjneaa.fnRowsBack
