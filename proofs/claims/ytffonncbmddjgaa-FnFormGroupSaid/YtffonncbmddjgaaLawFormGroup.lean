/-
  Proved: for every code, the law FnFormGroup returns true, and the code reads as it did. No condition.
-/
import Derived.Test.YtffonncbmddjgaaDraws
import Derived.Test.YtffonncbmddjgaaFormSlide
import Derived.Test.YtffonncbmddjgaaImplForm3
import Derived.Test.YtffonncbmddjgaaImplSlideBoard
import Derived.Test.YtffonncbmddjgaaSumOf
import Derived.Test.YtffonncbmddjgaaPairs
import Derived.Test.YtffonncbmddjgaaEqs
import Derived.Test.YtffonncbmddjgaaGuards
import Derived.Test.YtffonncbmddjgaaClosed
namespace Go.Proofs.Ytffonncbmddjgaa.fnFormGroup
open Go.ChangeShapes Go.WideShapes Go.ChangeAt Go.RowKit Plain
attribute [local go_sem] store_new
theorem of_same {P : Program} {f : FuncId} {a : Array Value} {w : World} {v : Value} (h : Calls P f a w fun e w' => e = .returned v ∧ w = w') : Calls P f a w fun e w' => e = .returned v ∧ Below w.heap.size w w' :=
  h.mono fun _ _ h => ⟨h.1, by rw [← h.2]; exact Below.refl _ _⟩
theorem IsRow.kept {k : IntKind} {w w' : World} {a : Option Addr} {len cap : Nat} {z : List Int} (h : IsRow k w a len cap z) (hb : Below w.heap.size w w') : IsRow k w' a len cap z := by
  rcases h with h | ⟨x, h0, h1, h2, h3, h4, h5⟩
  · exact .inl h
  · refine .inr ⟨x, h0, h1, h2, h3, fun i hi => ?_, h5⟩
    have := h4 i hi
    exact (hb.cell (World.block_lt_of_cell? w _ this)).trans this
theorem back_R : ∀ v, v < 8 → backR (v : Nat) = (backN v : Nat) := by decide
theorem beh_R : ∀ v, v < 8 → behR (v : Nat) (backN v : Nat) = 0 ∧ behO (v : Nat) (backN v : Nat) = true ∧ behR (backN v : Nat) (v : Nat) = 0 ∧ behO (backN v : Nat) (v : Nat) = true := by decide
theorem form_nat (f : Nat → Int) (k : Nat) (hV : Vd f) (hk : k < 8) (W : World) : Calls Try.prog 25 #[.agg (mk 16 f), .int .i64 k] W fun e w' => e = .returned (.tuple #[.agg (mk 16 (formF f k)), .bool true]) ∧ Below W.heap.size W w' := by
  have h := implForm_any f (k : Int) W
  obtain ⟨y1, y2⟩ := form_yes (f := f) (k := (k : Int)) ⟨hV, by omega, by omega⟩
  rw [y1, y2, Int.toNat_natCast] at h
  exact h
theorem form_home (f : Nat → Int) (v : Nat) (hV : Vd f) (hv : v < 8) (W : World) : Calls Try.prog 25 #[.agg (mk 16 (formF f v)), .int .i64 (backN v : Nat)] W fun e w' => e = .returned (.tuple #[.agg (mk 16 f), .bool true]) ∧ Below W.heap.size W w' := by
  have h := form_nat (formF f v) (backN v) (form_vd hV v) (back_lt v hv) W
  rw [mk_congr (form_back f hv)] at h
  exact h
theorem slide_nat (f : Nat → Int) (d : Nat) (hV : Vd f) (hd : d < 4) (W : World) : Calls Try.prog 38 #[.agg (mk 16 f), .int .i64 d] W fun e w' => e = .returned (.tuple #[.agg (mk 16 (slideB f d)), .int .i64 (slideS f d 4), .bool true]) ∧ Below W.heap.size W w' := by
  have h := implSlide_any f (d : Int) W
  obtain ⟨y1, y2, y3, _⟩ := slide_yes (f := f) (d := (d : Int)) ⟨hV, by omega, by omega⟩
  rw [y1, y2, y3, Int.toNat_natCast] at h
  exact h
theorem beh_nat {x y : Int} (h : behO x y = true) : ∃ a b : Nat, x = a ∧ y = b ∧ a < 8 ∧ b < 8 ∧ behR x y = (behN a b : Nat) := by
  have h2 := of_decide_eq_true h
  refine ⟨x.toNat, y.toNat, by omega, by omega, by omega, by omega, ?_⟩
  unfold behR; rw [if_pos h2]
theorem side_nat {x y : Int} (h : sideO x y = true) : ∃ a b : Nat, x = a ∧ y = b ∧ a < 8 ∧ b < 4 ∧ sideR x y = (sideN a b : Nat) := by
  have h2 := of_decide_eq_true h
  refine ⟨x.toNat, y.toNat, by omega, by omega, by omega, by omega, ?_⟩
  unfold sideR; rw [if_pos h2]
set_option maxHeartbeats 16000000 in
set_option maxRecDepth 100000 in
theorem walk (w : World) (_ : w.ShapedOpen Try.prog) (a0 : Option Addr) (len0 cap0 : Nat) (z0 : List Int) (hr : IsRow .u8 w a0 len0 cap0 z0) :
    Calls Try.prog 3 #[.slice a0 len0 cap0] w fun e w' => e = .returned (.bool true) ∧ Below w.heap.size w w' := by
  have z16 := zero16
  have HR := Lib.hid hr
  have HB : Hid (Below w.heap.size w w) := Below.refl w.heap.size w
  clear hr
  by_cases hl : len0 ≤ 65536
  · have dl : decide ((65536 : Int) < (len0 : Int)) = false := by simp; omega
    go_enter Try.func3, Try.ntmps3
    go_wp2_with fail
    refine (vBig_any a0 len0 cap0 _).mono ?_
    rintro e w' ⟨rfl, rfl⟩
    rw [dl]
    clear dl
    go_wp2_with fail
    refine (drawFormBoard_any a0 len0 cap0 _ hl (HR.out.code)).mono ?_
    rintro e w1 ⟨f, k, rfl, hb⟩
    have HB : Hid (Below w.heap.size w w1) := HB.out.trans (hb.mono HB.out.size)
    clear hb
    have K3 := Blk.new w1 16 f 27
    have HB : Hid (Below w.heap.size w (w1.alloc (.cells (mk 16 f) 27))) := HB.out.alloc HB.out.size _
    obtain ⟨F5, hF5⟩ : ∃ F, F = formR f k := ⟨_, rfl⟩
    obtain ⟨O5, hO5⟩ : ∃ F, F = formO f k := ⟨_, rfl⟩
    obtain ⟨BK, hBK⟩ : ∃ F, F = backR k := ⟨_, rfl⟩
    obtain ⟨TK, hTK⟩ : ∃ F, F = backO k := ⟨_, rfl⟩
    have iFB : Hid (∀ W, Calls Try.prog 25 #[.agg (mk 16 f), .int .i64 k] W fun e w' => e = .returned (.tuple #[.agg (mk 16 F5), .bool O5]) ∧ Below W.heap.size W w') := by show ∀ W, _; rw [hF5, hO5]; exact implForm_any f k
    have sFB : Hid (∀ W, Calls Try.prog 26 #[.agg (mk 16 f), .int .i64 k] W fun e w' => e = .returned (.tuple #[.agg (mk 16 F5), .bool O5]) ∧ Below W.heap.size W w') := by show ∀ W, _; rw [hF5, hO5]; exact specForm_any f k
    have iBK : Hid (∀ W, Calls Try.prog 31 #[.int .i64 k] W fun e w' => e = .returned (.tuple #[.int .i64 BK, .bool TK]) ∧ Below W.heap.size W w') := by show ∀ W, _; rw [hBK, hTK]; exact fun W => of_same (implBack_any k W)
    have sBK : Hid (∀ W, Calls Try.prog 32 #[.int .i64 k] W fun e w' => e = .returned (.tuple #[.int .i64 BK, .bool TK]) ∧ Below W.heap.size W w') := by show ∀ W, _; rw [hBK, hTK]; exact specBack_any k
    have HF5 := Lib.hid hF5
    have HO5 := Lib.hid hO5
    have HBK := Lib.hid hBK
    have HTK := Lib.hid hTK
    clear hF5 hO5 hBK hTK
    go_wp2_with (first | ((with_reducible show wpList _ _ _ (Oper.mk _ (Op.load 27 _) _ _ _ _ :: _) _ _); refine loadB (K3) rfl rfl rfl ?_) | ((with_reducible show wpList _ _ _ (Oper.mk _ (Op.load 27 _) _ _ _ (some _) :: _) _ _); refine loadgB (K3) rfl rfl rfl ?_))
    generalize w1.alloc (.cells (mk 16 f) 27) = w1a at *
    refine (iFB.out _).mono ?_
    rintro e w2 ⟨rfl, hb⟩
    have K3 := K3.below hb K3.lt
    have HB : Hid (Below w.heap.size w w2) := HB.out.trans (hb.mono HB.out.size)
    clear hb
    have K3 := K3.alloc (.cells (mk 16 F5) 27)
    have K5 := Blk.new w2 16 F5 27
    have HB : Hid (Below w.heap.size w (w2.alloc (.cells (mk 16 F5) 27))) := HB.out.alloc HB.out.size _
    go_wp2_with (first | ((with_reducible show wpList _ _ _ (Oper.mk _ (Op.load 27 _) _ _ _ _ :: _) _ _); refine loadB (K3) rfl rfl rfl ?_) | ((with_reducible show wpList _ _ _ (Oper.mk _ (Op.load 27 _) _ _ _ (some _) :: _) _ _); refine loadgB (K3) rfl rfl rfl ?_))
    generalize w2.alloc (.cells (mk 16 F5) 27) = w2a at *
    refine (sFB.out _).mono ?_
    rintro e w3 ⟨rfl, hb⟩
    have K3 := K3.below hb K3.lt
    have K5 := K5.below hb K5.lt
    have HB : Hid (Below w.heap.size w w3) := HB.out.trans (hb.mono HB.out.size)
    clear hb
    have K3 := K3.alloc (.cells (mk 16 F5) 27)
    have K5 := K5.alloc (.cells (mk 16 F5) 27)
    have K7 := Blk.new w3 16 F5 27
    have HB : Hid (Below w.heap.size w (w3.alloc (.cells (mk 16 F5) 27))) := HB.out.alloc HB.out.size _
    go_wp2_with fail
    generalize w3.alloc (.cells (mk 16 F5) 27) = w3a at *
    refine (vCut1_any a0 len0 cap0 z0 _ hl (IsRow.kept HR.out HB.out)).mono ?_
    rintro e w4 ⟨g1, m1, c1, rfl, hm1, hcr, hb⟩
    have K3 := K3.below hb K3.lt
    have K5 := K5.below hb K5.lt
    have K7 := K7.below hb K7.lt
    have HB : Hid (Below w.heap.size w w4) := HB.out.trans (hb.mono HB.out.size)
    clear hb
    have HCR := Lib.hid hcr
    clear hcr
    go_wp2_with fail
    refine (drawFormBehind_any (some ⟨g1, 0, none⟩) m1 c1 _ hm1 HCR.out).mono ?_
    rintro e w5 ⟨x, y, rfl, hb⟩
    have K3 := K3.below hb K3.lt
    have K5 := K5.below hb K5.lt
    have K7 := K7.below hb K7.lt
    have HB : Hid (Below w.heap.size w w5) := HB.out.trans (hb.mono HB.out.size)
    clear hb
    clear HCR
    obtain ⟨BE, hBE⟩ : ∃ F, F = behR x y := ⟨_, rfl⟩
    obtain ⟨FI, hFI⟩ : ∃ F, F = behO x y := ⟨_, rfl⟩
    have iBE : Hid (∀ W, Calls Try.prog 29 #[.int .i64 x, .int .i64 y] W fun e w' => e = .returned (.tuple #[.int .i64 BE, .bool FI]) ∧ Below W.heap.size W w') := by show ∀ W, _; rw [hBE, hFI]; exact fun W => of_same (implBehind_any x y W)
    have sBE : Hid (∀ W, Calls Try.prog 30 #[.int .i64 x, .int .i64 y] W fun e w' => e = .returned (.tuple #[.int .i64 BE, .bool FI]) ∧ Below W.heap.size W w') := by show ∀ W, _; rw [hBE, hFI]; exact specBehind_any x y
    have HBE := Lib.hid hBE
    have HFI := Lib.hid hFI
    clear hBE hFI
    go_wp2_with fail
    refine (iBE.out _).mono ?_
    rintro e w6 ⟨rfl, hb⟩
    have K3 := K3.below hb K3.lt
    have K5 := K5.below hb K5.lt
    have K7 := K7.below hb K7.lt
    have HB : Hid (Below w.heap.size w w6) := HB.out.trans (hb.mono HB.out.size)
    clear hb
    go_wp2_with fail
    refine (sBE.out _).mono ?_
    rintro e w7 ⟨rfl, hb⟩
    have K3 := K3.below hb K3.lt
    have K5 := K5.below hb K5.lt
    have K7 := K7.below hb K7.lt
    have HB : Hid (Below w.heap.size w w7) := HB.out.trans (hb.mono HB.out.size)
    clear hb
    go_wp2_with fail
    refine (iBK.out _).mono ?_
    rintro e w8 ⟨rfl, hb⟩
    have K3 := K3.below hb K3.lt
    have K5 := K5.below hb K5.lt
    have K7 := K7.below hb K7.lt
    have HB : Hid (Below w.heap.size w w8) := HB.out.trans (hb.mono HB.out.size)
    clear hb
    go_wp2_with fail
    refine (sBK.out _).mono ?_
    rintro e w9 ⟨rfl, hb⟩
    have K3 := K3.below hb K3.lt
    have K5 := K5.below hb K5.lt
    have K7 := K7.below hb K7.lt
    have HB : Hid (Below w.heap.size w w9) := HB.out.trans (hb.mono HB.out.size)
    clear hb
    go_wp2_with fail
    refine (vCut2_any a0 len0 cap0 z0 _ hl (IsRow.kept HR.out HB.out)).mono ?_
    rintro e w10 ⟨g2, m2, c2, rfl, hm2, hcr, hb⟩
    have K3 := K3.below hb K3.lt
    have K5 := K5.below hb K5.lt
    have K7 := K7.below hb K7.lt
    have HB : Hid (Below w.heap.size w w10) := HB.out.trans (hb.mono HB.out.size)
    clear hb
    have HCR := Lib.hid hcr
    clear hcr
    go_wp2_with fail
    refine (drawFormSide_any (some ⟨g2, 0, none⟩) m2 c2 _ hm2 HCR.out).mono ?_
    rintro e w11 ⟨q, d, rfl, hb⟩
    have K3 := K3.below hb K3.lt
    have K5 := K5.below hb K5.lt
    have K7 := K7.below hb K7.lt
    have HB : Hid (Below w.heap.size w w11) := HB.out.trans (hb.mono HB.out.size)
    clear hb
    clear HCR
    obtain ⟨SI, hSI⟩ : ∃ F, F = sideR q d := ⟨_, rfl⟩
    obtain ⟨ON, hON⟩ : ∃ F, F = sideO q d := ⟨_, rfl⟩
    have iSI : Hid (∀ W, Calls Try.prog 34 #[.int .i64 q, .int .i64 d] W fun e w' => e = .returned (.tuple #[.int .i64 SI, .bool ON]) ∧ Below W.heap.size W w') := by show ∀ W, _; rw [hSI, hON]; exact fun W => of_same (implSide_any q d W)
    have sSI : Hid (∀ W, Calls Try.prog 35 #[.int .i64 q, .int .i64 d] W fun e w' => e = .returned (.tuple #[.int .i64 SI, .bool ON]) ∧ Below W.heap.size W w') := by show ∀ W, _; rw [hSI, hON]; exact fun W => of_same (specSide_any q d W)
    have HSI := Lib.hid hSI
    have HON := Lib.hid hON
    clear hSI hON
    go_wp2_with fail
    refine (iSI.out _).mono ?_
    rintro e w12 ⟨rfl, hb⟩
    have K3 := K3.below hb K3.lt
    have K5 := K5.below hb K5.lt
    have K7 := K7.below hb K7.lt
    have HB : Hid (Below w.heap.size w w12) := HB.out.trans (hb.mono HB.out.size)
    clear hb
    go_wp2_with fail
    refine (sSI.out _).mono ?_
    rintro e w13 ⟨rfl, hb⟩
    have K3 := K3.below hb K3.lt
    have K5 := K5.below hb K5.lt
    have K7 := K7.below hb K7.lt
    have HB : Hid (Below w.heap.size w w13) := HB.out.trans (hb.mono HB.out.size)
    clear hb
    have iE := fun (F G : Nat → Int) (W : World) => eqB 9996 F G W
    have s1 : sameB F5 F5 = true := sameB_iff.2 fun _ _ => rfl
    have s2 : sameB f f = true := sameB_iff.2 fun _ _ => rfl
    cases hO : O5 with
    | true =>
      have hT : TK = true := by
        have h := of_decide_eq_true (HO5.out.symm.trans hO)
        rw [HTK.out]; exact decide_eq_true h.2
      subst hO hT
      have hk : 0 ≤ k ∧ k ≤ 7 := by have h := HTK.out; unfold backO at h; exact of_decide_eq_true h.symm
      obtain ⟨v, hkv, hv⟩ := isForm_nat hk.1 hk.2
      obtain ⟨bb1, bb2, bb3, bb4⟩ := beh_R v hv
      have hBv : BK = (backN v : Nat) := by rw [HBK.out, hkv]; exact back_R v hv
      have iZ : Hid (∀ W, Calls Try.prog 29 #[.int .i64 k, .int .i64 BK] W fun e w' => e = .returned (.tuple #[.int .i64 0, .bool true]) ∧ Below W.heap.size W w') := by show ∀ W, _; rw [hkv, hBv]; intro W; have h := of_same (implBehind_any (v : Int) (backN v : Nat) W); rw [bb1, bb2] at h; exact h
      have iY : Hid (∀ W, Calls Try.prog 29 #[.int .i64 BK, .int .i64 k] W fun e w' => e = .returned (.tuple #[.int .i64 0, .bool true]) ∧ Below W.heap.size W w') := by show ∀ W, _; rw [hkv, hBv]; intro W; have h := of_same (implBehind_any (backN v : Nat) (v : Int) W); rw [bb3, bb4] at h; exact h
      have HKV := Lib.hid hkv
      have HVV := Lib.hid hv
      have HBV := Lib.hid hBv
      clear hkv hv hBv bb1 bb2 bb3 bb4
      clear hk
      go_wp2_with (first | ((with_reducible show wpList _ _ _ (Oper.mk _ (Op.load 27 _) _ _ _ _ :: _) _ _); refine loadB (K5) rfl rfl rfl ?_) | ((with_reducible show wpList _ _ _ (Oper.mk _ (Op.load 27 _) _ _ _ (some _) :: _) _ _); refine loadgB (K5) rfl rfl rfl ?_) | ((with_reducible show wpList _ _ _ (Oper.mk _ (Op.load 27 _) _ _ _ _ :: _) _ _); refine loadB (K7) rfl rfl rfl ?_) | ((with_reducible show wpList _ _ _ (Oper.mk _ (Op.load 27 _) _ _ _ (some _) :: _) _ _); refine loadgB (K7) rfl rfl rfl ?_))
      refine (iZ.out _).mono ?_
      rintro e w14 ⟨rfl, hb⟩
      have K3 := K3.below hb K3.lt
      have K5 := K5.below hb K5.lt
      have K7 := K7.below hb K7.lt
      have HB : Hid (Below w.heap.size w w14) := HB.out.trans (hb.mono HB.out.size)
      clear hb
      go_wp2_with fail
      refine (iY.out _).mono ?_
      rintro e w15 ⟨rfl, hb⟩
      have K3 := K3.below hb K3.lt
      have K5 := K5.below hb K5.lt
      have K7 := K7.below hb K7.lt
      have HB : Hid (Below w.heap.size w w15) := HB.out.trans (hb.mono HB.out.size)
      clear hb
      have hOK : FormOk f k := of_decide_eq_true HO5.out.symm
      have HV := Lib.hid hOK.1
      have hF : F5 = formF f v := by rw [HF5.out, (form_yes hOK).1, HKV.out, Int.toNat_natCast]
      subst hF
      clear hOK
      have iHome : Hid (∀ W, Calls Try.prog 25 #[.agg (mk 16 (formF f v)), .int .i64 BK] W fun e w' => e = .returned (.tuple #[.agg (mk 16 f), .bool true]) ∧ Below W.heap.size W w') := by show ∀ W, _; rw [HBV.out]; exact form_home f v HV.out HVV.out
      have iS1 : Hid (∀ W, Calls Try.prog 36 #[.agg (mk 16 f)] W fun e w' => e = .returned (.tuple #[.int .i64 (sumR f), .bool true]) ∧ Below W.heap.size W w') := by show ∀ W, _; rw [← vdO_yes HV.out]; exact implSum_any f
      have iS2 : Hid (∀ W, Calls Try.prog 36 #[.agg (mk 16 (formF f v))] W fun e w' => e = .returned (.tuple #[.int .i64 (sumR f), .bool true]) ∧ Below W.heap.size W w') := by show ∀ W, _; rw [← vdO_yes (form_vd HV.out v), ← sumR_form HV.out HVV.out]; exact implSum_any _
      have iP1 : Hid (∀ W, Calls Try.prog 37 #[.agg (mk 16 f)] W fun e w' => e = .returned (.tuple #[.int .i64 (pairsR f), .bool true]) ∧ Below W.heap.size W w') := by show ∀ W, _; rw [← vdO_yes HV.out]; exact implPairs_any f
      have iP2 : Hid (∀ W, Calls Try.prog 37 #[.agg (mk 16 (formF f v))] W fun e w' => e = .returned (.tuple #[.int .i64 (pairsR f), .bool true]) ∧ Below W.heap.size W w') := by show ∀ W, _; rw [← vdO_yes (form_vd HV.out v), ← pairsR_form HV.out HVV.out]; exact implPairs_any _
      generalize sumR f = SU at *
      generalize pairsR f = PA at *
      go_wp2_with (first | ((with_reducible show wpList _ _ _ (Oper.mk _ (Op.load 27 _) _ _ _ _ :: _) _ _); refine loadB (K5) rfl rfl rfl ?_) | ((with_reducible show wpList _ _ _ (Oper.mk _ (Op.load 27 _) _ _ _ (some _) :: _) _ _); refine loadgB (K5) rfl rfl rfl ?_) | ((with_reducible show wpList _ _ _ (Oper.mk _ (Op.load 27 _) _ _ _ _ :: _) _ _); refine loadB (K7) rfl rfl rfl ?_) | ((with_reducible show wpList _ _ _ (Oper.mk _ (Op.load 27 _) _ _ _ (some _) :: _) _ _); refine loadgB (K7) rfl rfl rfl ?_))
      refine (iHome.out _).mono ?_
      rintro e w16 ⟨rfl, hb⟩
      have K3 := K3.below hb K3.lt
      have K5 := K5.below hb K5.lt
      have K7 := K7.below hb K7.lt
      have HB : Hid (Below w.heap.size w w16) := HB.out.trans (hb.mono HB.out.size)
      clear hb
      have K3 := K3.alloc (.cells (mk 16 f) 27)
      have K5 := K5.alloc (.cells (mk 16 f) 27)
      have K7 := K7.alloc (.cells (mk 16 f) 27)
      have K9 := Blk.new w16 16 f 27
      have HB : Hid (Below w.heap.size w (w16.alloc (.cells (mk 16 f) 27))) := HB.out.alloc HB.out.size _
      go_wp2_with (first | ((with_reducible show wpList _ _ _ (Oper.mk _ (Op.load 27 _) _ _ _ _ :: _) _ _); refine loadB (K3) rfl rfl rfl ?_) | ((with_reducible show wpList _ _ _ (Oper.mk _ (Op.load 27 _) _ _ _ (some _) :: _) _ _); refine loadgB (K3) rfl rfl rfl ?_))
      generalize w16.alloc (.cells (mk 16 f) 27) = w16a at *
      refine (iS1.out _).mono ?_
      rintro e w17 ⟨rfl, hb⟩
      have K3 := K3.below hb K3.lt
      have K5 := K5.below hb K5.lt
      have K7 := K7.below hb K7.lt
      have K9 := K9.below hb K9.lt
      have HB : Hid (Below w.heap.size w w17) := HB.out.trans (hb.mono HB.out.size)
      clear hb
      go_wp2_with (first | ((with_reducible show wpList _ _ _ (Oper.mk _ (Op.load 27 _) _ _ _ _ :: _) _ _); refine loadB (K5) rfl rfl rfl ?_) | ((with_reducible show wpList _ _ _ (Oper.mk _ (Op.load 27 _) _ _ _ (some _) :: _) _ _); refine loadgB (K5) rfl rfl rfl ?_))
      refine (iS2.out _).mono ?_
      rintro e w18 ⟨rfl, hb⟩
      have K3 := K3.below hb K3.lt
      have K5 := K5.below hb K5.lt
      have K7 := K7.below hb K7.lt
      have K9 := K9.below hb K9.lt
      have HB : Hid (Below w.heap.size w w18) := HB.out.trans (hb.mono HB.out.size)
      clear hb
      go_wp2_with (first | ((with_reducible show wpList _ _ _ (Oper.mk _ (Op.load 27 _) _ _ _ _ :: _) _ _); refine loadB (K3) rfl rfl rfl ?_) | ((with_reducible show wpList _ _ _ (Oper.mk _ (Op.load 27 _) _ _ _ (some _) :: _) _ _); refine loadgB (K3) rfl rfl rfl ?_))
      refine (iP1.out _).mono ?_
      rintro e w19 ⟨rfl, hb⟩
      have K3 := K3.below hb K3.lt
      have K5 := K5.below hb K5.lt
      have K7 := K7.below hb K7.lt
      have K9 := K9.below hb K9.lt
      have HB : Hid (Below w.heap.size w w19) := HB.out.trans (hb.mono HB.out.size)
      clear hb
      go_wp2_with (first | ((with_reducible show wpList _ _ _ (Oper.mk _ (Op.load 27 _) _ _ _ _ :: _) _ _); refine loadB (K5) rfl rfl rfl ?_) | ((with_reducible show wpList _ _ _ (Oper.mk _ (Op.load 27 _) _ _ _ (some _) :: _) _ _); refine loadgB (K5) rfl rfl rfl ?_))
      refine (iP2.out _).mono ?_
      rintro e w20 ⟨rfl, hb⟩
      have K3 := K3.below hb K3.lt
      have K5 := K5.below hb K5.lt
      have K7 := K7.below hb K7.lt
      have K9 := K9.below hb K9.lt
      have HB : Hid (Below w.heap.size w w20) := HB.out.trans (hb.mono HB.out.size)
      clear hb
      cases hfi : FI with
      | true =>
        obtain ⟨p1, p2, hp1, hp2, hl1, hl2, hBEv⟩ := beh_nat (HFI.out.symm.trans hfi)
        have hBE2 := HBE.out.trans hBEv
        have iX1 : Hid (∀ W, Calls Try.prog 25 #[.agg (mk 16 f), .int .i64 x] W fun e w' => e = .returned (.tuple #[.agg (mk 16 (formF f p1)), .bool true]) ∧ Below W.heap.size W w') := by show ∀ W, _; rw [hp1]; exact form_nat f p1 HV.out hl1
        have iX2 : Hid (∀ W, Calls Try.prog 25 #[.agg (mk 16 (formF f p1)), .int .i64 y] W fun e w' => e = .returned (.tuple #[.agg (mk 16 (formF f (behN p1 p2))), .bool true]) ∧ Below W.heap.size W w') := by show ∀ W, _; rw [hp2, ← mk_congr (form_beh f hl1 hl2)]; exact form_nat _ p2 (form_vd HV.out p1) hl2
        have iX3 : Hid (∀ W, Calls Try.prog 25 #[.agg (mk 16 f), .int .i64 BE] W fun e w' => e = .returned (.tuple #[.agg (mk 16 (formF f (behN p1 p2))), .bool true]) ∧ Below W.heap.size W w') := by show ∀ W, _; rw [hBE2]; exact form_nat f _ HV.out (beh_lt p1 hl1 p2 hl2)
        have s3 : sameB (formF f (behN p1 p2)) (formF f (behN p1 p2)) = true := sameB_iff.2 fun _ _ => rfl
        clear hp1 hp2 hl1 hl2 hBEv hBE2 hfi
        generalize formF f (behN p1 p2) = FX at *
        generalize formF f p1 = FP at *
        go_wp2_with (first | ((with_reducible show wpList _ _ _ (Oper.mk _ (Op.load 27 _) _ _ _ _ :: _) _ _); refine loadB (K9) rfl rfl rfl ?_) | ((with_reducible show wpList _ _ _ (Oper.mk _ (Op.load 27 _) _ _ _ (some _) :: _) _ _); refine loadgB (K9) rfl rfl rfl ?_) | ((with_reducible show wpList _ _ _ (Oper.mk _ (Op.load 27 _) _ _ _ _ :: _) _ _); refine loadB (K3) rfl rfl rfl ?_) | ((with_reducible show wpList _ _ _ (Oper.mk _ (Op.load 27 _) _ _ _ (some _) :: _) _ _); refine loadgB (K3) rfl rfl rfl ?_))
        refine (iX1.out _).mono ?_
        rintro e w21 ⟨rfl, hb⟩
        have K3 := K3.below hb K3.lt
        have K5 := K5.below hb K5.lt
        have K7 := K7.below hb K7.lt
        have K9 := K9.below hb K9.lt
        have HB : Hid (Below w.heap.size w w21) := HB.out.trans (hb.mono HB.out.size)
        clear hb
        have K3 := K3.alloc (.cells (mk 16 FP) 27)
        have K5 := K5.alloc (.cells (mk 16 FP) 27)
        have K7 := K7.alloc (.cells (mk 16 FP) 27)
        have K9 := K9.alloc (.cells (mk 16 FP) 27)
        have KX1 := Blk.new w21 16 FP 27
        have HB : Hid (Below w.heap.size w (w21.alloc (.cells (mk 16 FP) 27))) := HB.out.alloc HB.out.size _
        go_wp2_with (first | ((with_reducible show wpList _ _ _ (Oper.mk _ (Op.load 27 _) _ _ _ _ :: _) _ _); refine loadB (KX1) rfl rfl rfl ?_) | ((with_reducible show wpList _ _ _ (Oper.mk _ (Op.load 27 _) _ _ _ (some _) :: _) _ _); refine loadgB (KX1) rfl rfl rfl ?_))
        generalize w21.alloc (.cells (mk 16 FP) 27) = w21a at *
        refine (iX2.out _).mono ?_
        rintro e w22 ⟨rfl, hb⟩
        have K3 := K3.below hb K3.lt
        have K5 := K5.below hb K5.lt
        have K7 := K7.below hb K7.lt
        have K9 := K9.below hb K9.lt
        have KX1 := KX1.below hb KX1.lt
        have HB : Hid (Below w.heap.size w w22) := HB.out.trans (hb.mono HB.out.size)
        clear hb
        have K3 := K3.alloc (.cells (mk 16 FX) 27)
        have K5 := K5.alloc (.cells (mk 16 FX) 27)
        have K7 := K7.alloc (.cells (mk 16 FX) 27)
        have K9 := K9.alloc (.cells (mk 16 FX) 27)
        have KX1 := KX1.alloc (.cells (mk 16 FX) 27)
        have KX2 := Blk.new w22 16 FX 27
        have HB : Hid (Below w.heap.size w (w22.alloc (.cells (mk 16 FX) 27))) := HB.out.alloc HB.out.size _
        go_wp2_with (first | ((with_reducible show wpList _ _ _ (Oper.mk _ (Op.load 27 _) _ _ _ _ :: _) _ _); refine loadB (K3) rfl rfl rfl ?_) | ((with_reducible show wpList _ _ _ (Oper.mk _ (Op.load 27 _) _ _ _ (some _) :: _) _ _); refine loadgB (K3) rfl rfl rfl ?_))
        generalize w22.alloc (.cells (mk 16 FX) 27) = w22a at *
        refine (iX3.out _).mono ?_
        rintro e w23 ⟨rfl, hb⟩
        have K3 := K3.below hb K3.lt
        have K5 := K5.below hb K5.lt
        have K7 := K7.below hb K7.lt
        have K9 := K9.below hb K9.lt
        have KX1 := KX1.below hb KX1.lt
        have KX2 := KX2.below hb KX2.lt
        have HB : Hid (Below w.heap.size w w23) := HB.out.trans (hb.mono HB.out.size)
        clear hb
        have K3 := K3.alloc (.cells (mk 16 FX) 27)
        have K5 := K5.alloc (.cells (mk 16 FX) 27)
        have K7 := K7.alloc (.cells (mk 16 FX) 27)
        have K9 := K9.alloc (.cells (mk 16 FX) 27)
        have KX1 := KX1.alloc (.cells (mk 16 FX) 27)
        have KX2 := KX2.alloc (.cells (mk 16 FX) 27)
        have KX3 := Blk.new w23 16 FX 27
        have HB : Hid (Below w.heap.size w (w23.alloc (.cells (mk 16 FX) 27))) := HB.out.alloc HB.out.size _
        cases hon : ON with
        | true =>
          obtain ⟨r1, r2, hr1, hr2, hl3, hl4, hSIv⟩ := side_nat (HON.out.symm.trans hon)
          have hSI2 := HSI.out.trans hSIv
          have iT1 : Hid (∀ W, Calls Try.prog 25 #[.agg (mk 16 f), .int .i64 q] W fun e w' => e = .returned (.tuple #[.agg (mk 16 (formF f r1)), .bool true]) ∧ Below W.heap.size W w') := by show ∀ W, _; rw [hr1]; exact form_nat f r1 HV.out hl3
          have iT2 : Hid (∀ W, Calls Try.prog 38 #[.agg (mk 16 f), .int .i64 d] W fun e w' => e = .returned (.tuple #[.agg (mk 16 (slideB f r2)), .int .i64 (slideS f r2 4), .bool true]) ∧ Below W.heap.size W w') := by show ∀ W, _; rw [hr2]; exact slide_nat f r2 HV.out hl4
          have iT3 : Hid (∀ W, Calls Try.prog 25 #[.agg (mk 16 (slideB f r2)), .int .i64 q] W fun e w' => e = .returned (.tuple #[.agg (mk 16 (formF (slideB f r2) r1)), .bool true]) ∧ Below W.heap.size W w') := by show ∀ W, _; rw [hr1]; exact form_nat _ r1 (slideB_vd HV.out r2) hl3
          have iT4 : Hid (∀ W, Calls Try.prog 38 #[.agg (mk 16 (formF f r1)), .int .i64 SI] W fun e w' => e = .returned (.tuple #[.agg (mk 16 (formF (slideB f r2) r1)), .int .i64 (slideS f r2 4), .bool true]) ∧ Below W.heap.size W w') := by show ∀ W, _; rw [hSI2, ← mk_congr (slide_form f hl3 hl4), ← score_form f hl3 hl4]; exact slide_nat _ _ (form_vd HV.out r1) (side_lt r1 hl3 r2 hl4)
          have s4 : sameB (formF (slideB f r2) r1) (formF (slideB f r2) r1) = true := sameB_iff.2 fun _ _ => rfl
          clear hr1 hr2 hl3 hl4 hSIv hSI2 hon
          generalize formF (slideB f r2) r1 = FZ at *
          generalize slideB f r2 = FS at *
          generalize slideS f r2 4 = SC at *
          generalize formF f r1 = FT at *
          go_wp2_with (first | ((with_reducible show wpList _ _ _ (Oper.mk _ (Op.load 27 _) _ _ _ _ :: _) _ _); refine loadB (KX2) rfl rfl rfl ?_) | ((with_reducible show wpList _ _ _ (Oper.mk _ (Op.load 27 _) _ _ _ (some _) :: _) _ _); refine loadgB (KX2) rfl rfl rfl ?_) | ((with_reducible show wpList _ _ _ (Oper.mk _ (Op.load 27 _) _ _ _ _ :: _) _ _); refine loadB (KX3) rfl rfl rfl ?_) | ((with_reducible show wpList _ _ _ (Oper.mk _ (Op.load 27 _) _ _ _ (some _) :: _) _ _); refine loadgB (KX3) rfl rfl rfl ?_) | ((with_reducible show wpList _ _ _ (Oper.mk _ (Op.load 27 _) _ _ _ _ :: _) _ _); refine loadB (K3) rfl rfl rfl ?_) | ((with_reducible show wpList _ _ _ (Oper.mk _ (Op.load 27 _) _ _ _ (some _) :: _) _ _); refine loadgB (K3) rfl rfl rfl ?_))
          generalize w23.alloc (.cells (mk 16 FX) 27) = w23a at *
          refine (iT1.out _).mono ?_
          rintro e w24 ⟨rfl, hb⟩
          have K3 := K3.below hb K3.lt
          have K5 := K5.below hb K5.lt
          have K7 := K7.below hb K7.lt
          have K9 := K9.below hb K9.lt
          have KX1 := KX1.below hb KX1.lt
          have KX2 := KX2.below hb KX2.lt
          have KX3 := KX3.below hb KX3.lt
          have HB : Hid (Below w.heap.size w w24) := HB.out.trans (hb.mono HB.out.size)
          clear hb
          have K3 := K3.alloc (.cells (mk 16 FT) 27)
          have K5 := K5.alloc (.cells (mk 16 FT) 27)
          have K7 := K7.alloc (.cells (mk 16 FT) 27)
          have K9 := K9.alloc (.cells (mk 16 FT) 27)
          have KX1 := KX1.alloc (.cells (mk 16 FT) 27)
          have KX2 := KX2.alloc (.cells (mk 16 FT) 27)
          have KX3 := KX3.alloc (.cells (mk 16 FT) 27)
          have KT1 := Blk.new w24 16 FT 27
          have HB : Hid (Below w.heap.size w (w24.alloc (.cells (mk 16 FT) 27))) := HB.out.alloc HB.out.size _
          go_wp2_with (first | ((with_reducible show wpList _ _ _ (Oper.mk _ (Op.load 27 _) _ _ _ _ :: _) _ _); refine loadB (K3) rfl rfl rfl ?_) | ((with_reducible show wpList _ _ _ (Oper.mk _ (Op.load 27 _) _ _ _ (some _) :: _) _ _); refine loadgB (K3) rfl rfl rfl ?_))
          generalize w24.alloc (.cells (mk 16 FT) 27) = w24a at *
          refine (iT2.out _).mono ?_
          rintro e w25 ⟨rfl, hb⟩
          have K3 := K3.below hb K3.lt
          have K5 := K5.below hb K5.lt
          have K7 := K7.below hb K7.lt
          have K9 := K9.below hb K9.lt
          have KX1 := KX1.below hb KX1.lt
          have KX2 := KX2.below hb KX2.lt
          have KX3 := KX3.below hb KX3.lt
          have KT1 := KT1.below hb KT1.lt
          have HB : Hid (Below w.heap.size w w25) := HB.out.trans (hb.mono HB.out.size)
          clear hb
          have K3 := K3.alloc (.cells (mk 16 FS) 27)
          have K5 := K5.alloc (.cells (mk 16 FS) 27)
          have K7 := K7.alloc (.cells (mk 16 FS) 27)
          have K9 := K9.alloc (.cells (mk 16 FS) 27)
          have KX1 := KX1.alloc (.cells (mk 16 FS) 27)
          have KX2 := KX2.alloc (.cells (mk 16 FS) 27)
          have KX3 := KX3.alloc (.cells (mk 16 FS) 27)
          have KT1 := KT1.alloc (.cells (mk 16 FS) 27)
          have KT2 := Blk.new w25 16 FS 27
          have HB : Hid (Below w.heap.size w (w25.alloc (.cells (mk 16 FS) 27))) := HB.out.alloc HB.out.size _
          go_wp2_with (first | ((with_reducible show wpList _ _ _ (Oper.mk _ (Op.load 27 _) _ _ _ _ :: _) _ _); refine loadB (KT2) rfl rfl rfl ?_) | ((with_reducible show wpList _ _ _ (Oper.mk _ (Op.load 27 _) _ _ _ (some _) :: _) _ _); refine loadgB (KT2) rfl rfl rfl ?_))
          generalize w25.alloc (.cells (mk 16 FS) 27) = w25a at *
          refine (iT3.out _).mono ?_
          rintro e w26 ⟨rfl, hb⟩
          have K3 := K3.below hb K3.lt
          have K5 := K5.below hb K5.lt
          have K7 := K7.below hb K7.lt
          have K9 := K9.below hb K9.lt
          have KX1 := KX1.below hb KX1.lt
          have KX2 := KX2.below hb KX2.lt
          have KX3 := KX3.below hb KX3.lt
          have KT1 := KT1.below hb KT1.lt
          have KT2 := KT2.below hb KT2.lt
          have HB : Hid (Below w.heap.size w w26) := HB.out.trans (hb.mono HB.out.size)
          clear hb
          have K3 := K3.alloc (.cells (mk 16 FZ) 27)
          have K5 := K5.alloc (.cells (mk 16 FZ) 27)
          have K7 := K7.alloc (.cells (mk 16 FZ) 27)
          have K9 := K9.alloc (.cells (mk 16 FZ) 27)
          have KX1 := KX1.alloc (.cells (mk 16 FZ) 27)
          have KX2 := KX2.alloc (.cells (mk 16 FZ) 27)
          have KX3 := KX3.alloc (.cells (mk 16 FZ) 27)
          have KT1 := KT1.alloc (.cells (mk 16 FZ) 27)
          have KT2 := KT2.alloc (.cells (mk 16 FZ) 27)
          have KT3 := Blk.new w26 16 FZ 27
          have HB : Hid (Below w.heap.size w (w26.alloc (.cells (mk 16 FZ) 27))) := HB.out.alloc HB.out.size _
          go_wp2_with (first | ((with_reducible show wpList _ _ _ (Oper.mk _ (Op.load 27 _) _ _ _ _ :: _) _ _); refine loadB (KT1) rfl rfl rfl ?_) | ((with_reducible show wpList _ _ _ (Oper.mk _ (Op.load 27 _) _ _ _ (some _) :: _) _ _); refine loadgB (KT1) rfl rfl rfl ?_))
          generalize w26.alloc (.cells (mk 16 FZ) 27) = w26a at *
          refine (iT4.out _).mono ?_
          rintro e w27 ⟨rfl, hb⟩
          have K3 := K3.below hb K3.lt
          have K5 := K5.below hb K5.lt
          have K7 := K7.below hb K7.lt
          have K9 := K9.below hb K9.lt
          have KX1 := KX1.below hb KX1.lt
          have KX2 := KX2.below hb KX2.lt
          have KX3 := KX3.below hb KX3.lt
          have KT1 := KT1.below hb KT1.lt
          have KT2 := KT2.below hb KT2.lt
          have KT3 := KT3.below hb KT3.lt
          have HB : Hid (Below w.heap.size w w27) := HB.out.trans (hb.mono HB.out.size)
          clear hb
          have K3 := K3.alloc (.cells (mk 16 FZ) 27)
          have K5 := K5.alloc (.cells (mk 16 FZ) 27)
          have K7 := K7.alloc (.cells (mk 16 FZ) 27)
          have K9 := K9.alloc (.cells (mk 16 FZ) 27)
          have KX1 := KX1.alloc (.cells (mk 16 FZ) 27)
          have KX2 := KX2.alloc (.cells (mk 16 FZ) 27)
          have KX3 := KX3.alloc (.cells (mk 16 FZ) 27)
          have KT1 := KT1.alloc (.cells (mk 16 FZ) 27)
          have KT2 := KT2.alloc (.cells (mk 16 FZ) 27)
          have KT3 := KT3.alloc (.cells (mk 16 FZ) 27)
          have KT4 := Blk.new w27 16 FZ 27
          have HB : Hid (Below w.heap.size w (w27.alloc (.cells (mk 16 FZ) 27))) := HB.out.alloc HB.out.size _
          go_wp2_with (first | ((with_reducible show wpList _ _ _ (Oper.mk _ (Op.load 27 _) _ _ _ _ :: _) _ _); refine loadB (KT4) rfl rfl rfl ?_) | ((with_reducible show wpList _ _ _ (Oper.mk _ (Op.load 27 _) _ _ _ _ :: _) _ _); refine loadB (KT3) rfl rfl rfl ?_) | ((with_reducible show wpList _ _ _ (Oper.mk _ (Op.load 27 _) _ _ _ (some _) :: _) _ _); refine loadgB (KT4) rfl rfl rfl ?_) | ((with_reducible show wpList _ _ _ (Oper.mk _ (Op.load 27 _) _ _ _ (some _) :: _) _ _); refine loadgB (KT3) rfl rfl rfl ?_))
          go_ret
          exact ⟨rfl, HB.out⟩
        | false =>
          go_wp2_with (first | ((with_reducible show wpList _ _ _ (Oper.mk _ (Op.load 27 _) _ _ _ _ :: _) _ _); refine loadB (KX2) rfl rfl rfl ?_) | ((with_reducible show wpList _ _ _ (Oper.mk _ (Op.load 27 _) _ _ _ (some _) :: _) _ _); refine loadgB (KX2) rfl rfl rfl ?_) | ((with_reducible show wpList _ _ _ (Oper.mk _ (Op.load 27 _) _ _ _ _ :: _) _ _); refine loadB (KX3) rfl rfl rfl ?_) | ((with_reducible show wpList _ _ _ (Oper.mk _ (Op.load 27 _) _ _ _ (some _) :: _) _ _); refine loadgB (KX3) rfl rfl rfl ?_) | ((with_reducible show wpList _ _ _ (Oper.mk _ (Op.load 27 _) _ _ _ _ :: _) _ _); refine loadB (K3) rfl rfl rfl ?_) | ((with_reducible show wpList _ _ _ (Oper.mk _ (Op.load 27 _) _ _ _ (some _) :: _) _ _); refine loadgB (K3) rfl rfl rfl ?_))
          go_ret
          exact ⟨rfl, HB.out⟩
      | false =>
        cases hon : ON with
        | true =>
          obtain ⟨r1, r2, hr1, hr2, hl3, hl4, hSIv⟩ := side_nat (HON.out.symm.trans hon)
          have hSI2 := HSI.out.trans hSIv
          have iT1 : Hid (∀ W, Calls Try.prog 25 #[.agg (mk 16 f), .int .i64 q] W fun e w' => e = .returned (.tuple #[.agg (mk 16 (formF f r1)), .bool true]) ∧ Below W.heap.size W w') := by show ∀ W, _; rw [hr1]; exact form_nat f r1 HV.out hl3
          have iT2 : Hid (∀ W, Calls Try.prog 38 #[.agg (mk 16 f), .int .i64 d] W fun e w' => e = .returned (.tuple #[.agg (mk 16 (slideB f r2)), .int .i64 (slideS f r2 4), .bool true]) ∧ Below W.heap.size W w') := by show ∀ W, _; rw [hr2]; exact slide_nat f r2 HV.out hl4
          have iT3 : Hid (∀ W, Calls Try.prog 25 #[.agg (mk 16 (slideB f r2)), .int .i64 q] W fun e w' => e = .returned (.tuple #[.agg (mk 16 (formF (slideB f r2) r1)), .bool true]) ∧ Below W.heap.size W w') := by show ∀ W, _; rw [hr1]; exact form_nat _ r1 (slideB_vd HV.out r2) hl3
          have iT4 : Hid (∀ W, Calls Try.prog 38 #[.agg (mk 16 (formF f r1)), .int .i64 SI] W fun e w' => e = .returned (.tuple #[.agg (mk 16 (formF (slideB f r2) r1)), .int .i64 (slideS f r2 4), .bool true]) ∧ Below W.heap.size W w') := by show ∀ W, _; rw [hSI2, ← mk_congr (slide_form f hl3 hl4), ← score_form f hl3 hl4]; exact slide_nat _ _ (form_vd HV.out r1) (side_lt r1 hl3 r2 hl4)
          have s4 : sameB (formF (slideB f r2) r1) (formF (slideB f r2) r1) = true := sameB_iff.2 fun _ _ => rfl
          clear hr1 hr2 hl3 hl4 hSIv hSI2 hon
          generalize formF (slideB f r2) r1 = FZ at *
          generalize slideB f r2 = FS at *
          generalize slideS f r2 4 = SC at *
          generalize formF f r1 = FT at *
          go_wp2_with (first | ((with_reducible show wpList _ _ _ (Oper.mk _ (Op.load 27 _) _ _ _ _ :: _) _ _); refine loadB (K9) rfl rfl rfl ?_) | ((with_reducible show wpList _ _ _ (Oper.mk _ (Op.load 27 _) _ _ _ (some _) :: _) _ _); refine loadgB (K9) rfl rfl rfl ?_) | ((with_reducible show wpList _ _ _ (Oper.mk _ (Op.load 27 _) _ _ _ _ :: _) _ _); refine loadB (K3) rfl rfl rfl ?_) | ((with_reducible show wpList _ _ _ (Oper.mk _ (Op.load 27 _) _ _ _ (some _) :: _) _ _); refine loadgB (K3) rfl rfl rfl ?_))
          refine (iT1.out _).mono ?_
          rintro e w28 ⟨rfl, hb⟩
          have K3 := K3.below hb K3.lt
          have K5 := K5.below hb K5.lt
          have K7 := K7.below hb K7.lt
          have K9 := K9.below hb K9.lt
          have HB : Hid (Below w.heap.size w w28) := HB.out.trans (hb.mono HB.out.size)
          clear hb
          have K3 := K3.alloc (.cells (mk 16 FT) 27)
          have K5 := K5.alloc (.cells (mk 16 FT) 27)
          have K7 := K7.alloc (.cells (mk 16 FT) 27)
          have K9 := K9.alloc (.cells (mk 16 FT) 27)
          have KT1 := Blk.new w28 16 FT 27
          have HB : Hid (Below w.heap.size w (w28.alloc (.cells (mk 16 FT) 27))) := HB.out.alloc HB.out.size _
          go_wp2_with (first | ((with_reducible show wpList _ _ _ (Oper.mk _ (Op.load 27 _) _ _ _ _ :: _) _ _); refine loadB (K3) rfl rfl rfl ?_) | ((with_reducible show wpList _ _ _ (Oper.mk _ (Op.load 27 _) _ _ _ (some _) :: _) _ _); refine loadgB (K3) rfl rfl rfl ?_))
          generalize w28.alloc (.cells (mk 16 FT) 27) = w28a at *
          refine (iT2.out _).mono ?_
          rintro e w29 ⟨rfl, hb⟩
          have K3 := K3.below hb K3.lt
          have K5 := K5.below hb K5.lt
          have K7 := K7.below hb K7.lt
          have K9 := K9.below hb K9.lt
          have KT1 := KT1.below hb KT1.lt
          have HB : Hid (Below w.heap.size w w29) := HB.out.trans (hb.mono HB.out.size)
          clear hb
          have K3 := K3.alloc (.cells (mk 16 FS) 27)
          have K5 := K5.alloc (.cells (mk 16 FS) 27)
          have K7 := K7.alloc (.cells (mk 16 FS) 27)
          have K9 := K9.alloc (.cells (mk 16 FS) 27)
          have KT1 := KT1.alloc (.cells (mk 16 FS) 27)
          have KT2 := Blk.new w29 16 FS 27
          have HB : Hid (Below w.heap.size w (w29.alloc (.cells (mk 16 FS) 27))) := HB.out.alloc HB.out.size _
          go_wp2_with (first | ((with_reducible show wpList _ _ _ (Oper.mk _ (Op.load 27 _) _ _ _ _ :: _) _ _); refine loadB (KT2) rfl rfl rfl ?_) | ((with_reducible show wpList _ _ _ (Oper.mk _ (Op.load 27 _) _ _ _ (some _) :: _) _ _); refine loadgB (KT2) rfl rfl rfl ?_))
          generalize w29.alloc (.cells (mk 16 FS) 27) = w29a at *
          refine (iT3.out _).mono ?_
          rintro e w30 ⟨rfl, hb⟩
          have K3 := K3.below hb K3.lt
          have K5 := K5.below hb K5.lt
          have K7 := K7.below hb K7.lt
          have K9 := K9.below hb K9.lt
          have KT1 := KT1.below hb KT1.lt
          have KT2 := KT2.below hb KT2.lt
          have HB : Hid (Below w.heap.size w w30) := HB.out.trans (hb.mono HB.out.size)
          clear hb
          have K3 := K3.alloc (.cells (mk 16 FZ) 27)
          have K5 := K5.alloc (.cells (mk 16 FZ) 27)
          have K7 := K7.alloc (.cells (mk 16 FZ) 27)
          have K9 := K9.alloc (.cells (mk 16 FZ) 27)
          have KT1 := KT1.alloc (.cells (mk 16 FZ) 27)
          have KT2 := KT2.alloc (.cells (mk 16 FZ) 27)
          have KT3 := Blk.new w30 16 FZ 27
          have HB : Hid (Below w.heap.size w (w30.alloc (.cells (mk 16 FZ) 27))) := HB.out.alloc HB.out.size _
          go_wp2_with (first | ((with_reducible show wpList _ _ _ (Oper.mk _ (Op.load 27 _) _ _ _ _ :: _) _ _); refine loadB (KT1) rfl rfl rfl ?_) | ((with_reducible show wpList _ _ _ (Oper.mk _ (Op.load 27 _) _ _ _ (some _) :: _) _ _); refine loadgB (KT1) rfl rfl rfl ?_))
          generalize w30.alloc (.cells (mk 16 FZ) 27) = w30a at *
          refine (iT4.out _).mono ?_
          rintro e w31 ⟨rfl, hb⟩
          have K3 := K3.below hb K3.lt
          have K5 := K5.below hb K5.lt
          have K7 := K7.below hb K7.lt
          have K9 := K9.below hb K9.lt
          have KT1 := KT1.below hb KT1.lt
          have KT2 := KT2.below hb KT2.lt
          have KT3 := KT3.below hb KT3.lt
          have HB : Hid (Below w.heap.size w w31) := HB.out.trans (hb.mono HB.out.size)
          clear hb
          have K3 := K3.alloc (.cells (mk 16 FZ) 27)
          have K5 := K5.alloc (.cells (mk 16 FZ) 27)
          have K7 := K7.alloc (.cells (mk 16 FZ) 27)
          have K9 := K9.alloc (.cells (mk 16 FZ) 27)
          have KT1 := KT1.alloc (.cells (mk 16 FZ) 27)
          have KT2 := KT2.alloc (.cells (mk 16 FZ) 27)
          have KT3 := KT3.alloc (.cells (mk 16 FZ) 27)
          have KT4 := Blk.new w31 16 FZ 27
          have HB : Hid (Below w.heap.size w (w31.alloc (.cells (mk 16 FZ) 27))) := HB.out.alloc HB.out.size _
          go_wp2_with (first | ((with_reducible show wpList _ _ _ (Oper.mk _ (Op.load 27 _) _ _ _ _ :: _) _ _); refine loadB (KT4) rfl rfl rfl ?_) | ((with_reducible show wpList _ _ _ (Oper.mk _ (Op.load 27 _) _ _ _ _ :: _) _ _); refine loadB (KT3) rfl rfl rfl ?_) | ((with_reducible show wpList _ _ _ (Oper.mk _ (Op.load 27 _) _ _ _ (some _) :: _) _ _); refine loadgB (KT4) rfl rfl rfl ?_) | ((with_reducible show wpList _ _ _ (Oper.mk _ (Op.load 27 _) _ _ _ (some _) :: _) _ _); refine loadgB (KT3) rfl rfl rfl ?_))
          go_ret
          exact ⟨rfl, HB.out⟩
        | false =>
          go_wp2_with (first | ((with_reducible show wpList _ _ _ (Oper.mk _ (Op.load 27 _) _ _ _ _ :: _) _ _); refine loadB (K9) rfl rfl rfl ?_) | ((with_reducible show wpList _ _ _ (Oper.mk _ (Op.load 27 _) _ _ _ (some _) :: _) _ _); refine loadgB (K9) rfl rfl rfl ?_) | ((with_reducible show wpList _ _ _ (Oper.mk _ (Op.load 27 _) _ _ _ _ :: _) _ _); refine loadB (K3) rfl rfl rfl ?_) | ((with_reducible show wpList _ _ _ (Oper.mk _ (Op.load 27 _) _ _ _ (some _) :: _) _ _); refine loadgB (K3) rfl rfl rfl ?_))
          go_ret
          exact ⟨rfl, HB.out⟩
    | false =>
      cases hT : TK with
      | false =>
        subst hO hT
        go_wp2_with (first | ((with_reducible show wpList _ _ _ (Oper.mk _ (Op.load 27 _) _ _ _ _ :: _) _ _); refine loadB (K5) rfl rfl rfl ?_) | ((with_reducible show wpList _ _ _ (Oper.mk _ (Op.load 27 _) _ _ _ _ :: _) _ _); refine loadB (K7) rfl rfl rfl ?_))
        go_ret
        exact ⟨rfl, HB.out⟩
      | true =>
        subst hO hT
        have hk : 0 ≤ k ∧ k ≤ 7 := by have h := HTK.out; unfold backO at h; exact of_decide_eq_true h.symm
        obtain ⟨v, hkv, hv⟩ := isForm_nat hk.1 hk.2
        obtain ⟨bb1, bb2, bb3, bb4⟩ := beh_R v hv
        have hBv : BK = (backN v : Nat) := by rw [HBK.out, hkv]; exact back_R v hv
        have iZ : Hid (∀ W, Calls Try.prog 29 #[.int .i64 k, .int .i64 BK] W fun e w' => e = .returned (.tuple #[.int .i64 0, .bool true]) ∧ Below W.heap.size W w') := by show ∀ W, _; rw [hkv, hBv]; intro W; have h := of_same (implBehind_any (v : Int) (backN v : Nat) W); rw [bb1, bb2] at h; exact h
        have iY : Hid (∀ W, Calls Try.prog 29 #[.int .i64 BK, .int .i64 k] W fun e w' => e = .returned (.tuple #[.int .i64 0, .bool true]) ∧ Below W.heap.size W w') := by show ∀ W, _; rw [hkv, hBv]; intro W; have h := of_same (implBehind_any (backN v : Nat) (v : Int) W); rw [bb3, bb4] at h; exact h
        have HKV := Lib.hid hkv
        have HVV := Lib.hid hv
        have HBV := Lib.hid hBv
        clear hkv hv hBv bb1 bb2 bb3 bb4
        clear hk
        go_wp2_with (first | ((with_reducible show wpList _ _ _ (Oper.mk _ (Op.load 27 _) _ _ _ _ :: _) _ _); refine loadB (K5) rfl rfl rfl ?_) | ((with_reducible show wpList _ _ _ (Oper.mk _ (Op.load 27 _) _ _ _ (some _) :: _) _ _); refine loadgB (K5) rfl rfl rfl ?_) | ((with_reducible show wpList _ _ _ (Oper.mk _ (Op.load 27 _) _ _ _ _ :: _) _ _); refine loadB (K7) rfl rfl rfl ?_) | ((with_reducible show wpList _ _ _ (Oper.mk _ (Op.load 27 _) _ _ _ (some _) :: _) _ _); refine loadgB (K7) rfl rfl rfl ?_))
        refine (iZ.out _).mono ?_
        rintro e w32 ⟨rfl, hb⟩
        have K3 := K3.below hb K3.lt
        have K5 := K5.below hb K5.lt
        have K7 := K7.below hb K7.lt
        have HB : Hid (Below w.heap.size w w32) := HB.out.trans (hb.mono HB.out.size)
        clear hb
        go_wp2_with fail
        refine (iY.out _).mono ?_
        rintro e w33 ⟨rfl, hb⟩
        have K3 := K3.below hb K3.lt
        have K5 := K5.below hb K5.lt
        have K7 := K7.below hb K7.lt
        have HB : Hid (Below w.heap.size w w33) := HB.out.trans (hb.mono HB.out.size)
        clear hb
        go_wp2_with fail
        go_ret
        exact ⟨rfl, HB.out⟩
  · have dl : decide ((65536 : Int) < (len0 : Int)) = true := by simp; omega
    go_enter Try.func3, Try.ntmps3
    go_wp2_with fail
    refine (vBig_any a0 len0 cap0 _).mono ?_
    rintro e w' ⟨rfl, rfl⟩
    rw [dl]
    go_wp2_with fail
    go_ret
    exact ⟨rfl, HB.out⟩

noncomputable def laidWorld (os : Os) : World := World.holding Try.prog os ⟨#[], #[], []⟩
theorem laid_met (os : Os) : laidMet Try.prog Rows.fnFormGroupRow.laid ((laidWorld os).forCall (fun _ _ => 0) ⟨#[], #[.slice none 0 0], []⟩).memory := laidMet_of_run' 8 (by kernel_rfl) (by kernel_rfl)
theorem reads (os : Os) {H : Type} (enc : TypeId × Value → H) : ∃ places, DataW.whole enc Try.prog ((laidWorld os).forCall (fun _ _ => 0) ⟨#[], #[.slice none 0 0], []⟩).memory Try.f3.params.toList Rows.fnFormGroupSpec.vars false #[.slice none 0 0].toList 8 = some ([.nil], [], places) :=
  ⟨[], by kernel_rfl⟩
set_option linter.unusedVariables false in
set_option maxRecDepth 100000 in
theorem lifted (os : Os) (started : os.Started) (H : Type) (enc : TypeId × Value → H) (F : Stop.Interp) :
    ReturnsInHanded {} Try.checked os 3 .any ((OpenSpec.ofChange Rows.fnFormGroupSpec).preRow enc Try.prog Try.f3 Rows.fnFormGroupRow.domain false Rows.fnFormGroupRow.laid) (((OpenSpec.ofChange Rows.fnFormGroupSpec).at F).post enc Try.prog Try.f3 false true false false) := by
  obtain ⟨places, hx⟩ := reads os enc
  refine returnsInHanded_of_row (C := Try.checked) (s := (OpenSpec.ofChange Rows.fnFormGroupSpec)) own started (by kernel_rfl) Try.func3
    (witness_row_at (enc := enc) (C := Try.checked) false (laidWorld os) #[.slice none 0 0] rfl (by kernel_rfl) (by kernel_rfl) (by kernel_rfl)
      (OpenSpec.preRow_of_cond 8 hx (by kernel_rfl) (fun k hk => by cases hk) (by kernel_rfl) (laid_met os))) ?_
  intro W base args ds gs before hval0 hW _ hcond hsz hL hsh _
  have hval : ∀ (j : Nat) t v, Try.f3.params[j]? = some t → args[j]? = some v → Value.okWide Try.prog W .any base t v := hval0
  have hW' := hW
  obtain ⟨p, q, hA0, hV, rfl, hfz, hnd⟩ := hW
  have hA : DataW.TrodAll enc Try.prog W 0 (fun _ => true) true Try.f3.params.toList args.toList ds p := hA0
  rw [Try.params3] at hA hval
  obtain ⟨v0, vs0, d0, ds0, p0, q0, hargs, rfl, rfl, h0, r0⟩ := trodAll_cons hA
  obtain ⟨rfl, rfl, rfl⟩ := trodAll_nil r0
  obtain rfl : args = #[v0] := by cases args; simp_all
  obtain ⟨rfl, rfl⟩ := trodVars_none hV
  obtain ⟨a0, len0, cap0, rfl⟩ := okWide_slice Try.underlying22 (hval 0 22 v0 rfl rfl)
  have k0 := h0
  have lt0 : ∀ x ∈ p0, x.block < W.heap.size := by obtain ⟨m, hm⟩ := k0; exact DataW.trod_lt m _ _ _ hm
  obtain ⟨z0, w0⟩ : ∃ zs, IsRow .u8 W a0 len0 cap0 zs := by
    obtain ⟨fuel, hf⟩ := h0
    rcases open_ints Try.underlying22 Try.underlying5 (by kernel_rfl) hf with ⟨hcs, _⟩ | ⟨x, l, c, zs, hcs, _, hl, hm, hz, _, hcell, hwz⟩
    · simp [Value.cells] at hcs; obtain ⟨rfl, rfl, rfl⟩ := hcs; exact ⟨[], .inl ⟨rfl, rfl, rfl, rfl⟩⟩
    · simp [Value.cells] at hcs; obtain ⟨rfl, rfl, rfl⟩ := hcs; exact ⟨zs, .inr ⟨_, rfl, hl, hm, by simpa using hz, hcell, hwz⟩⟩
  clear hA0 hval0
  have hwalk : Calls Try.prog 3 #[.slice a0 len0 cap0] W fun e w' => e = .returned (.bool true) ∧ Below W.heap.size W w' := walk W hsh a0 len0 cap0 z0 w0
  refine hwalk.mono fun e W' ⟨he, bel⟩ => ?_
  subst he
  exact ⟨_, rfl, _, _, _, [], _, [], hW', trodAll_mk1 (shut_bool Try.underlying4 _), (trodAll_cons_mk (Below.trod laidOut (by kernel_rfl) (of_decide_eq_true (by kernel_rfl)) k0 bel lt0) trodAll_mk0), rfl, bel.frame _, fun h => by cases h⟩
theorem closed : joinedFacts Try.pinned.checked.prog 3 Try.f3 ((OpenSpec.ofChange Rows.fnFormGroupSpec)).bare Rows.fnFormGroupRow = true := by
  unfold joinedFacts
  repeat' with_reducible refine and_mk ?_ ?_
  case refine_1.refine_1.refine_1.refine_1.refine_1.refine_1.refine_2 => exact enters
  case refine_1.refine_1.refine_1.refine_1.refine_1.refine_2 => exact (show (Rows.fnFormGroupRow.lifted == Try.prog.liftsFinal) = true by rw [final_no]; rfl)
  case refine_1.refine_1.refine_1.refine_1.refine_2 => exact (show (Try.prog.make == some Rows.fnFormGroupRow.make) = true by rw [make_cut]; rfl)
  case refine_1.refine_1.refine_1.refine_1.refine_1.refine_1.refine_1.refine_1.refine_1.refine_1.refine_1.refine_1.refine_1.refine_1.refine_1.refine_1.refine_1.refine_1.refine_1.refine_1.refine_1.refine_1.refine_1.refine_1.refine_1.refine_1.refine_1.refine_1.refine_1.refine_1.refine_2 => exact laidOut
  case refine_1.refine_1.refine_1.refine_1.refine_1.refine_1.refine_1.refine_1.refine_1.refine_1.refine_1.refine_1.refine_1.refine_1.refine_1.refine_1.refine_1.refine_1.refine_1.refine_1.refine_1.refine_1.refine_1.refine_1.refine_1.refine_1.refine_1.refine_1.refine_1.refine_2 => exact maps_rowed
  case refine_1.refine_1.refine_1.refine_1.refine_1.refine_1.refine_1.refine_2 => exact stops_heard
  all_goals (as_aux_lemma => kernel_rfl)
theorem proved : Rows.FnFormGroupSaid :=
  OpenClaim.holds_of_cond 3 Try.f3 rfl rfl rfl rfl rfl rfl rfl ⟨rfl, rfl, rfl, rfl, rfl⟩ rfl rfl rfl rfl rfl (by kernel_rfl) Try.func3 closed
    (of_decide_eq_true (by kernel_rfl)) (by unfold Func.isWrapper; first | (rw [if_pos (by decide +kernel)]; kernel_rfl) | (rw [if_neg (by decide +kernel)]; exact ⟨rfl, rfl⟩))
    (fun os started H enc _ F => by rw [OpenClaim.pre_eq_preRow]; exact lifted os started H enc F)
#print axioms proved
end Go.Proofs.Ytffonncbmddjgaa.fnFormGroup
