/-
  The walk of FnMeans.
-/
import Derived.Test.YtblcojacmjbjcabDrawMeans
import Derived.Test.YtblcojacmjbjcabMeansFacts
import Derived.Test.YtblcojacmjbjcabTopsA
import Derived.Test.YtblcojacmjbjcabTellA
import Derived.Test.YtblcojacmjbjcabSumOf
import Derived.Test.YtblcojacmjbjcabImplSlideBoard
import Derived.Test.YtblcojacmjbjcabClosed
import Derived.Deep.CutRange
namespace Go.Proofs.Ytblcojacmjbjcab.fnMeans
open Go.ChangeShapes Go.WideShapes Go.ChangeAt Go.RowKit Plain
attribute [local go_sem] store_new
set_option linter.unusedSimpArgs false
set_option linter.unusedVariables false
theorem isRow_kept {k : IntKind} {w w' : World} {a : Option Addr} {len cap : Nat} {z : List Int} (h : IsRow k w a len cap z) (hb : Below w.heap.size w w') : IsRow k w' a len cap z := by
  rcases h with h | ⟨x, h0, h1, h2, h3, h4, h5⟩
  · exact .inl h
  · refine .inr ⟨x, h0, h1, h2, h3, fun i hi => ?_, h5⟩
    have := h4 i hi
    exact (hb.cell (World.block_lt_of_cell? w _ this)).trans this
theorem neqC_self (p : Fc) (w : World) : (binOp .neq 42 (.agg (mk 2 (fcF p))) (.agg (mk 2 (fcF p)))).run Try.prog w = .ok (.bool false) w := by
  rw [run_neq_struct, eqC7 9998, sameF7_fc]; simp
theorem eqC_no (p q : Fc) (h : p ≠ q) (w : World) : (Op.equalIn 10000 42 (.agg (mk 2 (fcF p))) (.agg (mk 2 (fcF q)))).run Try.prog w = .ok false w := by
  rw [eqC7 9998, sameF7_fc, decide_eq_false h]
theorem less_no (p q : Fc) (h1 : p.1 * q.2 ≤ 4611686018427387904) (h2 : q.1 * p.2 ≤ 4611686018427387904) (h : ltF p q = false) (W : World) :
    Calls Try.prog 78 #[.agg (mk 2 (fcF p)), .agg (mk 2 (fcF q))] W fun e w' => e = .returned (.bool false) ∧ Below W.heap.size W w' := by
  have := vLess_any p q W h1 h2
  rw [h] at this
  exact this
theorem room_facts (f : Nat → Int) (d : Int) :
    (decide (MvOk f d) = true → (brB f).ok = true ∧
      (∀ W, Calls Try.prog 78 #[.agg (mk 2 (fcF (brB f).v)), .agg (mk 2 (fcF (mmF (numT uRoom) f d)))] W fun e w' => e = .returned (.bool false) ∧ Below W.heap.size W w') ∧
      (d < ((brB f).d : Int) → ∀ W, (Op.equalIn 10000 42 (.agg (mk 2 (fcF (mmF (numT uRoom) f d)))) (.agg (mk 2 (fcF (brB f).v)))).run Try.prog W = .ok false W)) ∧
    ((brB f).ok = true → ∀ W, Calls Try.prog 80 #[.agg (mk 16 f), .int .i64 ((brB f).d : Int)] W fun e w' => e = .returned (.tuple #[.agg (mk 2 (fcF (brB f).v)), .bool true]) ∧ Below W.heap.size W w') := by
  refine ⟨fun h => ?_, fun h W => ?_⟩
  · have hM : MvOk f d := of_decide_eq_true h
    obtain ⟨⟨hV, h0, h3⟩, hm⟩ := id hM
    have hok : ∀ d, d < 4 → isMv f d = true → FcOk (brV f d) := fun d _ hm => (br_ok hV hm).1
    obtain ⟨b1, b2, b3⟩ := means_best hok (d := d.toNat) (by omega) hm
    have eB : brB f = bmF f (brV f) 4 := if_pos ⟨hV, b1⟩
    rw [eB, mm_yes hM]
    obtain ⟨a1, a2, a3⟩ := means_at hok b1
    have q1 := br_ok hV a2
    have q2 := br_ok hV hm
    rw [a3] at q1
    refine ⟨b1, fun W => less_no _ _ ?_ ?_ b2 W, fun hlt W => eqC_no _ _ (b3 (by omega)) W⟩
    · exact Nat.le_trans (Nat.mul_le_mul q1.2.1 q2.2.2) (by decide)
    · exact Nat.le_trans (Nat.mul_le_mul q2.2.1 q1.2.2) (by decide)
  · have hc : Vd f ∧ (bmF f (brV f) 4).ok = true := by
      unfold brB at h
      split at h
      · assumption
      · cases h
    have eB : brB f = bmF f (brV f) 4 := if_pos hc
    obtain ⟨hV, b1⟩ := hc
    rw [eB]
    obtain ⟨a1, a2, a3⟩ := means_at (fun d _ hm => (br_ok hV hm).1) b1
    have hM : MvOk f ((bmF f (brV f) 4).d : Int) := ⟨⟨hV, by omega, by omega⟩, a2⟩
    have := implMeanRoom_any f ((bmF f (brV f) 4).d : Int) W
    rw [mm_yes hM, decide_eq_true hM] at this
    have e : mnF (numT uRoom) (slideB f (Int.toNat ((bmF f (brV f) 4).d : Int))) = (bmF f (brV f) 4).v := a3
    rw [e] at this
    exact this
theorem sum_facts {c : Nat → Int} {n : Int} : msO c n = true → ∃ tn nn : Nat, n = (nn : Int) ∧
    (∀ W, Calls Try.prog 90 #[.agg (mk 16 c)] W fun e w' => e = .returned (.tuple #[.int .i64 (tn : Int), .bool true]) ∧ Below W.heap.size W w') ∧
    5 * (msF c n).1 = (5 * tn + 11 * nn) * (msF c n).2 ∧ (msF c n).2 ≤ 5 ∧ (msF c n).1 ≤ 5 * tn + 11 * nn ∧ tn ≤ 4194304 ∧ nn ≤ 1000 := by
  intro h
  have hk : MsOk c n := of_decide_eq_true h
  obtain ⟨hV, h0, h1⟩ := id hk
  have hb := sumF_bd hV 16 (Nat.le_refl _)
  have e : msF c n = plusF ((sumF c 16).toNat, 1) (rd (11 * n.toNat) 5) := if_pos hk
  obtain ⟨m1, m2, m3⟩ := means_sum (sumF c 16).toNat n.toNat
  rw [e]
  refine ⟨(sumF c 16).toNat, n.toNat, by omega, fun W => ?_, m1, m2, m3, by omega, by omega⟩
  have := implSum_any c W
  rw [vdO_yes hV] at this
  have e2 : sumR c = (((sumF c 16).toNat : Nat) : Int) := by
    have : sumR c = sumF c 16 := if_pos hV
    omega
  rw [e2] at this
  exact this
theorem score_facts {s : Nat → Int} {u : Int} : ssO s u = true → u = 1 → ∀ e : Nat, e < 4 → ∃ (X : Nat → Int) (k : Nat),
    (∀ W, Calls Try.prog 52 #[.agg (mk 16 s), .int .i64 (e : Int)] W fun r w' => r = .returned (.tuple #[.agg (mk 16 X), .int .i64 (k : Int), .bool true]) ∧ Below W.heap.size W w') ∧
    (∀ W, Calls Try.prog 78 #[.agg (mk 2 (fcF (ssF s u))), .agg #[.int .i64 (k : Int), .int .i64 1]] W fun r w' => r = .returned (.bool false) ∧ Below W.heap.size W w') := by
  intro h hu e he
  subst hu
  have hk : SsOk s 1 := of_decide_eq_true h
  have hV := hk.1
  have e1 : ssF s 1 = ScF 1 s := if_pos hk
  have hS : SlideOk s (e : Int) := ⟨hV, by omega, by omega⟩
  obtain ⟨y1, y2, y3, _⟩ := slide_yes hS
  have hb := slideS_bd hV e 4 (Nat.le_refl _)
  have hc := means_sc1 hV
  rw [e1]
  refine ⟨slideRB s (e : Int), (slideS s e 4).toNat, fun W => ?_, fun W => ?_⟩
  · have := implSlide_any s (e : Int) W
    have e3 : slideRS s (e : Int) = (((slideS s e 4).toNat : Nat) : Int) := by
      rw [y3]; show slideS s e 4 = _; omega
    rw [y1, e3] at this
    exact this
  · refine less_no (ScF 1 s) ((slideS s e 4).toNat, 1) ?_ ?_ (means_score hV he) W
    · show (ScF 1 s).1 * 1 ≤ _; omega
    · show (slideS s e 4).toNat * (ScF 1 s).2 ≤ _; rw [hc.2]; omega
set_option maxHeartbeats 16000000 in
set_option maxRecDepth 100000 in
theorem walk (w : World) (_ : w.ShapedOpen Try.prog) (a0 : Option Addr) (len0 cap0 : Nat) (z0 : List Int) (hr : IsRow .u8 w a0 len0 cap0 z0) :
    Calls Try.prog 7 #[.slice a0 len0 cap0] w fun e w' => e = .returned (.bool true) ∧ Below w.heap.size w w' := by
  have z16 := zero16
  have z2 := zero2
  have iNC := neqC_self
  have HR := Lib.hid hr
  have HB : Hid (Below w.heap.size w w) := Below.refl w.heap.size w
  clear hr
  by_cases hl : len0 ≤ 65536
  · have dl : decide ((65536 : Int) < (len0 : Int)) = false := by simp; omega
    go_enter Try.func7, Try.ntmps7
    go_wp2_with fail
    refine (vBig_any a0 len0 cap0 _).mono ?_
    rintro e w' ⟨rfl, rfl⟩
    rw [dl]
    clear dl
    go_wp2_with fail
    refine (drawMRoom_any a0 len0 cap0 _ hl (HR.out.code)).mono ?_
    rintro e w1 ⟨f, d, rfl, hb⟩
    replace HB : Hid (Below w.heap.size w w1) := HB.out.trans (hb.mono HB.out.size)
    clear hb
    have K3 := Blk.new (w1) 16 (f) 47
    replace HB : Hid (Below w.heap.size w ((w1).alloc (.cells (mk 16 (f)) 47))) := HB.out.alloc HB.out.size _
    obtain ⟨M, hM⟩ : ∃ x, x = mmF (numT uRoom) f d := ⟨_, rfl⟩
    obtain ⟨mo, hmo⟩ : ∃ x, x = decide (MvOk f d) := ⟨_, rfl⟩
    obtain ⟨Q, hQ⟩ : ∃ x, x = brB f := ⟨_, rfl⟩
    have iMR := Lib.hid (implMeanRoom_any f d)
    have sMR := Lib.hid (specMeanRoom_any f d)
    have iBR := Lib.hid (implBestRoom_any f)
    have sBR := Lib.hid (specBestRoom_any f)
    have HA := Lib.hid (room_facts f d)
    rw [← hM, ← hmo] at iMR sMR
    rw [← hQ] at iBR sBR
    rw [← hM, ← hmo, ← hQ] at HA
    clear hM hmo hQ
    obtain ⟨wd, bv, bo⟩ := Q
    replace iBR := Lib.hid iBR.out
    replace sBR := Lib.hid sBR.out
    replace HA := Lib.hid HA.out
    dsimp only at iBR sBR HA
    generalize (wd : Int) = wi at *
    go_wp2_with (first | ((with_reducible show wpList _ _ _ (Oper.mk _ (Op.load 47 _) _ _ _ _ :: _) _ _); refine loadB (K3) rfl rfl rfl ?_) | ((with_reducible show wpList _ _ _ (Oper.mk _ (Op.load 47 _) _ _ _ (some _) :: _) _ _); refine loadgB (K3) rfl rfl rfl ?_))
    generalize (w1).alloc (.cells (mk 16 (f)) 47) = w2 at *
    generalize w1.heap.size = b3 at *
    refine (iMR.out _).mono ?_
    rintro e w3 ⟨rfl, hb⟩
    replace K3 := K3.below hb K3.lt
    replace HB : Hid (Below w.heap.size w w3) := HB.out.trans (hb.mono HB.out.size)
    clear hb
    have K5 := Blk.new (w3) 2 (fcF M) 42
    replace K3 := K3.alloc (.cells (mk 2 (fcF M)) 42)
    replace HB : Hid (Below w.heap.size w ((w3).alloc (.cells (mk 2 (fcF M)) 42))) := HB.out.alloc HB.out.size _
    go_wp2_with (first | ((with_reducible show wpList _ _ _ (Oper.mk _ (Op.load 47 _) _ _ _ _ :: _) _ _); refine loadB (K3) rfl rfl rfl ?_) | ((with_reducible show wpList _ _ _ (Oper.mk _ (Op.load 47 _) _ _ _ (some _) :: _) _ _); refine loadgB (K3) rfl rfl rfl ?_))
    generalize (w3).alloc (.cells (mk 2 (fcF M)) 42) = w4 at *
    generalize w3.heap.size = b5 at *
    refine (sMR.out _).mono ?_
    rintro e w5 ⟨rfl, hb⟩
    replace K3 := K3.below hb K3.lt
    replace K5 := K5.below hb K5.lt
    replace HB : Hid (Below w.heap.size w w5) := HB.out.trans (hb.mono HB.out.size)
    clear hb
    have K7 := Blk.new (w5) 2 (fcF M) 42
    replace K3 := K3.alloc (.cells (mk 2 (fcF M)) 42)
    replace K5 := K5.alloc (.cells (mk 2 (fcF M)) 42)
    replace HB : Hid (Below w.heap.size w ((w5).alloc (.cells (mk 2 (fcF M)) 42))) := HB.out.alloc HB.out.size _
    go_wp2_with (first | ((with_reducible show wpList _ _ _ (Oper.mk _ (Op.load 47 _) _ _ _ _ :: _) _ _); refine loadB (K3) rfl rfl rfl ?_) | ((with_reducible show wpList _ _ _ (Oper.mk _ (Op.load 47 _) _ _ _ (some _) :: _) _ _); refine loadgB (K3) rfl rfl rfl ?_))
    generalize (w5).alloc (.cells (mk 2 (fcF M)) 42) = w6 at *
    generalize w5.heap.size = b7 at *
    refine (iBR.out _).mono ?_
    rintro e w7 ⟨rfl, hb⟩
    replace K3 := K3.below hb K3.lt
    replace K5 := K5.below hb K5.lt
    replace K7 := K7.below hb K7.lt
    replace HB : Hid (Below w.heap.size w w7) := HB.out.trans (hb.mono HB.out.size)
    clear hb
    have K10 := Blk.new (w7) 2 (fcF bv) 42
    replace K3 := K3.alloc (.cells (mk 2 (fcF bv)) 42)
    replace K5 := K5.alloc (.cells (mk 2 (fcF bv)) 42)
    replace K7 := K7.alloc (.cells (mk 2 (fcF bv)) 42)
    replace HB : Hid (Below w.heap.size w ((w7).alloc (.cells (mk 2 (fcF bv)) 42))) := HB.out.alloc HB.out.size _
    go_wp2_with (first | ((with_reducible show wpList _ _ _ (Oper.mk _ (Op.load 47 _) _ _ _ _ :: _) _ _); refine loadB (K3) rfl rfl rfl ?_) | ((with_reducible show wpList _ _ _ (Oper.mk _ (Op.load 47 _) _ _ _ (some _) :: _) _ _); refine loadgB (K3) rfl rfl rfl ?_))
    generalize (w7).alloc (.cells (mk 2 (fcF bv)) 42) = w8 at *
    generalize w7.heap.size = b10 at *
    refine (sBR.out _).mono ?_
    rintro e w9 ⟨rfl, hb⟩
    replace K3 := K3.below hb K3.lt
    replace K5 := K5.below hb K5.lt
    replace K7 := K7.below hb K7.lt
    replace K10 := K10.below hb K10.lt
    replace HB : Hid (Below w.heap.size w w9) := HB.out.trans (hb.mono HB.out.size)
    clear hb
    have K13 := Blk.new (w9) 2 (fcF bv) 42
    replace K3 := K3.alloc (.cells (mk 2 (fcF bv)) 42)
    replace K5 := K5.alloc (.cells (mk 2 (fcF bv)) 42)
    replace K7 := K7.alloc (.cells (mk 2 (fcF bv)) 42)
    replace K10 := K10.alloc (.cells (mk 2 (fcF bv)) 42)
    replace HB : Hid (Below w.heap.size w ((w9).alloc (.cells (mk 2 (fcF bv)) 42))) := HB.out.alloc HB.out.size _
    clear iMR sMR iBR sBR
    go_wp2_with fail
    generalize (w9).alloc (.cells (mk 2 (fcF bv)) 42) = w10 at *
    generalize w9.heap.size = b13 at *
    refine (vCut1_any a0 len0 cap0 z0 _ hl (isRow_kept HR.out HB.out)).mono ?_
    rintro e w11 ⟨g1, m1, c1, rfl, hm1, hcr, hb⟩
    replace K3 := K3.below hb K3.lt
    replace K5 := K5.below hb K5.lt
    replace K7 := K7.below hb K7.lt
    replace K10 := K10.below hb K10.lt
    replace K13 := K13.below hb K13.lt
    replace HB : Hid (Below w.heap.size w w11) := HB.out.trans (hb.mono HB.out.size)
    clear hb
    have HCR := Lib.hid hcr
    clear hcr
    go_wp2_with fail
    refine (drawMSum_any (some ⟨g1, 0, none⟩) m1 c1 _ hm1 HCR.out).mono ?_
    rintro e w12 ⟨c, n, rfl, hb⟩
    replace K3 := K3.below hb K3.lt
    replace K5 := K5.below hb K5.lt
    replace K7 := K7.below hb K7.lt
    replace K10 := K10.below hb K10.lt
    replace K13 := K13.below hb K13.lt
    replace HB : Hid (Below w.heap.size w w12) := HB.out.trans (hb.mono HB.out.size)
    clear hb
    clear HCR hm1
    have K15 := Blk.new (w12) 16 (c) 47
    replace K3 := K3.alloc (.cells (mk 16 (c)) 47)
    replace K5 := K5.alloc (.cells (mk 16 (c)) 47)
    replace K7 := K7.alloc (.cells (mk 16 (c)) 47)
    replace K10 := K10.alloc (.cells (mk 16 (c)) 47)
    replace K13 := K13.alloc (.cells (mk 16 (c)) 47)
    replace HB : Hid (Below w.heap.size w ((w12).alloc (.cells (mk 16 (c)) 47))) := HB.out.alloc HB.out.size _
    obtain ⟨P, hP⟩ : ∃ x, x = msF c n := ⟨_, rfl⟩
    obtain ⟨so, hso⟩ : ∃ x, x = msO c n := ⟨_, rfl⟩
    have iMS := Lib.hid (implMeanSum_any c n)
    have sMS := Lib.hid (specMeanSum_any c n)
    have HS := Lib.hid (sum_facts (c := c) (n := n))
    rw [← hP, ← hso] at iMS sMS HS
    clear hP hso
    go_wp2_with (first | ((with_reducible show wpList _ _ _ (Oper.mk _ (Op.load 47 _) _ _ _ _ :: _) _ _); refine loadB (K15) rfl rfl rfl ?_) | ((with_reducible show wpList _ _ _ (Oper.mk _ (Op.load 47 _) _ _ _ (some _) :: _) _ _); refine loadgB (K15) rfl rfl rfl ?_))
    generalize (w12).alloc (.cells (mk 16 (c)) 47) = w13 at *
    generalize w12.heap.size = b15 at *
    refine (iMS.out _).mono ?_
    rintro e w14 ⟨rfl, hb⟩
    replace K3 := K3.below hb K3.lt
    replace K5 := K5.below hb K5.lt
    replace K7 := K7.below hb K7.lt
    replace K10 := K10.below hb K10.lt
    replace K13 := K13.below hb K13.lt
    replace K15 := K15.below hb K15.lt
    replace HB : Hid (Below w.heap.size w w14) := HB.out.trans (hb.mono HB.out.size)
    clear hb
    have K17 := Blk.new (w14) 2 (fcF P) 42
    replace K3 := K3.alloc (.cells (mk 2 (fcF P)) 42)
    replace K5 := K5.alloc (.cells (mk 2 (fcF P)) 42)
    replace K7 := K7.alloc (.cells (mk 2 (fcF P)) 42)
    replace K10 := K10.alloc (.cells (mk 2 (fcF P)) 42)
    replace K13 := K13.alloc (.cells (mk 2 (fcF P)) 42)
    replace K15 := K15.alloc (.cells (mk 2 (fcF P)) 42)
    replace HB : Hid (Below w.heap.size w ((w14).alloc (.cells (mk 2 (fcF P)) 42))) := HB.out.alloc HB.out.size _
    go_wp2_with (first | ((with_reducible show wpList _ _ _ (Oper.mk _ (Op.load 47 _) _ _ _ _ :: _) _ _); refine loadB (K15) rfl rfl rfl ?_) | ((with_reducible show wpList _ _ _ (Oper.mk _ (Op.load 47 _) _ _ _ (some _) :: _) _ _); refine loadgB (K15) rfl rfl rfl ?_))
    generalize (w14).alloc (.cells (mk 2 (fcF P)) 42) = w15 at *
    generalize w14.heap.size = b17 at *
    refine (sMS.out _).mono ?_
    rintro e w16 ⟨rfl, hb⟩
    replace K3 := K3.below hb K3.lt
    replace K5 := K5.below hb K5.lt
    replace K7 := K7.below hb K7.lt
    replace K10 := K10.below hb K10.lt
    replace K13 := K13.below hb K13.lt
    replace K15 := K15.below hb K15.lt
    replace K17 := K17.below hb K17.lt
    replace HB : Hid (Below w.heap.size w w16) := HB.out.trans (hb.mono HB.out.size)
    clear hb
    have K19 := Blk.new (w16) 2 (fcF P) 42
    replace K3 := K3.alloc (.cells (mk 2 (fcF P)) 42)
    replace K5 := K5.alloc (.cells (mk 2 (fcF P)) 42)
    replace K7 := K7.alloc (.cells (mk 2 (fcF P)) 42)
    replace K10 := K10.alloc (.cells (mk 2 (fcF P)) 42)
    replace K13 := K13.alloc (.cells (mk 2 (fcF P)) 42)
    replace K15 := K15.alloc (.cells (mk 2 (fcF P)) 42)
    replace K17 := K17.alloc (.cells (mk 2 (fcF P)) 42)
    replace HB : Hid (Below w.heap.size w ((w16).alloc (.cells (mk 2 (fcF P)) 42))) := HB.out.alloc HB.out.size _
    clear iMS sMS
    go_wp2_with fail
    generalize (w16).alloc (.cells (mk 2 (fcF P)) 42) = w17 at *
    generalize w16.heap.size = b19 at *
    refine (vCut2_any a0 len0 cap0 z0 _ hl (isRow_kept HR.out HB.out)).mono ?_
    rintro e w18 ⟨g2, m2, c2, rfl, hm2, hcr, hb⟩
    replace K3 := K3.below hb K3.lt
    replace K5 := K5.below hb K5.lt
    replace K7 := K7.below hb K7.lt
    replace K10 := K10.below hb K10.lt
    replace K13 := K13.below hb K13.lt
    replace K15 := K15.below hb K15.lt
    replace K17 := K17.below hb K17.lt
    replace K19 := K19.below hb K19.lt
    replace HB : Hid (Below w.heap.size w w18) := HB.out.trans (hb.mono HB.out.size)
    clear hb
    have HCR := Lib.hid hcr
    clear hcr
    go_wp2_with fail
    refine (drawMScore_any (some ⟨g2, 0, none⟩) m2 c2 _ hm2 HCR.out).mono ?_
    rintro e w19 ⟨s, u, rfl, hb⟩
    replace K3 := K3.below hb K3.lt
    replace K5 := K5.below hb K5.lt
    replace K7 := K7.below hb K7.lt
    replace K10 := K10.below hb K10.lt
    replace K13 := K13.below hb K13.lt
    replace K15 := K15.below hb K15.lt
    replace K17 := K17.below hb K17.lt
    replace K19 := K19.below hb K19.lt
    replace HB : Hid (Below w.heap.size w w19) := HB.out.trans (hb.mono HB.out.size)
    clear hb
    clear HCR hm2 HR
    have K21 := Blk.new (w19) 16 (s) 47
    replace K3 := K3.alloc (.cells (mk 16 (s)) 47)
    replace K5 := K5.alloc (.cells (mk 16 (s)) 47)
    replace K7 := K7.alloc (.cells (mk 16 (s)) 47)
    replace K10 := K10.alloc (.cells (mk 16 (s)) 47)
    replace K13 := K13.alloc (.cells (mk 16 (s)) 47)
    replace K15 := K15.alloc (.cells (mk 16 (s)) 47)
    replace K17 := K17.alloc (.cells (mk 16 (s)) 47)
    replace K19 := K19.alloc (.cells (mk 16 (s)) 47)
    replace HB : Hid (Below w.heap.size w ((w19).alloc (.cells (mk 16 (s)) 47))) := HB.out.alloc HB.out.size _
    obtain ⟨T, hT⟩ : ∃ x, x = ssF s u := ⟨_, rfl⟩
    obtain ⟨tk, htk⟩ : ∃ x, x = ssO s u := ⟨_, rfl⟩
    have iSC := Lib.hid (implScoreC_any s u)
    have sSC := Lib.hid (specScoreC_any s u)
    have HC := Lib.hid (score_facts (s := s) (u := u))
    rw [← hT, ← htk] at iSC sSC HC
    clear hT htk
    go_wp2_with (first | ((with_reducible show wpList _ _ _ (Oper.mk _ (Op.load 47 _) _ _ _ _ :: _) _ _); refine loadB (K21) rfl rfl rfl ?_) | ((with_reducible show wpList _ _ _ (Oper.mk _ (Op.load 47 _) _ _ _ (some _) :: _) _ _); refine loadgB (K21) rfl rfl rfl ?_))
    generalize (w19).alloc (.cells (mk 16 (s)) 47) = w20 at *
    generalize w19.heap.size = b21 at *
    refine (iSC.out _).mono ?_
    rintro e w21 ⟨rfl, hb⟩
    replace K3 := K3.below hb K3.lt
    replace K5 := K5.below hb K5.lt
    replace K7 := K7.below hb K7.lt
    replace K10 := K10.below hb K10.lt
    replace K13 := K13.below hb K13.lt
    replace K15 := K15.below hb K15.lt
    replace K17 := K17.below hb K17.lt
    replace K19 := K19.below hb K19.lt
    replace K21 := K21.below hb K21.lt
    replace HB : Hid (Below w.heap.size w w21) := HB.out.trans (hb.mono HB.out.size)
    clear hb
    have K23 := Blk.new (w21) 2 (fcF T) 42
    replace K3 := K3.alloc (.cells (mk 2 (fcF T)) 42)
    replace K5 := K5.alloc (.cells (mk 2 (fcF T)) 42)
    replace K7 := K7.alloc (.cells (mk 2 (fcF T)) 42)
    replace K10 := K10.alloc (.cells (mk 2 (fcF T)) 42)
    replace K13 := K13.alloc (.cells (mk 2 (fcF T)) 42)
    replace K15 := K15.alloc (.cells (mk 2 (fcF T)) 42)
    replace K17 := K17.alloc (.cells (mk 2 (fcF T)) 42)
    replace K19 := K19.alloc (.cells (mk 2 (fcF T)) 42)
    replace K21 := K21.alloc (.cells (mk 2 (fcF T)) 42)
    replace HB : Hid (Below w.heap.size w ((w21).alloc (.cells (mk 2 (fcF T)) 42))) := HB.out.alloc HB.out.size _
    go_wp2_with (first | ((with_reducible show wpList _ _ _ (Oper.mk _ (Op.load 47 _) _ _ _ _ :: _) _ _); refine loadB (K21) rfl rfl rfl ?_) | ((with_reducible show wpList _ _ _ (Oper.mk _ (Op.load 47 _) _ _ _ (some _) :: _) _ _); refine loadgB (K21) rfl rfl rfl ?_))
    generalize (w21).alloc (.cells (mk 2 (fcF T)) 42) = w22 at *
    generalize w21.heap.size = b23 at *
    refine (sSC.out _).mono ?_
    rintro e w23 ⟨rfl, hb⟩
    replace K3 := K3.below hb K3.lt
    replace K5 := K5.below hb K5.lt
    replace K7 := K7.below hb K7.lt
    replace K10 := K10.below hb K10.lt
    replace K13 := K13.below hb K13.lt
    replace K15 := K15.below hb K15.lt
    replace K17 := K17.below hb K17.lt
    replace K19 := K19.below hb K19.lt
    replace K21 := K21.below hb K21.lt
    replace K23 := K23.below hb K23.lt
    replace HB : Hid (Below w.heap.size w w23) := HB.out.trans (hb.mono HB.out.size)
    clear hb
    have K25 := Blk.new (w23) 2 (fcF T) 42
    replace K3 := K3.alloc (.cells (mk 2 (fcF T)) 42)
    replace K5 := K5.alloc (.cells (mk 2 (fcF T)) 42)
    replace K7 := K7.alloc (.cells (mk 2 (fcF T)) 42)
    replace K10 := K10.alloc (.cells (mk 2 (fcF T)) 42)
    replace K13 := K13.alloc (.cells (mk 2 (fcF T)) 42)
    replace K15 := K15.alloc (.cells (mk 2 (fcF T)) 42)
    replace K17 := K17.alloc (.cells (mk 2 (fcF T)) 42)
    replace K19 := K19.alloc (.cells (mk 2 (fcF T)) 42)
    replace K21 := K21.alloc (.cells (mk 2 (fcF T)) 42)
    replace K23 := K23.alloc (.cells (mk 2 (fcF T)) 42)
    replace HB : Hid (Below w.heap.size w ((w23).alloc (.cells (mk 2 (fcF T)) 42))) := HB.out.alloc HB.out.size _
    clear iSC sSC
    go_upto_region 14 with fail
    generalize (w23).alloc (.cells (mk 2 (fcF T)) 42) = w24 at *
    generalize w23.heap.size = b25 at *
    have o1 : (mo != mo) = false := by cases mo <;> rfl
    have o2 : (so != so) = false := by cases so <;> rfl
    have o3 : (tk != tk) = false := by cases tk <;> rfl
    have o4 : (bo != bo) = false := by cases bo <;> rfl
    have o5 : (wi != wi) = false := by simp
    go_cut [151] from 102 to 151 (fun s151 wc => s151 = .bool false ∧ Blk wc b3 16 (f) 47 ∧ Blk wc b5 2 (fcF M) 42 ∧ Blk wc b10 2 (fcF bv) 42 ∧ Blk wc b15 16 (c) 47 ∧ Blk wc b17 2 (fcF P) 42 ∧ Blk wc b21 16 (s) 47 ∧ Blk wc b23 2 (fcF T) 42 ∧ Below w.heap.size w wc)
    case first => as_aux_lemma =>
      have ha := HA.out.1
      cases hmo : mo with
      | false =>
        subst hmo
        clear ha
        go_wp2_with (first | ((with_reducible show wpList _ _ _ (Oper.mk _ (Op.load 42 _) _ _ _ _ :: _) _ _); refine loadC (K5) rfl rfl rfl ?_) | ((with_reducible show wpList _ _ _ (Oper.mk _ (Op.load 42 _) _ _ _ (some _) :: _) _ _); refine loadgC (K5) rfl rfl rfl ?_) | ((with_reducible show wpList _ _ _ (Oper.mk _ (Op.load 42 _) _ _ _ _ :: _) _ _); refine loadC (K7) rfl rfl rfl ?_) | ((with_reducible show wpList _ _ _ (Oper.mk _ (Op.load 42 _) _ _ _ (some _) :: _) _ _); refine loadgC (K7) rfl rfl rfl ?_) | ((with_reducible show wpList _ _ _ (Oper.mk _ (Op.load 42 _) _ _ _ _ :: _) _ _); refine loadC (K10) rfl rfl rfl ?_) | ((with_reducible show wpList _ _ _ (Oper.mk _ (Op.load 42 _) _ _ _ (some _) :: _) _ _); refine loadgC (K10) rfl rfl rfl ?_) | ((with_reducible show wpList _ _ _ (Oper.mk _ (Op.load 42 _) _ _ _ _ :: _) _ _); refine loadC (K13) rfl rfl rfl ?_) | ((with_reducible show wpList _ _ _ (Oper.mk _ (Op.load 42 _) _ _ _ (some _) :: _) _ _); refine loadgC (K13) rfl rfl rfl ?_) | ((with_reducible show wpList _ _ _ (Oper.mk _ (Op.load 42 _) _ _ _ _ :: _) _ _); refine loadC (K17) rfl rfl rfl ?_) | ((with_reducible show wpList _ _ _ (Oper.mk _ (Op.load 42 _) _ _ _ (some _) :: _) _ _); refine loadgC (K17) rfl rfl rfl ?_) | ((with_reducible show wpList _ _ _ (Oper.mk _ (Op.load 42 _) _ _ _ _ :: _) _ _); refine loadC (K19) rfl rfl rfl ?_) | ((with_reducible show wpList _ _ _ (Oper.mk _ (Op.load 42 _) _ _ _ (some _) :: _) _ _); refine loadgC (K19) rfl rfl rfl ?_) | ((with_reducible show wpList _ _ _ (Oper.mk _ (Op.load 42 _) _ _ _ _ :: _) _ _); refine loadC (K23) rfl rfl rfl ?_) | ((with_reducible show wpList _ _ _ (Oper.mk _ (Op.load 42 _) _ _ _ (some _) :: _) _ _); refine loadgC (K23) rfl rfl rfl ?_) | ((with_reducible show wpList _ _ _ (Oper.mk _ (Op.load 42 _) _ _ _ _ :: _) _ _); refine loadC (K25) rfl rfl rfl ?_) | ((with_reducible show wpList _ _ _ (Oper.mk _ (Op.load 42 _) _ _ _ (some _) :: _) _ _); refine loadgC (K25) rfl rfl rfl ?_))
        go_meet
        case rel => exact ⟨by first | rfl | trivial, K3, K5, K10, K15, K17, K21, K23, HB.out⟩
      | true =>
        have hbo := (ha hmo).1
        subst hmo hbo
        clear ha o1 o4
        go_wp2_with (first | ((with_reducible show wpList _ _ _ (Oper.mk _ (Op.load 42 _) _ _ _ _ :: _) _ _); refine loadC (K5) rfl rfl rfl ?_) | ((with_reducible show wpList _ _ _ (Oper.mk _ (Op.load 42 _) _ _ _ (some _) :: _) _ _); refine loadgC (K5) rfl rfl rfl ?_) | ((with_reducible show wpList _ _ _ (Oper.mk _ (Op.load 42 _) _ _ _ _ :: _) _ _); refine loadC (K7) rfl rfl rfl ?_) | ((with_reducible show wpList _ _ _ (Oper.mk _ (Op.load 42 _) _ _ _ (some _) :: _) _ _); refine loadgC (K7) rfl rfl rfl ?_) | ((with_reducible show wpList _ _ _ (Oper.mk _ (Op.load 42 _) _ _ _ _ :: _) _ _); refine loadC (K10) rfl rfl rfl ?_) | ((with_reducible show wpList _ _ _ (Oper.mk _ (Op.load 42 _) _ _ _ (some _) :: _) _ _); refine loadgC (K10) rfl rfl rfl ?_) | ((with_reducible show wpList _ _ _ (Oper.mk _ (Op.load 42 _) _ _ _ _ :: _) _ _); refine loadC (K13) rfl rfl rfl ?_) | ((with_reducible show wpList _ _ _ (Oper.mk _ (Op.load 42 _) _ _ _ (some _) :: _) _ _); refine loadgC (K13) rfl rfl rfl ?_) | ((with_reducible show wpList _ _ _ (Oper.mk _ (Op.load 42 _) _ _ _ _ :: _) _ _); refine loadC (K17) rfl rfl rfl ?_) | ((with_reducible show wpList _ _ _ (Oper.mk _ (Op.load 42 _) _ _ _ (some _) :: _) _ _); refine loadgC (K17) rfl rfl rfl ?_) | ((with_reducible show wpList _ _ _ (Oper.mk _ (Op.load 42 _) _ _ _ _ :: _) _ _); refine loadC (K19) rfl rfl rfl ?_) | ((with_reducible show wpList _ _ _ (Oper.mk _ (Op.load 42 _) _ _ _ (some _) :: _) _ _); refine loadgC (K19) rfl rfl rfl ?_) | ((with_reducible show wpList _ _ _ (Oper.mk _ (Op.load 42 _) _ _ _ _ :: _) _ _); refine loadC (K23) rfl rfl rfl ?_) | ((with_reducible show wpList _ _ _ (Oper.mk _ (Op.load 42 _) _ _ _ (some _) :: _) _ _); refine loadgC (K23) rfl rfl rfl ?_) | ((with_reducible show wpList _ _ _ (Oper.mk _ (Op.load 42 _) _ _ _ _ :: _) _ _); refine loadC (K25) rfl rfl rfl ?_) | ((with_reducible show wpList _ _ _ (Oper.mk _ (Op.load 42 _) _ _ _ (some _) :: _) _ _); refine loadgC (K25) rfl rfl rfl ?_))
        go_meet
        case rel => exact ⟨by first | rfl | trivial, K3, K5, K10, K15, K17, K21, K23, HB.out⟩
    case rest =>
      clear o1 o2 o3 o4 o5
      clear K3 K5 K7 K10 K13 K15 K17 K19 K21 K23 K25 HB
      obtain ⟨rfl, K3, K5, K10, K15, K17, K21, K23, hb0⟩ := hcut
      have HB := Lib.hid hb0
      clear hb0
      go_upto_region 16 with fail
      go_cut [167] from 152 to 167 (fun s167 wc => s167 = .bool false ∧ Blk wc b3 16 (f) 47 ∧ Blk wc b10 2 (fcF bv) 42 ∧ Blk wc b15 16 (c) 47 ∧ Blk wc b17 2 (fcF P) 42 ∧ Blk wc b21 16 (s) 47 ∧ Blk wc b23 2 (fcF T) 42 ∧ Below w.heap.size w wc)
      case first => as_aux_lemma =>
        cases hmo : mo with
        | false =>
          subst hmo
          go_wp2_with fail
          go_meet
          case rel => exact ⟨by first | rfl | trivial, K3, K10, K15, K17, K21, K23, HB.out⟩
        | true =>
          obtain ⟨h1, h2⟩ := (HA.out.1 hmo).2
          subst hmo
          have iL := Lib.hid h1
          have iE := Lib.hid h2
          clear h1 h2
          go_wp2_with (first | ((with_reducible show wpList _ _ _ (Oper.mk _ (Op.load 42 _) _ _ _ _ :: _) _ _); refine loadC (K5) rfl rfl rfl ?_) | ((with_reducible show wpList _ _ _ (Oper.mk _ (Op.load 42 _) _ _ _ (some _) :: _) _ _); refine loadgC (K5) rfl rfl rfl ?_) | ((with_reducible show wpList _ _ _ (Oper.mk _ (Op.load 42 _) _ _ _ _ :: _) _ _); refine loadC (K10) rfl rfl rfl ?_) | ((with_reducible show wpList _ _ _ (Oper.mk _ (Op.load 42 _) _ _ _ (some _) :: _) _ _); refine loadgC (K10) rfl rfl rfl ?_))
          refine (iL.out _).mono ?_
          rintro e w61 ⟨rfl, hb⟩
          replace K3 := K3.below hb K3.lt
          replace K5 := K5.below hb K5.lt
          replace K10 := K10.below hb K10.lt
          replace K15 := K15.below hb K15.lt
          replace K17 := K17.below hb K17.lt
          replace K21 := K21.below hb K21.lt
          replace K23 := K23.below hb K23.lt
          replace HB : Hid (Below w.heap.size w w61) := HB.out.trans (hb.mono HB.out.size)
          clear hb
          clear iL
          by_cases hlt : d < wi
          · have iE := iE.out hlt
            go_wp2_with (first | ((with_reducible show wpList _ _ _ (Oper.mk _ (Op.load 42 _) _ _ _ _ :: _) _ _); refine loadC (K5) rfl rfl rfl ?_) | ((with_reducible show wpList _ _ _ (Oper.mk _ (Op.load 42 _) _ _ _ (some _) :: _) _ _); refine loadgC (K5) rfl rfl rfl ?_) | ((with_reducible show wpList _ _ _ (Oper.mk _ (Op.load 42 _) _ _ _ _ :: _) _ _); refine loadC (K10) rfl rfl rfl ?_) | ((with_reducible show wpList _ _ _ (Oper.mk _ (Op.load 42 _) _ _ _ (some _) :: _) _ _); refine loadgC (K10) rfl rfl rfl ?_))
            go_meet
            case rel => exact ⟨by first | rfl | trivial, K3, K10, K15, K17, K21, K23, HB.out⟩
          · clear iE
            go_wp2_with (first | ((with_reducible show wpList _ _ _ (Oper.mk _ (Op.load 42 _) _ _ _ _ :: _) _ _); refine loadC (K5) rfl rfl rfl ?_) | ((with_reducible show wpList _ _ _ (Oper.mk _ (Op.load 42 _) _ _ _ (some _) :: _) _ _); refine loadgC (K5) rfl rfl rfl ?_) | ((with_reducible show wpList _ _ _ (Oper.mk _ (Op.load 42 _) _ _ _ _ :: _) _ _); refine loadC (K10) rfl rfl rfl ?_) | ((with_reducible show wpList _ _ _ (Oper.mk _ (Op.load 42 _) _ _ _ (some _) :: _) _ _); refine loadgC (K10) rfl rfl rfl ?_))
            go_meet
            case rel => exact ⟨by first | rfl | trivial, K3, K10, K15, K17, K21, K23, HB.out⟩
      case rest =>
        clear K3 K5 K10 K15 K17 K21 K23 HB
        obtain ⟨rfl, K3, K10, K15, K17, K21, K23, hb0⟩ := hcut
        have HB := Lib.hid hb0
        clear hb0
        go_upto_if 168 with fail
        go_cut [] from 169 to 181 (fun wc => Blk wc b15 16 (c) 47 ∧ Blk wc b17 2 (fcF P) 42 ∧ Blk wc b21 16 (s) 47 ∧ Blk wc b23 2 (fcF T) 42 ∧ Below w.heap.size w wc)
        case first => as_aux_lemma =>
          cases hbo : bo with
          | false =>
            subst hbo
            go_wp2_with fail
            go_meet
            case rel => exact ⟨K15, K17, K21, K23, HB.out⟩
          | true =>
            have h1 := HA.out.2 hbo
            subst hbo
            have iR := Lib.hid h1
            clear h1
            go_wp2_with (first | ((with_reducible show wpList _ _ _ (Oper.mk _ (Op.load 47 _) _ _ _ _ :: _) _ _); refine loadB (K3) rfl rfl rfl ?_) | ((with_reducible show wpList _ _ _ (Oper.mk _ (Op.load 47 _) _ _ _ (some _) :: _) _ _); refine loadgB (K3) rfl rfl rfl ?_))
            refine (iR.out _).mono ?_
            rintro e w71 ⟨rfl, hb⟩
            replace K3 := K3.below hb K3.lt
            replace K10 := K10.below hb K10.lt
            replace K15 := K15.below hb K15.lt
            replace K17 := K17.below hb K17.lt
            replace K21 := K21.below hb K21.lt
            replace K23 := K23.below hb K23.lt
            replace HB : Hid (Below w.heap.size w w71) := HB.out.trans (hb.mono HB.out.size)
            clear hb
            clear iR
            have K27 := Blk.new (w71) 2 (fcF bv) 42
            replace K3 := K3.alloc (.cells (mk 2 (fcF bv)) 42)
            replace K10 := K10.alloc (.cells (mk 2 (fcF bv)) 42)
            replace K15 := K15.alloc (.cells (mk 2 (fcF bv)) 42)
            replace K17 := K17.alloc (.cells (mk 2 (fcF bv)) 42)
            replace K21 := K21.alloc (.cells (mk 2 (fcF bv)) 42)
            replace K23 := K23.alloc (.cells (mk 2 (fcF bv)) 42)
            replace HB : Hid (Below w.heap.size w ((w71).alloc (.cells (mk 2 (fcF bv)) 42))) := HB.out.alloc HB.out.size _
            go_wp2_with (first | ((with_reducible show wpList _ _ _ (Oper.mk _ (Op.load 42 _) _ _ _ _ :: _) _ _); refine loadC (K27) rfl rfl rfl ?_) | ((with_reducible show wpList _ _ _ (Oper.mk _ (Op.load 42 _) _ _ _ (some _) :: _) _ _); refine loadgC (K27) rfl rfl rfl ?_) | ((with_reducible show wpList _ _ _ (Oper.mk _ (Op.load 42 _) _ _ _ _ :: _) _ _); refine loadC (K10) rfl rfl rfl ?_) | ((with_reducible show wpList _ _ _ (Oper.mk _ (Op.load 42 _) _ _ _ (some _) :: _) _ _); refine loadgC (K10) rfl rfl rfl ?_))
            go_meet
            case rel => exact ⟨K15, K17, K21, K23, HB.out⟩
        case rest =>
          clear HA
          clear K3 K10 K15 K17 K21 K23 HB
          obtain ⟨K15, K17, K21, K23, hb0⟩ := hcut
          have HB := Lib.hid hb0
          clear hb0
          go_upto_if 182 with fail
          go_cut [] from 183 to 203 (fun wc => Blk wc b21 16 (s) 47 ∧ Blk wc b23 2 (fcF T) 42 ∧ Below w.heap.size w wc)
          case first => as_aux_lemma =>
            cases hso : so with
            | false =>
              subst hso
              go_wp2_with fail
              go_meet
              case rel => exact ⟨K21, K23, HB.out⟩
            | true =>
              obtain ⟨tn, nn, rfl, h1, a1, a2, a3, a4, a5⟩ := HS.out hso
              subst hso
              have iS := Lib.hid h1
              clear h1
              go_wp2_with (first | ((with_reducible show wpList _ _ _ (Oper.mk _ (Op.load 47 _) _ _ _ _ :: _) _ _); refine loadB (K15) rfl rfl rfl ?_) | ((with_reducible show wpList _ _ _ (Oper.mk _ (Op.load 47 _) _ _ _ (some _) :: _) _ _); refine loadgB (K15) rfl rfl rfl ?_))
              refine (iS.out _).mono ?_
              rintro e w81 ⟨rfl, hb⟩
              replace K15 := K15.below hb K15.lt
              replace K17 := K17.below hb K17.lt
              replace K21 := K21.below hb K21.lt
              replace K23 := K23.below hb K23.lt
              replace HB : Hid (Below w.heap.size w w81) := HB.out.trans (hb.mono HB.out.size)
              clear hb
              clear iS
              have c170 := K17.cell (i := 0) (by omega)
              have c171 := K17.cell (i := 1) (by omega)
              simp only [fcF0, fcF1] at c170 c171
              generalize P.1 = p1 at *
              generalize P.2 = p2 at *
              clear K17 K15
              have e1 : (5 : Int) * (p1 : Int) = ((5 * p1 : Nat) : Int) := by omega
              have e2 : (5 : Int) * (tn : Int) = ((5 * tn : Nat) : Int) := by omega
              have e3 : (11 : Int) * (nn : Int) = ((11 * nn : Nat) : Int) := by omega
              have e4 : ((5 * tn : Nat) : Int) + ((11 * nn : Nat) : Int) = ((5 * tn + 11 * nn : Nat) : Int) := by omega
              have e5 : ((5 * tn + 11 * nn : Nat) : Int) * (p2 : Int) = ((5 * p1 : Nat) : Int) := by rw [a1]; exact (Int.natCast_mul _ _).symm
              have l1 : 5 * p1 ≤ 200000000 := by omega
              have l2 : 5 * tn ≤ 200000000 := by omega
              have l3 : 11 * nn ≤ 200000000 := by omega
              have l4 : 5 * tn + 11 * nn ≤ 200000000 := by omega
              have oY : (((5 * p1 : Nat) : Int) != ((5 * p1 : Nat) : Int)) = false := by simp
              clear a1 a2 a3 a4 a5
              generalize 5 * tn + 11 * nn = y4 at *
              generalize 5 * p1 = y1 at *
              generalize 5 * tn = y2 at *
              generalize 11 * nn = y3 at *
              go_wp2_with fail
              go_meet
              case rel => exact ⟨K21, K23, HB.out⟩
          case rest =>
            clear HS
            clear K15 K17 K21 K23 HB
            obtain ⟨K21, K23, hb0⟩ := hcut
            have HB := Lib.hid hb0
            clear hb0
            cases htk : tk with
            | false =>
              subst htk
              go_wp2_with fail
              go_ret
              exact ⟨rfl, HB.out⟩
            | true =>
              by_cases hu : u = 1
              · have hc := HC.out htk hu
                clear HC
                subst htk hu
                have HD := Lib.hid hc
                clear hc
                go_wp2_with fail
                go_loopg [31] 4 (fun g s31 wr => ∃ e : Nat, e + g = 4 ∧ s31 = .int .i64 e ∧ Blk wr b21 16 (s) 47 ∧ Blk wr b23 2 (fcF T) 42 ∧ Hid (Below w.heap.size w wr))
                case atStart => exact ⟨0, by omega, rfl, K21, K23, HB⟩
                case round =>
                  clear K21 K23 HB
                  obtain ⟨e, heg, rfl, K21, K23, HB⟩ := hrel
                  cases gk with
                  | zero =>
                    have he : ¬ ((e : Int) < 4) := by omega
                    go_wp2_with fail
                    go_ret
                    exact ⟨rfl, HB.out⟩
                  | succ g =>
                    have he : (e : Int) < 4 := by omega
                    obtain ⟨X, k, h1, h2⟩ := HD.out e (by omega)
                    have iX := Lib.hid h1
                    have iV := Lib.hid h2
                    clear h1 h2
                    go_wp2_with ((with_reducible show wpList _ _ _ (Oper.mk _ (Op.load 47 _) _ _ _ _ :: _) _ _); refine loadB (K21) rfl rfl rfl ?_)
                    refine (iX.out _).mono ?_
                    rintro _ v1 ⟨rfl, hb⟩
                    replace K21 := (K21.below hb K21.lt).alloc (.cells (mk 16 X) 47)
                    replace K23 := (K23.below hb K23.lt).alloc (.cells (mk 16 X) 47)
                    replace HB := HB.out.trans (hb.mono HB.out.size)
                    replace HB : Hid (Below w.heap.size w (v1.alloc (.cells (mk 16 X) 47))) := HB.alloc HB.size _
                    clear hb iX
                    go_wp2_with (first | ((with_reducible show wpList _ _ _ (Oper.mk _ (Op.load 42 _) _ _ _ _ :: _) _ _); refine loadC (K23) rfl rfl rfl ?_) | ((with_reducible show wpList _ _ _ (Oper.mk _ (Op.load 42 _) _ _ _ (some _) :: _) _ _); refine loadgC (K23) rfl rfl rfl ?_))
                    generalize v1.alloc (.cells (mk 16 X) 47) = v2 at *
                    refine (iV.out _).mono ?_
                    rintro _ v3 ⟨rfl, hb⟩
                    replace K21 := K21.below hb K21.lt
                    replace K23 := K23.below hb K23.lt
                    replace HB : Hid (Below w.heap.size w v3) := HB.out.trans (hb.mono HB.out.size)
                    clear hb iV
                    go_wp2_with fail
                    go_roundg g
                    case rel => exact ⟨e + 1, by omega, by go_num, K21, K23, HB⟩
                    case measure => omega
              · have du : (u == 1) = false := by simpa using hu
                subst htk
                clear HC
                go_wp2_with fail
                go_ret
                exact ⟨rfl, HB.out⟩
  · have dl : decide ((65536 : Int) < (len0 : Int)) = true := by simp; omega
    go_enter Try.func7, Try.ntmps7
    go_wp2_with fail
    refine (vBig_any a0 len0 cap0 _).mono ?_
    rintro e w' ⟨rfl, rfl⟩
    rw [dl]
    go_wp2_with fail
    go_ret
    exact ⟨rfl, HB.out⟩


end Go.Proofs.Ytblcojacmjbjcab.fnMeans
