/-
  Proved: for every code, the law FnSums returns true, and the code reads as it did. No condition.
-/
import Derived.Test.YtmcmpedmgibmkaaDrawSums
import Derived.Test.YtmcmpedmgibmkaaLeftOf
import Derived.Test.YtmcmpedmgibmkaaPotOf
import Derived.Test.YtmcmpedmgibmkaaSumOf
import Derived.Test.YtmcmpedmgibmkaaCellA
import Derived.Test.YtmcmpedmgibmkaaBaseA
import Derived.Test.YtmcmpedmgibmkaaClosed
import Derived.Deep.CutRange
namespace Go.Proofs.Ytmcmpedmgibmkaa.fnSums
open Go.ChangeShapes Go.WideShapes Go.ChangeAt Go.RowKit Plain
attribute [local go_sem] store_new
set_option linter.unusedSimpArgs false
set_option linter.unusedVariables false
theorem neqB_self (f : Nat → Int) (w : World) : (binOp .neq 28 (.agg (mk 16 f)) (.agg (mk 16 f))).run Try.prog w = .ok (.bool false) w := by
  rw [neqB, sameB_iff.2 fun _ _ => rfl]; rfl
theorem isRow_kept {k : IntKind} {w w' : World} {a : Option Addr} {len cap : Nat} {z : List Int} (h : IsRow k w a len cap z) (hb : Below w.heap.size w w') : IsRow k w' a len cap z := by
  rcases h with h | ⟨x, h0, h1, h2, h3, h4, h5⟩
  · exact .inl h
  · refine .inr ⟨x, h0, h1, h2, h3, fun i hi => ?_, h5⟩
    have := h4 i hi
    exact (hb.cell (World.block_lt_of_cell? w _ this)).trans this
theorem sum_facts {s : Int} (h : lsO s = true) :
    0 ≤ lsR s ∧ lsR s ≤ 16 ∧ (∀ W, Calls Try.prog 41 #[.agg (mk 16 (pkR s))] W fun e w' => e = .returned (.tuple #[.int .i64 s, .bool true]) ∧ Below W.heap.size W w') ∧
    (∃ c : Nat → Int, (∀ W, Calls Try.prog 45 #[.agg (mk 16 (pkR s))] W fun e w' => e = .returned (.tuple #[.agg (mk 18 c), .bool true]) ∧ Below W.heap.size W w') ∧ c 0 = 16 - lsR s ∧ ∀ t, 1 ≤ t → t < 17 → c t ≤ 1) ∧
    (∀ W, Calls Try.prog 23 #[.int .i64 s, .int .i64 (lsR s)] W fun e w' => e = .returned (.tuple #[.bool true, .bool true]) ∧ Below W.heap.size W w') ∧
    (∃ C : Nat → Int, ∀ W, Calls Try.prog 46 #[.agg (mk 16 (pkR s))] W fun e w' => e = .returned (.tuple #[.int .i64 (hfR s), .agg (mk 2 C), .bool (decide (0 < s))]) ∧ Below W.heap.size W w') ∧
    (0 < lsR s → ∀ W, Calls Try.prog 23 #[.int .i64 s, .int .i64 (lsR s - 1)] W fun e w' => e = .returned (.tuple #[.bool false, .bool true]) ∧ Below W.heap.size W w') := by
  have hS : SumOk s := of_decide_eq_true h
  obtain ⟨h0, h1, h2, h3⟩ := hS
  obtain ⟨S, rfl⟩ := Int.eq_ofNat_of_zero_le h0
  rw [Int.toNat_natCast] at h3
  have hS : SumOk (S : Int) := ⟨h0, h1, h2, h3⟩
  obtain ⟨y1, y2, y3, y4⟩ := ls_yes hS
  rw [Int.toNat_natCast] at y2 y3 y4
  have he : S % 2 = 0 := by omega
  have hV := pk_vd S
  have hh := lsN_half S
  have hm := manF_cnt hV 16 (by omega)
  rw [pk_man S h3] at hm
  refine ⟨by omega, by omega, fun W => ?_, ⟨cntF (pkF S) 16, fun W => ?_, by omega, fun t t1 t2 => pk_cnt S h3 t1 t2⟩, fun W => ?_, ⟨hiC (pkF S), fun W => ?_⟩, fun hp W => ?_⟩
  · have := implSum_any (pkF S) W
    rw [sumR_yes hV, vdO_yes hV, pk_sum S he h3] at this
    rw [y3]; exact this
  · have := implCount_any (pkF S) W
    rw [cntR_yes hV, vdO_yes hV] at this
    rw [y3]; exact this
  · have := implPossible_any (S : Int) (lsR (S : Int)) W
    have hp : PoOk (S : Int) (lsR (S : Int)) := ⟨h0, h1, by omega, by omega⟩
    rw [(po_yes hp).1, (po_yes hp).2, decide_eq_true (show PoB (S : Int) (lsR (S : Int)) from ⟨h2, by rw [Int.toNat_natCast, y2]; exact Int.le_refl _, by omega⟩)] at this
    exact this
  · have := implHigh_any (pkF S) W
    rw [(hi_yes hV).1, (hi_yes hV).2.2, pk_high] at this
    have hd : decide (0 < topN S) = decide ((0 : Int) < (S : Int)) := decide_eq_decide.2 ((topN_pos he).trans (by omega))
    rw [hd] at this
    rw [y3, y4]; exact this
  · have := implPossible_any (S : Int) (lsR (S : Int) - 1) W
    have hp : PoOk (S : Int) (lsR (S : Int) - 1) := ⟨h0, h1, by omega, by omega⟩
    rw [(po_yes hp).1, (po_yes hp).2, decide_eq_false (show ¬ PoB (S : Int) (lsR (S : Int) - 1) from fun h => by have := h.2.1; rw [Int.toNat_natCast] at this; omega)] at this
    exact this
theorem poss_facts {n m : Int} (h1 : poO n m = true) (h2 : poR n m = true) :
    ∃ q : Int, (∀ W, Calls Try.prog 18 #[.int .i64 n] W fun e w' => e = .returned (.tuple #[.int .i64 q, .bool true]) ∧ Below W.heap.size W w') ∧ ¬ m < q ∧ n.tmod 2 = 0 := by
  have hp : PoOk n m := of_decide_eq_true h1
  have hb : PoB n m := (of_decide_eq_true h2 : PoOk n m ∧ PoB n m).2
  obtain ⟨p0, p1, p2, p3⟩ := hp
  obtain ⟨b0, b1, b2⟩ := hb
  have hS : SumOk n := ⟨p0, p1, b0, by omega⟩
  refine ⟨lsR n, fun W => ?_, ?_, by rw [Int.tmod_eq_emod_of_nonneg p0]; exact b0⟩
  · have := implLeast_any n W
    rw [(ls_yes hS).1] at this
    exact this
  · rw [(ls_yes hS).2.1]; omega
theorem left_facts {b : Nat → Int} (h : vdO b = true) :
    ∃ (T q : Int) (k : Nat), (∀ W, Calls Try.prog 41 #[.agg (mk 16 b)] W fun e w' => e = .returned (.tuple #[.int .i64 T, .bool true]) ∧ Below W.heap.size W w') ∧
    (∀ W, Calls Try.prog 47 #[.agg (mk 16 b)] W fun e w' => ∃ g cap, e = .returned (.tuple #[.slice (some ⟨g, 0, none⟩) k cap, .bool true]) ∧ Below W.heap.size W w') ∧
    (∀ W, Calls Try.prog 18 #[.int .i64 T] W fun e w' => e = .returned (.tuple #[.int .i64 q, .bool true]) ∧ Below W.heap.size W w') ∧
    mlR b = 16 - (k : Int) - q ∧ 0 ≤ q ∧ q ≤ 16 ∧ k ≤ 16 ∧ 0 ≤ mlR b ∧
    ∀ d : Nat, d < 4 → ∃ M : Int, (∀ W, Calls Try.prog 48 #[.agg (mk 16 b), .int .i64 (d : Int)] W fun e w' => e = .returned (.tuple #[.int .i64 M, .bool true]) ∧ Below W.heap.size W w') ∧ ¬ mlR b < M := by
  have hV : Vd b := of_decide_eq_true h
  obtain ⟨hok, hle⟩ := sum_ok hV
  have hm := man_emp b hV 16 (by omega)
  have hml := ml_yes hV
  have hbd := ml_bd hV
  have h16 := hok.2.2.2
  refine ⟨sumF b 16, lsN (sumF b 16).toNat, empN b 16, fun W => ?_, fun W => ?_, fun W => ?_, by omega, by omega, by omega, empN_le b 16, hbd.1, fun d hd => ⟨slideM b d 4, fun W => ?_, ?_⟩⟩
  · have := implSum_any b W
    rw [sumR_yes hV, vdO_yes hV] at this
    exact this
  · have := implCells_any b W
    rw [(cell_yes hV).2, vdO_yes hV] at this
    exact this.mono fun e w' ⟨g, cap, r1, _, r3⟩ => ⟨g, cap, r1, r3⟩
  · have := implLeast_any (sumF b 16) W
    rw [(ls_yes hok).1, (ls_yes hok).2.1] at this
    exact this
  · have := implMergers_any b (d : Int) W
    obtain ⟨y1, _, _, y4⟩ := slide_yes (f := b) (d := (d : Int)) ⟨hV, by omega, by omega⟩
    rw [y1, y4, Int.toNat_natCast] at this
    exact this
  · have := ml_merg hV hd
    omega
set_option maxHeartbeats 16000000 in
set_option maxRecDepth 100000 in
theorem walk (w : World) (_ : w.ShapedOpen Try.prog) (a0 : Option Addr) (len0 cap0 : Nat) (z0 : List Int) (hr : IsRow .u8 w a0 len0 cap0 z0) :
    Calls Try.prog 13 #[.slice a0 len0 cap0] w fun e w' => e = .returned (.bool true) ∧ Below w.heap.size w w' := by
  have z16 := zero16
  have z2 := zero2
  have z18 := zero18
  have HR := Lib.hid hr
  have HB : Hid (Below w.heap.size w w) := Below.refl w.heap.size w
  clear hr
  by_cases hl : len0 ≤ 65536
  · have dl : decide ((65536 : Int) < (len0 : Int)) = false := by simp; omega
    go_enter Try.func13, Try.ntmps13
    go_wp2_with fail
    refine (vBig_any _ _ _ _).mono ?_
    rintro e w' ⟨rfl, rfl⟩
    rw [dl]
    clear dl
    go_wp2_with fail
    refine (drawLeast_any a0 len0 cap0 _ hl HR.out.code).mono ?_
    rintro e w1 ⟨s, rfl, hb⟩
    replace HB : Hid (Below w.heap.size w w1) := hb
    clear hb
    have HSF := Lib.hid (@sum_facts s)
    have iL := Lib.hid (fun W => implLeast_any s W)
    have sL := Lib.hid (fun W => specLeast_any s W)
    have iP := Lib.hid (fun W => implPacked_any s W)
    have sP := Lib.hid (fun W => specPacked_any s W)
    have iH := Lib.hid (fun W => implHighFor_any s W)
    have sH := Lib.hid (fun W => specHighFor_any s W)
    generalize lsR s = L at *
    generalize lsO s = O at *
    generalize pkR s = PK at *
    generalize hfR s = TP at *
    go_wp2_with fail
    refine (iL.out _).mono ?_
    rintro e w2 ⟨rfl, hb⟩
    replace HB : Hid (Below w.heap.size w w2) := HB.out.trans (hb.mono HB.out.size)
    clear hb
    go_wp2_with fail
    refine (sL.out _).mono ?_
    rintro e w3 ⟨rfl, hb⟩
    replace HB : Hid (Below w.heap.size w w3) := HB.out.trans (hb.mono HB.out.size)
    clear hb
    go_wp2_with fail
    refine (iP.out _).mono ?_
    rintro e w4 ⟨rfl, hb⟩
    replace HB : Hid (Below w.heap.size w w4) := HB.out.trans (hb.mono HB.out.size)
    clear hb
    have K8 := Blk.new w4 16 PK 28
    replace HB : Hid (Below w.heap.size w (w4.alloc (.cells (mk 16 PK) 28))) := HB.out.alloc HB.out.size _
    go_wp2_with fail
    generalize w4.alloc (.cells (mk 16 PK) 28) = w4a at *
    refine (sP.out _).mono ?_
    rintro e w5 ⟨rfl, hb⟩
    replace K8 := K8.below hb K8.lt
    replace HB : Hid (Below w.heap.size w w5) := HB.out.trans (hb.mono HB.out.size)
    clear hb
    replace K8 := K8.alloc (.cells (mk 16 PK) 28)
    have K10 := Blk.new w5 16 PK 28
    replace HB : Hid (Below w.heap.size w (w5.alloc (.cells (mk 16 PK) 28))) := HB.out.alloc HB.out.size _
    go_wp2_with fail
    generalize w5.alloc (.cells (mk 16 PK) 28) = w5a at *
    refine (iH.out _).mono ?_
    rintro e w6 ⟨rfl, hb⟩
    replace K8 := K8.below hb K8.lt
    replace K10 := K10.below hb K10.lt
    replace HB : Hid (Below w.heap.size w w6) := HB.out.trans (hb.mono HB.out.size)
    clear hb
    go_wp2_with fail
    refine (sH.out _).mono ?_
    rintro e w7 ⟨rfl, hb⟩
    replace K8 := K8.below hb K8.lt
    replace K10 := K10.below hb K10.lt
    replace HB : Hid (Below w.heap.size w w7) := HB.out.trans (hb.mono HB.out.size)
    clear hb
    clear iL sL iP sP iH sH
    generalize w4.heap.size = b8 at *
    generalize w5.heap.size = b10 at *
    go_wp2_with fail
    refine (vCut1_any a0 len0 cap0 z0 _ hl (isRow_kept HR.out HB.out)).mono ?_
    rintro e w8 ⟨g1, m1, c1, rfl, hm1, hcr, hb⟩
    replace K8 := K8.below hb K8.lt
    replace K10 := K10.below hb K10.lt
    replace HB : Hid (Below w.heap.size w w8) := HB.out.trans (hb.mono HB.out.size)
    clear hb
    have HCR := Lib.hid hcr
    clear hcr
    go_wp2_with fail
    refine (drawPoss_any (some ⟨g1, 0, none⟩) m1 c1 _ hm1 HCR.out).mono ?_
    rintro e w9 ⟨n, m, rfl, hb⟩
    replace K8 := K8.below hb K8.lt
    replace K10 := K10.below hb K10.lt
    replace HB : Hid (Below w.heap.size w w9) := HB.out.trans (hb.mono HB.out.size)
    clear hb
    clear HCR
    have HPF := Lib.hid (@poss_facts n m)
    have iQ := Lib.hid (fun W => implPossible_any n m W)
    have sQ := Lib.hid (fun W => specPossible_any n m W)
    generalize poR n m = PR at *
    generalize poO n m = PO at *
    go_wp2_with fail
    refine (iQ.out _).mono ?_
    rintro e w10 ⟨rfl, hb⟩
    replace K8 := K8.below hb K8.lt
    replace K10 := K10.below hb K10.lt
    replace HB : Hid (Below w.heap.size w w10) := HB.out.trans (hb.mono HB.out.size)
    clear hb
    go_wp2_with fail
    refine (sQ.out _).mono ?_
    rintro e w11 ⟨rfl, hb⟩
    replace K8 := K8.below hb K8.lt
    replace K10 := K10.below hb K10.lt
    replace HB : Hid (Below w.heap.size w w11) := HB.out.trans (hb.mono HB.out.size)
    clear hb
    clear iQ sQ
    go_wp2_with fail
    refine (vCut2_any a0 len0 cap0 z0 _ hl (isRow_kept HR.out HB.out)).mono ?_
    rintro e w12 ⟨g2, m2, c2, rfl, hm2, hcr, hb⟩
    replace K8 := K8.below hb K8.lt
    replace K10 := K10.below hb K10.lt
    replace HB : Hid (Below w.heap.size w w12) := HB.out.trans (hb.mono HB.out.size)
    clear hb
    have HCR := Lib.hid hcr
    clear hcr
    go_wp2_with fail
    refine (drawMerg_any (some ⟨g2, 0, none⟩) m2 c2 _ hm2 HCR.out).mono ?_
    rintro e w13 ⟨b, rfl, hb⟩
    replace K8 := K8.below hb K8.lt
    replace K10 := K10.below hb K10.lt
    replace HB : Hid (Below w.heap.size w w13) := HB.out.trans (hb.mono HB.out.size)
    clear hb
    clear HCR
    have HLF := Lib.hid (@left_facts b)
    have iM := Lib.hid (fun W => implLeft_any b W)
    have sM := Lib.hid (fun W => specLeft_any b W)
    have iT := Lib.hid (fun W => implPot_any b W)
    have sT := Lib.hid (fun W => specPot_any b W)
    have HT0 : Hid (0 ≤ potR b) := (potR_bd b).1
    generalize mlR b = ML at *
    generalize vdO b = V at *
    generalize potR b = PT at *
    replace K8 := K8.alloc (.cells (mk 16 b) 28)
    replace K10 := K10.alloc (.cells (mk 16 b) 28)
    have K22 := Blk.new w13 16 b 28
    replace HB : Hid (Below w.heap.size w (w13.alloc (.cells (mk 16 b) 28))) := HB.out.alloc HB.out.size _
    go_wp2_with (first | ((with_reducible show wpList _ _ _ (Oper.mk _ (Op.load 28 _) _ _ _ _ :: _) _ _); refine loadB (K22) rfl rfl rfl ?_) | ((with_reducible show wpList _ _ _ (Oper.mk _ (Op.load 28 _) _ _ _ (some _) :: _) _ _); refine loadgB (K22) rfl rfl rfl ?_))
    generalize w13.heap.size = b22 at *
    generalize w13.alloc (.cells (mk 16 b) 28) = w13a at *
    refine (iM.out _).mono ?_
    rintro e w14 ⟨rfl, hb⟩
    replace K8 := K8.below hb K8.lt
    replace K10 := K10.below hb K10.lt
    replace K22 := K22.below hb K22.lt
    replace HB : Hid (Below w.heap.size w w14) := HB.out.trans (hb.mono HB.out.size)
    clear hb
    go_wp2_with (first | ((with_reducible show wpList _ _ _ (Oper.mk _ (Op.load 28 _) _ _ _ _ :: _) _ _); refine loadB (K22) rfl rfl rfl ?_) | ((with_reducible show wpList _ _ _ (Oper.mk _ (Op.load 28 _) _ _ _ (some _) :: _) _ _); refine loadgB (K22) rfl rfl rfl ?_))
    refine (sM.out _).mono ?_
    rintro e w15 ⟨rfl, hb⟩
    replace K8 := K8.below hb K8.lt
    replace K10 := K10.below hb K10.lt
    replace K22 := K22.below hb K22.lt
    replace HB : Hid (Below w.heap.size w w15) := HB.out.trans (hb.mono HB.out.size)
    clear hb
    go_wp2_with (first | ((with_reducible show wpList _ _ _ (Oper.mk _ (Op.load 28 _) _ _ _ _ :: _) _ _); refine loadB (K22) rfl rfl rfl ?_) | ((with_reducible show wpList _ _ _ (Oper.mk _ (Op.load 28 _) _ _ _ (some _) :: _) _ _); refine loadgB (K22) rfl rfl rfl ?_))
    refine (iT.out _).mono ?_
    rintro e w16 ⟨rfl, hb⟩
    replace K8 := K8.below hb K8.lt
    replace K10 := K10.below hb K10.lt
    replace K22 := K22.below hb K22.lt
    replace HB : Hid (Below w.heap.size w w16) := HB.out.trans (hb.mono HB.out.size)
    clear hb
    go_wp2_with (first | ((with_reducible show wpList _ _ _ (Oper.mk _ (Op.load 28 _) _ _ _ _ :: _) _ _); refine loadB (K22) rfl rfl rfl ?_) | ((with_reducible show wpList _ _ _ (Oper.mk _ (Op.load 28 _) _ _ _ (some _) :: _) _ _); refine loadgB (K22) rfl rfl rfl ?_))
    refine (sT.out _).mono ?_
    rintro e w17 ⟨rfl, hb⟩
    replace K8 := K8.below hb K8.lt
    replace K10 := K10.below hb K10.lt
    replace K22 := K22.below hb K22.lt
    replace HB : Hid (Below w.heap.size w w17) := HB.out.trans (hb.mono HB.out.size)
    clear hb
    clear iM sM iT sT
    have iN := neqB_self
    have q1 : ∀ x : Bool, (x != x) = false := by decide
    have q2 : ∀ x : Bool, (x == x) = true := by decide
    have q3 : ∀ x : Int, (x != x) = false := fun x => by simp
    have q4 : ∀ x : Int, (x == x) = true := fun x => by simp
    have q5 : ∀ x : Int, decide (x = x) = true := fun x => by simp
    have q6 : ∀ x : Bool, decide (x = x) = true := fun x => by simp
    go_upto_if 202 with (first | ((show wpList _ _ _ (Oper.mk _ (Op.load 28 _) _ _ _ (some _) :: _) _ _); refine loadgB (K8) (by first | rfl | go_simp) rfl rfl ?_) | ((show wpList _ _ _ (Oper.mk _ (Op.load 28 _) _ _ _ (some _) :: _) _ _); refine loadgB (K10) (by first | rfl | go_simp) rfl rfl ?_))
    clear iN q1 q2 q3 q4 q5 q6
    go_cut [] from 203 to 283 (fun wc => Blk wc b22 16 b 28 ∧ Below w.heap.size w wc)
    case first => as_aux_lemma =>
      cases hO : O with
      | false =>
        subst hO
        go_wp2_with fail
        go_meet
        case rel => exact ⟨K22, HB.out⟩
      | true =>
        obtain ⟨hL0, hL16, h1, ⟨c, h2, hc0, hcc⟩, h3, ⟨C, h4⟩, hq2⟩ := HSF.out hO
        subst hO
        have iS := Lib.hid h1
        have iC := Lib.hid h2
        have iQ := Lib.hid h3
        have iH := Lib.hid h4
        clear h1 h2 h3 h4
        go_wp2_with ((with_reducible show wpList _ _ _ (Oper.mk _ (Op.load 28 _) _ _ _ _ :: _) _ _); refine loadB (K8) rfl rfl rfl ?_)
        refine (iS.out _).mono ?_
        rintro e v1 ⟨rfl, hb⟩
        replace K8 := K8.below hb K8.lt
        replace K22 := K22.below hb K22.lt
        replace HB : Hid (Below w.heap.size w v1) := HB.out.trans (hb.mono HB.out.size)
        clear hb
        go_wp2_with ((with_reducible show wpList _ _ _ (Oper.mk _ (Op.load 28 _) _ _ _ _ :: _) _ _); refine loadB (K8) rfl rfl rfl ?_)
        refine (iC.out _).mono ?_
        rintro e v2 ⟨rfl, hb⟩
        replace K8 := K8.below hb K8.lt
        replace K22 := K22.below hb K22.lt
        replace HB : Hid (Below w.heap.size w v2) := HB.out.trans (hb.mono HB.out.size)
        clear hb
        replace K8 := K8.alloc (.cells (mk 18 c) 58)
        replace K22 := K22.alloc (.cells (mk 18 c) 58)
        have K33 := Blk.new v2 18 c 58
        replace HB : Hid (Below w.heap.size w (v2.alloc (.cells (mk 18 c) 58))) := HB.out.alloc HB.out.size _
        go_wp2_with fail
        generalize v2.heap.size = b33 at *
        generalize v2.alloc (.cells (mk 18 c) 58) = v2a at *
        refine (iQ.out _).mono ?_
        rintro e v3 ⟨rfl, hb⟩
        replace K8 := K8.below hb K8.lt
        replace K22 := K22.below hb K22.lt
        replace K33 := K33.below hb K33.lt
        replace HB : Hid (Below w.heap.size w v3) := HB.out.trans (hb.mono HB.out.size)
        clear hb
        go_wp2_with ((with_reducible show wpList _ _ _ (Oper.mk _ (Op.load 28 _) _ _ _ _ :: _) _ _); refine loadB (K8) rfl rfl rfl ?_)
        refine (iH.out _).mono ?_
        rintro e v4 ⟨rfl, hb⟩
        replace K8 := K8.below hb K8.lt
        replace K22 := K22.below hb K22.lt
        replace K33 := K33.below hb K33.lt
        replace HB : Hid (Below w.heap.size w v4) := HB.out.trans (hb.mono HB.out.size)
        clear hb
        replace K8 := K8.alloc (.cells (mk 2 C) 61)
        replace K22 := K22.alloc (.cells (mk 2 C) 61)
        replace K33 := K33.alloc (.cells (mk 2 C) 61)
        have K38 := Blk.new v4 2 C 61
        replace HB : Hid (Below w.heap.size w (v4.alloc (.cells (mk 2 C) 61))) := HB.out.alloc HB.out.size _
        have c0 := K33.cell (i := 0) (by omega)
        rw [hc0] at c0
        have e1 : IntKind.i64.wrap (16 - (16 - L)) = L := by rw [show (16 : Int) - (16 - L) = L by omega]; exact IntWalk.i64_in _ (by omega)
        by_cases hL : 0 < L
        · have iQ2 := Lib.hid (hq2 hL)
          have e2 : IntKind.i64.wrap (L - 1) = L - 1 := IntWalk.i64_in _ (by omega)
          go_wp2_with fail
          refine (iQ2.out _).mono ?_
          rintro e v5 ⟨rfl, hb⟩
          replace K33 := K33.below hb K33.lt
          replace K22 := K22.below hb K22.lt
          replace HB : Hid (Below w.heap.size w v5) := HB.out.trans (hb.mono HB.out.size)
          clear hb
          go_wp2_with fail
          go_loopg [42] 16 (fun g s42 wr => ∃ T : Nat, T + g = 16 ∧ s42 = .int .i64 ((T + 1 : Nat) : Int) ∧ Blk wr b33 18 c 58 ∧ Blk wr b22 16 b 28 ∧ Hid (Below w.heap.size w wr))
          case atStart => exact ⟨0, by omega, rfl, K33, K22, HB⟩
          case round =>
            clear K33 K22 HB
            obtain ⟨T, hTg, rfl, K33, K22, HB⟩ := hrel
            cases gk with
            | zero =>
              have hT : ¬ (((T + 1 : Nat) : Int) < 17) := by omega
              go_wp2_with fail
              go_meet
              case rel => exact ⟨K22, HB.out⟩
            | succ g =>
              obtain ⟨U, hU⟩ : ∃ U, U = T + 1 := ⟨_, rfl⟩
              have c4 := K33.cell (i := U) (by omega)
              rw [← hU]
              have hU1 : (U : Int) < 17 := by omega
              have hU2 : (U : Int) < 18 := by omega
              have hU0 : (0 : Int) ≤ (U : Int) := by omega
              have hc1 : ¬ (1 : Int) < c U := by have := hcc U (by omega) (by omega); omega
              have HU := Lib.hid hU
              clear hU
              go_wp2_with fail
              go_roundg g
              case rel => exact ⟨U, by have := HU.out; omega, by go_num, K33, K22, HB⟩
              case measure => omega
        · go_wp2_with fail
          go_loopg [42] 16 (fun g s42 wr => ∃ T : Nat, T + g = 16 ∧ s42 = .int .i64 ((T + 1 : Nat) : Int) ∧ Blk wr b33 18 c 58 ∧ Blk wr b22 16 b 28 ∧ Hid (Below w.heap.size w wr))
          case atStart => exact ⟨0, by omega, rfl, K33, K22, HB⟩
          case round =>
            clear K33 K22 HB
            obtain ⟨T, hTg, rfl, K33, K22, HB⟩ := hrel
            cases gk with
            | zero =>
              have hT : ¬ (((T + 1 : Nat) : Int) < 17) := by omega
              go_wp2_with fail
              go_meet
              case rel => exact ⟨K22, HB.out⟩
            | succ g =>
              obtain ⟨U, hU⟩ : ∃ U, U = T + 1 := ⟨_, rfl⟩
              have c4 := K33.cell (i := U) (by omega)
              rw [← hU]
              have hU1 : (U : Int) < 17 := by omega
              have hU2 : (U : Int) < 18 := by omega
              have hU0 : (0 : Int) ≤ (U : Int) := by omega
              have hc1 : ¬ (1 : Int) < c U := by have := hcc U (by omega) (by omega); omega
              have HU := Lib.hid hU
              clear hU
              go_wp2_with fail
              go_roundg g
              case rel => exact ⟨U, by have := HU.out; omega, by go_num, K33, K22, HB⟩
              case measure => omega
    case rest =>
      clear K8 K10 K22 HB HSF
      obtain ⟨K22, hb0⟩ := hcut
      have HB := Lib.hid hb0
      clear hb0
      obtain ⟨Z, hZ⟩ : ∃ Z, Z = (PO && PR) := ⟨_, rfl⟩
      go_upto_region 36 with fail
      go_cut [287] from 284 to 287 (fun s287 wc => s287 = .bool Z ∧ Blk wc b22 16 b 28 ∧ Below w.heap.size w wc)
      case first => as_aux_lemma =>
        cases PO with
        | false =>
          obtain rfl : Z = false := by rw [hZ]; rfl
          clear hZ
          go_wp2_with fail
          go_meet
          case rel => exact ⟨rfl, K22, HB.out⟩
        | true =>
          cases PR with
          | false =>
            obtain rfl : Z = false := by rw [hZ]; rfl
            clear hZ
            go_wp2_with fail
            go_meet
            case rel => exact ⟨rfl, K22, HB.out⟩
          | true =>
            obtain rfl : Z = true := by rw [hZ]; rfl
            clear hZ
            go_wp2_with fail
            go_meet
            case rel => exact ⟨rfl, K22, HB.out⟩
      case rest =>
        clear K22 HB
        obtain ⟨rfl, K22, hb0⟩ := hcut
        have HB := Lib.hid hb0
        clear hb0
        go_upto_if 287 with fail
        go_cut [] from 288 to 304 (fun wc => Blk wc b22 16 b 28 ∧ Below w.heap.size w wc)
        case first => as_aux_lemma =>
          cases hO : Z with
          | false =>
            subst hO
            go_wp2_with fail
            go_meet
            case rel => exact ⟨K22, HB.out⟩
          | true =>
            obtain ⟨hP1, hP2⟩ : PO = true ∧ PR = true := by rw [hO] at hZ; simpa using hZ.symm
            obtain ⟨q, h1, hq, hm⟩ := HPF.out hP1 hP2
            clear hP1 hP2
            subst hO
            clear hZ
            have iL := Lib.hid h1
            clear h1
            go_wp2_with fail
            refine (iL.out _).mono ?_
            rintro e v1 ⟨rfl, hb⟩
            replace K22 := K22.below hb K22.lt
            replace HB : Hid (Below w.heap.size w v1) := HB.out.trans (hb.mono HB.out.size)
            clear hb
            go_wp2_with fail
            go_meet
            case rel => exact ⟨K22, HB.out⟩
        case rest =>
          clear K22 HB HPF hZ
          obtain ⟨K22, hb0⟩ := hcut
          have HB := Lib.hid hb0
          clear hb0
          cases hV : V with
          | false =>
            subst hV
            go_wp2_with fail
            go_ret
            exact ⟨rfl, HB.out⟩
          | true =>
            obtain ⟨T, q, k, h1, h2, h3, hml, hq0, hq16, hk16, hm0, h4⟩ := HLF.out hV
            subst hV
            have iS := Lib.hid h1
            have iE := Lib.hid h2
            have iL := Lib.hid h3
            have hmg := Lib.hid h4
            clear h1 h2 h3 h4
            go_wp2_with ((with_reducible show wpList _ _ _ (Oper.mk _ (Op.load 28 _) _ _ _ _ :: _) _ _); refine loadB (K22) rfl rfl rfl ?_)
            refine (iS.out _).mono ?_
            rintro e v1 ⟨rfl, hb⟩
            replace K22 := K22.below hb K22.lt
            replace HB : Hid (Below w.heap.size w v1) := HB.out.trans (hb.mono HB.out.size)
            clear hb
            go_wp2_with ((with_reducible show wpList _ _ _ (Oper.mk _ (Op.load 28 _) _ _ _ _ :: _) _ _); refine loadB (K22) rfl rfl rfl ?_)
            refine (iE.out _).mono ?_
            rintro e v2 ⟨g, cap, rfl, hb⟩
            replace K22 := K22.below hb K22.lt
            replace HB : Hid (Below w.heap.size w v2) := HB.out.trans (hb.mono HB.out.size)
            clear hb
            go_wp2_with fail
            refine (iL.out _).mono ?_
            rintro e v3 ⟨rfl, hb⟩
            replace K22 := K22.below hb K22.lt
            replace HB : Hid (Below w.heap.size w v3) := HB.out.trans (hb.mono HB.out.size)
            clear hb
            go_wp2_with fail
            go_loopg [51] 4 (fun gi s51 wr => ∃ d : Nat, d + gi = 4 ∧ s51 = .int .i64 d ∧ Blk wr b22 16 b 28 ∧ Hid (Below w.heap.size w wr))
            case atStart => exact ⟨0, by omega, rfl, K22, HB⟩
            case round =>
              clear K22 HB
              obtain ⟨d, hdg, rfl, K22, HB⟩ := hrel
              cases gk with
              | zero =>
                have hd : ¬ ((d : Int) < 4) := by omega
                have e1 : IntKind.i64.wrap (16 - (k : Int)) = 16 - (k : Int) := IntWalk.i64_in _ (by omega)
                have e2 : IntKind.i64.wrap (16 - (k : Int) - q) = 16 - (k : Int) - q := IntWalk.i64_in _ (by omega)
                have hT0 := HT0.out
                rw [hml] at *
                go_wp2_with fail
                go_ret
                exact ⟨rfl, HB.out⟩
              | succ gi =>
                have hd4 : (d : Int) < 4 := by omega
                obtain ⟨M, h1, hM⟩ := hmg.out d (by omega)
                have iG := Lib.hid h1
                clear h1
                go_wp2_with ((with_reducible show wpList _ _ _ (Oper.mk _ (Op.load 28 _) _ _ _ _ :: _) _ _); refine loadB (K22) rfl rfl rfl ?_)
                refine (iG.out _).mono ?_
                rintro e v4 ⟨rfl, hb⟩
                replace K22 := K22.below hb K22.lt
                replace HB : Hid (Below w.heap.size w v4) := HB.out.trans (hb.mono HB.out.size)
                clear hb
                go_wp2_with fail
                go_roundg gi
                case rel => exact ⟨d + 1, by omega, by go_num, K22, HB⟩
                case measure => omega
  · have dl : decide ((65536 : Int) < (len0 : Int)) = true := by simp; omega
    go_enter Try.func13, Try.ntmps13
    go_wp2_with fail
    refine (vBig_any _ _ _ _).mono ?_
    rintro e w' ⟨rfl, rfl⟩
    rw [dl]
    go_wp2_with fail
    go_ret
    exact ⟨rfl, Below.refl _ _⟩

noncomputable def laidWorld (os : Os) : World := World.holding Try.prog os ⟨#[], #[], []⟩
theorem laid_met (os : Os) : laidMet Try.prog Rows.fnSumsRow.laid ((laidWorld os).forCall (fun _ _ => 0) ⟨#[], #[.slice none 0 0], []⟩).memory := laidMet_of_run' 8 (by kernel_rfl) (by kernel_rfl)
theorem reads (os : Os) {H : Type} (enc : TypeId × Value → H) : ∃ places, DataW.whole enc Try.prog ((laidWorld os).forCall (fun _ _ => 0) ⟨#[], #[.slice none 0 0], []⟩).memory Try.f13.params.toList Rows.fnSumsSpec.vars false #[.slice none 0 0].toList 8 = some ([.nil], [], places) :=
  ⟨[], by kernel_rfl⟩
set_option linter.unusedVariables false in
set_option maxRecDepth 100000 in
theorem lifted (os : Os) (started : os.Started) (H : Type) (enc : TypeId × Value → H) (F : Stop.Interp) :
    ReturnsInHanded {} Try.checked os 13 .any ((OpenSpec.ofChange Rows.fnSumsSpec).preRow enc Try.prog Try.f13 Rows.fnSumsRow.domain false Rows.fnSumsRow.laid) (((OpenSpec.ofChange Rows.fnSumsSpec).at F).post enc Try.prog Try.f13 false true false false) := by
  obtain ⟨places, hx⟩ := reads os enc
  refine returnsInHanded_of_row (C := Try.checked) (s := (OpenSpec.ofChange Rows.fnSumsSpec)) own started (by kernel_rfl) Try.func13
    (witness_row_at (enc := enc) (C := Try.checked) false (laidWorld os) #[.slice none 0 0] rfl (by kernel_rfl) (by kernel_rfl) (by kernel_rfl)
      (OpenSpec.preRow_of_cond 8 hx (by kernel_rfl) (fun k hk => by cases hk) (by kernel_rfl) (laid_met os))) ?_
  intro W base args ds gs before hval0 hW _ hcond hsz hL hsh _
  have hval : ∀ (j : Nat) t v, Try.f13.params[j]? = some t → args[j]? = some v → Value.okWide Try.prog W .any base t v := hval0
  have hW' := hW
  obtain ⟨p, q, hA0, hV, rfl, hfz, hnd⟩ := hW
  have hA : DataW.TrodAll enc Try.prog W 0 (fun _ => true) true Try.f13.params.toList args.toList ds p := hA0
  rw [Try.params13] at hA hval
  obtain ⟨v0, vs0, d0, ds0, p0, q0, hargs, rfl, rfl, h0, r0⟩ := trodAll_cons hA
  obtain ⟨rfl, rfl, rfl⟩ := trodAll_nil r0
  obtain rfl : args = #[v0] := by cases args; simp_all
  obtain ⟨rfl, rfl⟩ := trodVars_none hV
  obtain ⟨a0, len0, cap0, rfl⟩ := okWide_slice Try.underlying45 (hval 0 45 v0 rfl rfl)
  have k0 := h0
  have lt0 : ∀ x ∈ p0, x.block < W.heap.size := by obtain ⟨m, hm⟩ := k0; exact DataW.trod_lt m _ _ _ hm
  obtain ⟨z0, w0⟩ : ∃ zs, IsRow .u8 W a0 len0 cap0 zs := by
    obtain ⟨fuel, hf⟩ := h0
    rcases open_ints Try.underlying45 Try.underlying5 (by kernel_rfl) hf with ⟨hcs, _⟩ | ⟨x, l, c, zs, hcs, _, hl, hm, hz, _, hcell, hwz⟩
    · simp [Value.cells] at hcs; obtain ⟨rfl, rfl, rfl⟩ := hcs; exact ⟨[], .inl ⟨rfl, rfl, rfl, rfl⟩⟩
    · simp [Value.cells] at hcs; obtain ⟨rfl, rfl, rfl⟩ := hcs; exact ⟨zs, .inr ⟨_, rfl, hl, hm, by simpa using hz, hcell, hwz⟩⟩
  clear hA0 hval0
  have hwalk : Calls Try.prog 13 #[.slice a0 len0 cap0] W fun e w' => e = .returned (.bool true) ∧ Below W.heap.size W w' := walk W hsh a0 len0 cap0 z0 w0
  refine hwalk.mono fun e W' ⟨he, bel⟩ => ?_
  subst he
  exact ⟨_, rfl, _, _, _, [], _, [], hW', trodAll_mk1 (shut_bool Try.underlying4 _), (trodAll_cons_mk (Below.trod laidOut (by kernel_rfl) (of_decide_eq_true (by kernel_rfl)) k0 bel lt0) trodAll_mk0), rfl, bel.frame _, fun h => by cases h⟩
theorem closed : joinedFacts Try.pinned.checked.prog 13 Try.f13 ((OpenSpec.ofChange Rows.fnSumsSpec)).bare Rows.fnSumsRow = true := by
  unfold joinedFacts
  repeat' with_reducible refine and_mk ?_ ?_
  case refine_1.refine_1.refine_1.refine_1.refine_1.refine_1.refine_2 => exact enters
  case refine_1.refine_1.refine_1.refine_1.refine_1.refine_2 => exact (show (Rows.fnSumsRow.lifted == Try.prog.liftsFinal) = true by rw [final_no]; rfl)
  case refine_1.refine_1.refine_1.refine_1.refine_2 => exact (show (Try.prog.make == some Rows.fnSumsRow.make) = true by rw [make_cut]; rfl)
  case refine_1.refine_1.refine_1.refine_1.refine_1.refine_1.refine_1.refine_1.refine_1.refine_1.refine_1.refine_1.refine_1.refine_1.refine_1.refine_1.refine_1.refine_1.refine_1.refine_1.refine_1.refine_1.refine_1.refine_1.refine_1.refine_1.refine_1.refine_1.refine_1.refine_1.refine_2 => exact laidOut
  case refine_1.refine_1.refine_1.refine_1.refine_1.refine_1.refine_1.refine_1.refine_1.refine_1.refine_1.refine_1.refine_1.refine_1.refine_1.refine_1.refine_1.refine_1.refine_1.refine_1.refine_1.refine_1.refine_1.refine_1.refine_1.refine_1.refine_1.refine_1.refine_1.refine_2 => exact maps_rowed
  case refine_1.refine_1.refine_1.refine_1.refine_1.refine_1.refine_1.refine_2 => exact stops_heard
  all_goals (as_aux_lemma => kernel_rfl)
theorem proved : Rows.FnSumsSaid :=
  OpenClaim.holds_of_cond 13 Try.f13 rfl rfl rfl rfl rfl rfl rfl ⟨rfl, rfl, rfl, rfl, rfl⟩ rfl rfl rfl rfl rfl (by kernel_rfl) Try.func13 closed
    (of_decide_eq_true (by kernel_rfl)) (by unfold Func.isWrapper; first | (rw [if_pos (by decide +kernel)]; kernel_rfl) | (rw [if_neg (by decide +kernel)]; exact ⟨rfl, rfl⟩))
    (fun os started H enc _ F => by rw [OpenClaim.pre_eq_preRow]; exact lifted os started H enc F)
#print axioms proved
end Go.Proofs.Ytmcmpedmgibmkaa.fnSums
