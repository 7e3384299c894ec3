/-
  Proved: for every code, the law FnBoards returns true, and the code reads as it did. No condition.
-/
import Derived.Test.YtpiegllffkjneaaBoardsPlain
import Derived.Test.YtpiegllffkjneaaDrawLess
import Derived.Test.YtpiegllffkjneaaDrawLine
import Derived.Test.YtpiegllffkjneaaDrawText
import Derived.Test.YtpiegllffkjneaaSpecPut
import Derived.Test.YtpiegllffkjneaaImplPut
import Derived.Test.YtpiegllffkjneaaSpecTake
import Derived.Test.YtpiegllffkjneaaImplTake
import Derived.Test.YtpiegllffkjneaaCount
import Derived.Test.YtpiegllffkjneaaHighest
import Derived.Test.YtpiegllffkjneaaLineOf
import Derived.Test.YtpiegllffkjneaaImplLess
import Derived.Test.YtpiegllffkjneaaImplParse
import Derived.Test.YtpiegllffkjneaaParse
import Derived.Test.YtpiegllffkjneaaClosed
import Derived.Deep.CutRange
namespace Go.Proofs.Ytpiegllffkjneaa.fnBoards
open Go.ChangeShapes Go.WideShapes Go.ChangeAt Go.RowKit Plain
attribute [local go_sem] store_new
set_option linter.unusedSimpArgs false
set_option linter.unusedVariables false
theorem crow_of {w : World} {base g cap : Nat} {f : Nat → Int} (h : OwnsCells w base (.slice (some ⟨g, 0, none⟩) (cellN f) cap) (cellN f) (cellL f)) : CRow w (.slice (some ⟨g, 0, none⟩) (cellN f) cap) (cellN f) (fun i => (cellL f).getD i 0) := by
  unfold OwnsCells at h
  rw [ints_mk, cell_len] at h
  exact CRow.of_own h
theorem rCells_b (v u : Value) (n : Nat) (h : Nat → Int) (w : World) (hv : CRow w v n h) (hu : CRow w u n h) (hn : n ≤ 1048576) :
    Calls Try.prog 41 #[v, u] w fun e w' => e = .returned (.bool true) ∧ Below w.heap.size w w' :=
  (rCells_yes v u n h w hv hu hn).mono fun e w' ⟨q1, k, q2⟩ => ⟨q1, by rw [q2]; exact below_drewN (Below.refl _ _) _⟩
set_option maxHeartbeats 16000000 in
set_option maxRecDepth 100000 in
theorem walk (w : World) (_ : w.ShapedOpen Try.prog) (a0 : Option Addr) (len0 cap0 : Nat) (z0 : List Int) (hr : IsRow .u8 w a0 len0 cap0 z0) :
    Calls Try.prog 4 #[.slice a0 len0 cap0] w fun e w' => e = .returned (.bool true) ∧ Below w.heap.size w w' := by
  have z16 := zero16
  have z2 := zero2
  have z4 := zero4
  have z18 := zero18
  have HR := Lib.hid hr
  have HB : Hid (Below w.heap.size w w) := Below.refl w.heap.size w
  clear hr
  by_cases hl : len0 ≤ 65536
  · have dl : decide ((65536 : Int) < (len0 : Int)) = false := by simp; omega
    go_enter Try.func4, Try.ntmps4
    go_wp2_with fail
    refine (rBig_any a0 len0 cap0 _).mono ?_
    rintro e w' ⟨rfl, rfl⟩
    rw [dl]
    clear dl
    go_wp2_with fail
    refine (drawPutTile_any a0 len0 cap0 _ hl (HR.out.code)).mono ?_
    rintro e w1 ⟨f, g, t, rfl, hb⟩
    replace HB : Hid (Below w.heap.size w w1) := HB.out.trans (hb.mono HB.out.size)
    clear hb
    have KU0 := (Blk.new w1 16 (fun _ => 0) 27).alloc (.cells (mk 2 (fun _ => 0)) 49)
    have KV0 := Blk.new (w1.alloc (.cells (mk 16 (fun _ => 0)) 27)) 2 (fun _ => 0) 49
    have hz1 : (w1.alloc (.cells (mk 16 (fun _ => 0)) 27)).heap.size = w1.heap.size + 1 := by simp
    rw [hz1] at KV0
    have hb : Below w1.heap.size w1 ((((w1.alloc (.cells (mk 16 (fun _ => 0)) 27)).alloc (.cells (mk 2 (fun _ => 0)) 49)).setRow w1.heap.size (mk 16 f)).setRow (w1.heap.size + 1) (mk 2 g)) := below_setRow (below_setRow (((Below.refl _ w1).alloc (Nat.le_refl _) _).alloc (by simp) _) (Nat.le_refl _) _) (by omega) _
    have KV1 := KV0.rowOther w1.heap.size (mk 16 f) (by omega)
    have K3 := (KU0.row 16 f).rowOther (w1.heap.size + 1) (mk 2 g) (by omega)
    have K4 := KV1.row 2 g
    clear hz1
    replace HB : Hid (Below w.heap.size w ((((w1.alloc (.cells (mk 16 (fun _ => 0)) 27)).alloc (.cells (mk 2 (fun _ => 0)) 49)).setRow w1.heap.size (mk 16 f)).setRow (w1.heap.size + 1) (mk 2 g))) := HB.out.trans (hb.mono HB.out.size)
    clear hb
    by_cases hV : Vd f
    · as_aux_lemma =>
        have hVO : vdO f = true := vdO_yes hV
        obtain ⟨PB, hPB⟩ : ∃ F, F = putB f g t := ⟨_, rfl⟩
        obtain ⟨PO, hPO⟩ : ∃ F, F = putO f g t := ⟨_, rfl⟩
        obtain ⟨HT, hHT⟩ : ∃ F, F = hiT f := ⟨_, rfl⟩
        obtain ⟨HC, hHC⟩ : ∃ F, F = hiC f := ⟨_, rfl⟩
        obtain ⟨HO, hHO⟩ : ∃ F, F = hiO f := ⟨_, rfl⟩
        obtain ⟨CN, hCN⟩ : ∃ F, F = cntR f := ⟨_, rfl⟩
        obtain ⟨nE, hnE⟩ : ∃ F, F = cellN f := ⟨_, rfl⟩
        obtain ⟨hE, hhE⟩ : ∃ F, F = fun i => (cellL f).getD i 0 := ⟨_, rfl⟩
        obtain ⟨TX, hTX⟩ : ∃ F, F = textR f := ⟨_, rfl⟩
        have iPU : Hid (∀ W, Calls Try.prog 34 #[.agg (mk 16 f), .agg (mk 2 g), .int .i64 t] W fun e w' => e = .returned (.tuple #[.agg (mk 16 PB), .bool PO]) ∧ Below W.heap.size W w') := by show ∀ W, _; rw [hPB, hPO]; exact implPut_any f g t
        have iEC : Hid (∀ W, Calls Try.prog 39 #[.agg (mk 16 f)] W fun e w' => ∃ g c, e = .returned (.tuple #[.slice (some ⟨g, 0, none⟩) nE c, .bool true]) ∧ CRow w' (.slice (some ⟨g, 0, none⟩) nE c) nE hE ∧ Below W.heap.size W w') := by show ∀ W, _; intro W; rw [hnE, hhE, ← hVO]; exact (implCells_any f W).mono fun e w' ⟨g, c, q1, q2, q3⟩ => ⟨g, c, q1, crow_of q2, q3⟩
        have iCT : Hid (∀ W, Calls Try.prog 42 #[.agg (mk 16 f)] W fun e w' => e = .returned (.tuple #[.agg (mk 18 CN), .bool true]) ∧ Below W.heap.size W w') := by show ∀ W, _; rw [hCN, ← hVO]; exact implCount_any f
        have iHI : Hid (∀ W, Calls Try.prog 44 #[.agg (mk 16 f)] W fun e w' => e = .returned (.tuple #[.int .i64 HT, .agg (mk 2 HC), .bool HO]) ∧ Below W.heap.size W w') := by show ∀ W, _; rw [hHT, hHC, hHO]; exact implHigh_any f
        have iTX : Hid (∀ W, Calls Try.prog 52 #[.agg (mk 16 f)] W fun e w' => e = .returned (.tuple #[.string TX, .bool true]) ∧ Below W.heap.size W w') := by show ∀ W, _; rw [hTX, ← hVO]; exact implText_any f
        have sPU : Hid (∀ W, Calls Try.prog 35 #[.agg (mk 16 f), .agg (mk 2 g), .int .i64 t] W fun e w' => e = .returned (.tuple #[.agg (mk 16 PB), .bool PO]) ∧ Below W.heap.size W w') := by show ∀ W, _; rw [hPB, hPO]; exact specPut_any f g t
        have sEC : Hid (∀ W, Calls Try.prog 40 #[.agg (mk 16 f)] W fun e w' => ∃ g c, e = .returned (.tuple #[.slice (some ⟨g, 0, none⟩) nE c, .bool true]) ∧ CRow w' (.slice (some ⟨g, 0, none⟩) nE c) nE hE ∧ Below W.heap.size W w') := by show ∀ W, _; intro W; rw [hnE, hhE, ← hVO]; exact (specCells_any f W).mono fun e w' ⟨g, c, q1, q2, q3⟩ => ⟨g, c, q1, crow_of q2, q3⟩
        have sCT : Hid (∀ W, Calls Try.prog 43 #[.agg (mk 16 f)] W fun e w' => e = .returned (.tuple #[.agg (mk 18 CN), .bool true]) ∧ Below W.heap.size W w') := by show ∀ W, _; rw [hCN, ← hVO]; exact specCount_any f
        have sHI : Hid (∀ W, Calls Try.prog 45 #[.agg (mk 16 f)] W fun e w' => e = .returned (.tuple #[.int .i64 HT, .agg (mk 2 HC), .bool HO]) ∧ Below W.heap.size W w') := by show ∀ W, _; rw [hHT, hHC, hHO]; exact specHigh_any f
        have sTX : Hid (∀ W, Calls Try.prog 53 #[.agg (mk 16 f)] W fun e w' => e = .returned (.tuple #[.string TX, .bool true]) ∧ Below W.heap.size W w') := by show ∀ W, _; rw [hTX, ← hVO]; exact specText_any f
        have hn16 : nE ≤ 16 := by rw [hnE]; exact cellN_le f
        have hC0 : CN 0 = (nE : Int) := by rw [hCN, hnE, cntR_yes hV, (cell_yes hV).2]; exact cnt_emp f 16
        obtain ⟨BK, hBK⟩ : ∃ F, F = parF (tbs (textL f)) := ⟨_, rfl⟩
        have hPT := par_text hV
        have iPB : Hid (∀ W, Calls Try.prog 55 #[.string TX] W fun e w' => e = .returned (.tuple #[.agg (mk 16 BK), .bool true]) ∧ Below W.heap.size W w') := by show ∀ W, _; intro W; rw [hTX, textR_yes hV, hBK]; have h9 := implParse_any (tbs (textL f)) W; obtain ⟨y1, y2⟩ := par_yes hPT.1; rw [y1, y2] at h9; exact h9
        have sBK : sameB BK f = true := by rw [hBK]; exact sameB_iff.2 hPT.2
        have HHI : Hid (HO = true → ∃ r q hn : Nat, r < 4 ∧ q < 4 ∧ hn < 18 ∧ HT = (hn : Int) ∧ HC 0 = (r : Int) ∧ HC 1 = (q : Int) ∧ f (r * 4 + q) = (hn : Int) ∧ ∃ cv : Int, CN hn = cv + 1 ∧ 0 ≤ cv) := fun h => by
          obtain ⟨y1, y2, y3⟩ := hi_yes hV
          rw [hHO, y3] at h
          obtain ⟨hp, hf⟩ := hiF_at f 16 (of_decide_eq_true h)
          have hb := hV _ hp
          rw [hf] at hb
          refine ⟨(hiF f 16).2 / 4, (hiF f 16).2 % 4, (hiF f 16).1.toNat, by omega, by omega, by omega, by rw [hHT, y1]; omega, by rw [hHC, y2]; rfl, by rw [hHC, y2]; rfl, ?_, CN (hiF f 16).1.toNat - 1, by omega, ?_⟩
          · rw [show (hiF f 16).2 / 4 * 4 + (hiF f 16).2 % 4 = (hiF f 16).2 by omega, hf]; omega
          · rw [hCN, cntR_yes hV]
            have := cnt_pos f (hiF f 16).1.toNat (hiF f 16).2 (by rw [hf]; omega) 16 hp
            omega
        have HPB := Lib.hid hPB
        have HPO := Lib.hid hPO
        clear hPB hPO
        clear hHT hHC hHO hCN hnE hhE hTX hV hVO hBK hPT
        have sPB : sameB PB PB = true := sameB_iff.2 fun _ _ => rfl
        have iN := neqB
        have iNC := neqC2_self HC
        have iNN := neqN_self CN
        have iNR := neqR
        have eTX : (TX.toList == TX.toList) = true := toList_same TX
        go_wp2_with (first | ((with_reducible show wpList _ _ _ (Oper.mk _ (Op.load 27 _) _ _ _ _ :: _) _ _); refine loadB (K3) rfl rfl rfl ?_) | ((with_reducible show wpList _ _ _ (Oper.mk _ (Op.load 27 _) _ _ _ (some _) :: _) _ _); refine loadgB (K3) rfl rfl rfl ?_) | ((with_reducible show wpList _ _ _ (Oper.mk _ (Op.load 49 _) _ _ _ _ :: _) _ _); refine loadC (K4) rfl rfl rfl ?_) | ((with_reducible show wpList _ _ _ (Oper.mk _ (Op.load 49 _) _ _ _ (some _) :: _) _ _); refine loadgC (K4) rfl rfl rfl ?_) | ((with_reducible show wpList _ _ _ (Oper.mk _ (Op.store 27 _ _) _ _ _ _ :: _) _ _); refine storeB (KU0) rfl rfl rfl rfl ?_) | ((with_reducible show wpList _ _ _ (Oper.mk _ (Op.store 49 _ _) _ _ _ _ :: _) _ _); refine storeC (KV1) rfl rfl rfl rfl ?_))
        generalize (((w1.alloc (.cells (mk 16 (fun _ => 0)) 27)).alloc (.cells (mk 2 (fun _ => 0)) 49)).setRow w1.heap.size (mk 16 f)).setRow (w1.heap.size + 1) (mk 2 g) = w1a at *
        clear KU0 KV0 KV1
        refine (iPU.out _).mono ?_
        rintro e w2 ⟨rfl, hb⟩
        replace K3 := K3.below hb K3.lt
        replace K4 := K4.below hb K4.lt
        replace HB : Hid (Below w.heap.size w w2) := HB.out.trans (hb.mono HB.out.size)
        clear hb
        replace K3 := K3.alloc (.cells (mk 16 (PB)) 27)
        replace K4 := K4.alloc (.cells (mk 16 (PB)) 27)
        have K6 := Blk.new w2 16 (PB) 27
        replace HB : Hid (Below w.heap.size w (w2.alloc (.cells (mk 16 (PB)) 27))) := HB.out.alloc HB.out.size _
        go_wp2_with (first | ((with_reducible show wpList _ _ _ (Oper.mk _ (Op.load 27 _) _ _ _ _ :: _) _ _); refine loadB (K3) rfl rfl rfl ?_) | ((with_reducible show wpList _ _ _ (Oper.mk _ (Op.load 27 _) _ _ _ (some _) :: _) _ _); refine loadgB (K3) rfl rfl rfl ?_) | ((with_reducible show wpList _ _ _ (Oper.mk _ (Op.load 49 _) _ _ _ _ :: _) _ _); refine loadC (K4) rfl rfl rfl ?_) | ((with_reducible show wpList _ _ _ (Oper.mk _ (Op.load 49 _) _ _ _ (some _) :: _) _ _); refine loadgC (K4) rfl rfl rfl ?_))
        generalize w2.alloc (.cells (mk 16 (PB)) 27) = w2a at *
        refine (sPU.out _).mono ?_
        rintro e w3 ⟨rfl, hb⟩
        replace K3 := K3.below hb K3.lt
        replace K4 := K4.below hb K4.lt
        replace K6 := K6.below hb K6.lt
        replace HB : Hid (Below w.heap.size w w3) := HB.out.trans (hb.mono HB.out.size)
        clear hb
        replace K3 := K3.alloc (.cells (mk 16 (PB)) 27)
        replace K4 := K4.alloc (.cells (mk 16 (PB)) 27)
        replace K6 := K6.alloc (.cells (mk 16 (PB)) 27)
        have K8 := Blk.new w3 16 (PB) 27
        replace HB : Hid (Below w.heap.size w (w3.alloc (.cells (mk 16 (PB)) 27))) := HB.out.alloc HB.out.size _
        go_wp2_with (first | ((with_reducible show wpList _ _ _ (Oper.mk _ (Op.load 27 _) _ _ _ _ :: _) _ _); refine loadB (K6) rfl rfl rfl ?_) | ((with_reducible show wpList _ _ _ (Oper.mk _ (Op.load 27 _) _ _ _ (some _) :: _) _ _); refine loadgB (K6) rfl rfl rfl ?_) | ((with_reducible show wpList _ _ _ (Oper.mk _ (Op.load 27 _) _ _ _ _ :: _) _ _); refine loadB (K8) rfl rfl rfl ?_) | ((with_reducible show wpList _ _ _ (Oper.mk _ (Op.load 27 _) _ _ _ (some _) :: _) _ _); refine loadgB (K8) rfl rfl rfl ?_))
        generalize w3.alloc (.cells (mk 16 (PB)) 27) = w3a at *
        refine (drawTakeTile_any a0 len0 cap0 _ hl (HR.out.code.later HB.out)).mono ?_
        rintro e w4 ⟨c, d, rfl, hb⟩
        replace K3 := K3.below hb K3.lt
        replace K4 := K4.below hb K4.lt
        replace K6 := K6.below hb K6.lt
        replace K8 := K8.below hb K8.lt
        replace HB : Hid (Below w.heap.size w w4) := HB.out.trans (hb.mono HB.out.size)
        clear hb
        have KU0 := (Blk.new w4 16 (fun _ => 0) 27).alloc (.cells (mk 2 (fun _ => 0)) 49)
        have KV0 := Blk.new (w4.alloc (.cells (mk 16 (fun _ => 0)) 27)) 2 (fun _ => 0) 49
        have hz1 : (w4.alloc (.cells (mk 16 (fun _ => 0)) 27)).heap.size = w4.heap.size + 1 := by simp
        rw [hz1] at KV0
        have hb : Below w4.heap.size w4 ((((w4.alloc (.cells (mk 16 (fun _ => 0)) 27)).alloc (.cells (mk 2 (fun _ => 0)) 49)).setRow w4.heap.size (mk 16 c)).setRow (w4.heap.size + 1) (mk 2 d)) := below_setRow (below_setRow (((Below.refl _ w4).alloc (Nat.le_refl _) _).alloc (by simp) _) (Nat.le_refl _) _) (by omega) _
        have KV1 := KV0.rowOther w4.heap.size (mk 16 c) (by omega)
        have K10 := (KU0.row 16 c).rowOther (w4.heap.size + 1) (mk 2 d) (by omega)
        have K11 := KV1.row 2 d
        clear hz1
        replace K3 := K3.below hb K3.lt
        replace K4 := K4.below hb K4.lt
        replace K6 := K6.below hb K6.lt
        replace K8 := K8.below hb K8.lt
        replace HB : Hid (Below w.heap.size w ((((w4.alloc (.cells (mk 16 (fun _ => 0)) 27)).alloc (.cells (mk 2 (fun _ => 0)) 49)).setRow w4.heap.size (mk 16 c)).setRow (w4.heap.size + 1) (mk 2 d))) := HB.out.trans (hb.mono HB.out.size)
        clear hb
        clear K8
        obtain ⟨TB, hTB⟩ : ∃ F, F = takeB c d := ⟨_, rfl⟩
        obtain ⟨TT, hTT⟩ : ∃ F, F = takeT c d := ⟨_, rfl⟩
        obtain ⟨TO, hTO⟩ : ∃ F, F = takeO c d := ⟨_, rfl⟩
        have iTA : Hid (∀ W, Calls Try.prog 37 #[.agg (mk 16 c), .agg (mk 2 d)] W fun e w' => e = .returned (.tuple #[.agg (mk 16 TB), .int .i64 TT, .bool TO]) ∧ Below W.heap.size W w') := by show ∀ W, _; rw [hTB, hTT, hTO]; exact implTake_any c d
        have sTA : Hid (∀ W, Calls Try.prog 38 #[.agg (mk 16 c), .agg (mk 2 d)] W fun e w' => e = .returned (.tuple #[.agg (mk 16 TB), .int .i64 TT, .bool TO]) ∧ Below W.heap.size W w') := by show ∀ W, _; rw [hTB, hTT, hTO]; exact specTake_any c d
        have HTB := Lib.hid hTB
        have HTT := Lib.hid hTT
        have HTO := Lib.hid hTO
        clear hTB hTT hTO
        have sTB : sameB TB TB = true := sameB_iff.2 fun _ _ => rfl
        go_wp2_with (first | ((with_reducible show wpList _ _ _ (Oper.mk _ (Op.load 27 _) _ _ _ _ :: _) _ _); refine loadB (K10) rfl rfl rfl ?_) | ((with_reducible show wpList _ _ _ (Oper.mk _ (Op.load 27 _) _ _ _ (some _) :: _) _ _); refine loadgB (K10) rfl rfl rfl ?_) | ((with_reducible show wpList _ _ _ (Oper.mk _ (Op.load 49 _) _ _ _ _ :: _) _ _); refine loadC (K11) rfl rfl rfl ?_) | ((with_reducible show wpList _ _ _ (Oper.mk _ (Op.load 49 _) _ _ _ (some _) :: _) _ _); refine loadgC (K11) rfl rfl rfl ?_) | ((with_reducible show wpList _ _ _ (Oper.mk _ (Op.store 27 _ _) _ _ _ _ :: _) _ _); refine storeB (KU0) rfl rfl rfl rfl ?_) | ((with_reducible show wpList _ _ _ (Oper.mk _ (Op.store 49 _ _) _ _ _ _ :: _) _ _); refine storeC (KV1) rfl rfl rfl rfl ?_))
        generalize (((w4.alloc (.cells (mk 16 (fun _ => 0)) 27)).alloc (.cells (mk 2 (fun _ => 0)) 49)).setRow w4.heap.size (mk 16 c)).setRow (w4.heap.size + 1) (mk 2 d) = w4a at *
        clear KU0 KV0 KV1
        refine (iTA.out _).mono ?_
        rintro e w5 ⟨rfl, hb⟩
        replace K3 := K3.below hb K3.lt
        replace K4 := K4.below hb K4.lt
        replace K6 := K6.below hb K6.lt
        replace K10 := K10.below hb K10.lt
        replace K11 := K11.below hb K11.lt
        replace HB : Hid (Below w.heap.size w w5) := HB.out.trans (hb.mono HB.out.size)
        clear hb
        replace K3 := K3.alloc (.cells (mk 16 (TB)) 27)
        replace K4 := K4.alloc (.cells (mk 16 (TB)) 27)
        replace K6 := K6.alloc (.cells (mk 16 (TB)) 27)
        replace K10 := K10.alloc (.cells (mk 16 (TB)) 27)
        replace K11 := K11.alloc (.cells (mk 16 (TB)) 27)
        have K12 := Blk.new w5 16 (TB) 27
        replace HB : Hid (Below w.heap.size w (w5.alloc (.cells (mk 16 (TB)) 27))) := HB.out.alloc HB.out.size _
        go_wp2_with (first | ((with_reducible show wpList _ _ _ (Oper.mk _ (Op.load 27 _) _ _ _ _ :: _) _ _); refine loadB (K10) rfl rfl rfl ?_) | ((with_reducible show wpList _ _ _ (Oper.mk _ (Op.load 27 _) _ _ _ (some _) :: _) _ _); refine loadgB (K10) rfl rfl rfl ?_) | ((with_reducible show wpList _ _ _ (Oper.mk _ (Op.load 49 _) _ _ _ _ :: _) _ _); refine loadC (K11) rfl rfl rfl ?_) | ((with_reducible show wpList _ _ _ (Oper.mk _ (Op.load 49 _) _ _ _ (some _) :: _) _ _); refine loadgC (K11) rfl rfl rfl ?_))
        generalize w5.alloc (.cells (mk 16 (TB)) 27) = w5a at *
        refine (sTA.out _).mono ?_
        rintro e w6 ⟨rfl, hb⟩
        replace K3 := K3.below hb K3.lt
        replace K4 := K4.below hb K4.lt
        replace K6 := K6.below hb K6.lt
        replace K10 := K10.below hb K10.lt
        replace K11 := K11.below hb K11.lt
        replace K12 := K12.below hb K12.lt
        replace HB : Hid (Below w.heap.size w w6) := HB.out.trans (hb.mono HB.out.size)
        clear hb
        replace K3 := K3.alloc (.cells (mk 16 (TB)) 27)
        replace K4 := K4.alloc (.cells (mk 16 (TB)) 27)
        replace K6 := K6.alloc (.cells (mk 16 (TB)) 27)
        replace K10 := K10.alloc (.cells (mk 16 (TB)) 27)
        replace K11 := K11.alloc (.cells (mk 16 (TB)) 27)
        replace K12 := K12.alloc (.cells (mk 16 (TB)) 27)
        have K15 := Blk.new w6 16 (TB) 27
        replace HB : Hid (Below w.heap.size w (w6.alloc (.cells (mk 16 (TB)) 27))) := HB.out.alloc HB.out.size _
        go_wp2_with (first | ((with_reducible show wpList _ _ _ (Oper.mk _ (Op.load 27 _) _ _ _ _ :: _) _ _); refine loadB (K12) rfl rfl rfl ?_) | ((with_reducible show wpList _ _ _ (Oper.mk _ (Op.load 27 _) _ _ _ (some _) :: _) _ _); refine loadgB (K12) rfl rfl rfl ?_) | ((with_reducible show wpList _ _ _ (Oper.mk _ (Op.load 27 _) _ _ _ _ :: _) _ _); refine loadB (K15) rfl rfl rfl ?_) | ((with_reducible show wpList _ _ _ (Oper.mk _ (Op.load 27 _) _ _ _ (some _) :: _) _ _); refine loadgB (K15) rfl rfl rfl ?_) | ((with_reducible show wpList _ _ _ (Oper.mk _ (Op.load 27 _) _ _ _ _ :: _) _ _); refine loadB (K3) rfl rfl rfl ?_) | ((with_reducible show wpList _ _ _ (Oper.mk _ (Op.load 27 _) _ _ _ (some _) :: _) _ _); refine loadgB (K3) rfl rfl rfl ?_))
        generalize w6.alloc (.cells (mk 16 (TB)) 27) = w6a at *
        refine (iEC.out _).mono ?_
        rintro e w7 ⟨ge, ce, rfl, RE, hb⟩
        replace K3 := K3.below hb K3.lt
        replace K4 := K4.below hb K4.lt
        replace K6 := K6.below hb K6.lt
        replace K10 := K10.below hb K10.lt
        replace K11 := K11.below hb K11.lt
        replace K12 := K12.below hb K12.lt
        replace K15 := K15.below hb K15.lt
        replace HB : Hid (Below w.heap.size w w7) := HB.out.trans (hb.mono HB.out.size)
        replace RE := Lib.hid RE
        clear hb
        clear K15
        go_wp2_with (first | ((with_reducible show wpList _ _ _ (Oper.mk _ (Op.load 27 _) _ _ _ _ :: _) _ _); refine loadB (K3) rfl rfl rfl ?_) | ((with_reducible show wpList _ _ _ (Oper.mk _ (Op.load 27 _) _ _ _ (some _) :: _) _ _); refine loadgB (K3) rfl rfl rfl ?_))
        refine (sEC.out _).mono ?_
        rintro e w8 ⟨ge2, ce2, rfl, QE, hb⟩
        replace K3 := K3.below hb K3.lt
        replace K4 := K4.below hb K4.lt
        replace K6 := K6.below hb K6.lt
        replace K10 := K10.below hb K10.lt
        replace K11 := K11.below hb K11.lt
        replace K12 := K12.below hb K12.lt
        replace RE := Lib.hid (RE.out.below hb)
        replace HB : Hid (Below w.heap.size w w8) := HB.out.trans (hb.mono HB.out.size)
        replace QE := Lib.hid QE
        clear hb
        go_wp2_with fail
        refine (rCells_b _ _ nE hE _ RE.out QE.out (by omega)).mono ?_
        rintro e w9 ⟨rfl, hb⟩
        replace K3 := K3.below hb K3.lt
        replace K4 := K4.below hb K4.lt
        replace K6 := K6.below hb K6.lt
        replace K10 := K10.below hb K10.lt
        replace K11 := K11.below hb K11.lt
        replace K12 := K12.below hb K12.lt
        replace RE := Lib.hid (RE.out.below hb)
        replace QE := Lib.hid (QE.out.below hb)
        replace HB : Hid (Below w.heap.size w w9) := HB.out.trans (hb.mono HB.out.size)
        clear hb
        clear QE RE
        go_wp2_with (first | ((with_reducible show wpList _ _ _ (Oper.mk _ (Op.load 27 _) _ _ _ _ :: _) _ _); refine loadB (K3) rfl rfl rfl ?_) | ((with_reducible show wpList _ _ _ (Oper.mk _ (Op.load 27 _) _ _ _ (some _) :: _) _ _); refine loadgB (K3) rfl rfl rfl ?_))
        refine (iCT.out _).mono ?_
        rintro e w10 ⟨rfl, hb⟩
        replace K3 := K3.below hb K3.lt
        replace K4 := K4.below hb K4.lt
        replace K6 := K6.below hb K6.lt
        replace K10 := K10.below hb K10.lt
        replace K11 := K11.below hb K11.lt
        replace K12 := K12.below hb K12.lt
        replace HB : Hid (Below w.heap.size w w10) := HB.out.trans (hb.mono HB.out.size)
        clear hb
        replace K3 := K3.alloc (.cells (mk 18 (CN)) 60)
        replace K4 := K4.alloc (.cells (mk 18 (CN)) 60)
        replace K6 := K6.alloc (.cells (mk 18 (CN)) 60)
        replace K10 := K10.alloc (.cells (mk 18 (CN)) 60)
        replace K11 := K11.alloc (.cells (mk 18 (CN)) 60)
        replace K12 := K12.alloc (.cells (mk 18 (CN)) 60)
        have K22 := Blk.new w10 18 (CN) 60
        replace HB : Hid (Below w.heap.size w (w10.alloc (.cells (mk 18 (CN)) 60))) := HB.out.alloc HB.out.size _
        go_wp2_with (first | ((with_reducible show wpList _ _ _ (Oper.mk _ (Op.load 27 _) _ _ _ _ :: _) _ _); refine loadB (K3) rfl rfl rfl ?_) | ((with_reducible show wpList _ _ _ (Oper.mk _ (Op.load 27 _) _ _ _ (some _) :: _) _ _); refine loadgB (K3) rfl rfl rfl ?_))
        generalize w10.alloc (.cells (mk 18 (CN)) 60) = w10a at *
        refine (sCT.out _).mono ?_
        rintro e w11 ⟨rfl, hb⟩
        replace K3 := K3.below hb K3.lt
        replace K4 := K4.below hb K4.lt
        replace K6 := K6.below hb K6.lt
        replace K10 := K10.below hb K10.lt
        replace K11 := K11.below hb K11.lt
        replace K12 := K12.below hb K12.lt
        replace K22 := K22.below hb K22.lt
        replace HB : Hid (Below w.heap.size w w11) := HB.out.trans (hb.mono HB.out.size)
        clear hb
        replace K3 := K3.alloc (.cells (mk 18 (CN)) 60)
        replace K4 := K4.alloc (.cells (mk 18 (CN)) 60)
        replace K6 := K6.alloc (.cells (mk 18 (CN)) 60)
        replace K10 := K10.alloc (.cells (mk 18 (CN)) 60)
        replace K11 := K11.alloc (.cells (mk 18 (CN)) 60)
        replace K12 := K12.alloc (.cells (mk 18 (CN)) 60)
        replace K22 := K22.alloc (.cells (mk 18 (CN)) 60)
        have K24 := Blk.new w11 18 (CN) 60
        replace HB : Hid (Below w.heap.size w (w11.alloc (.cells (mk 18 (CN)) 60))) := HB.out.alloc HB.out.size _
        have c22 := K22.cell (i := 0) (by omega)
        rw [hC0] at c22
        go_wp2_with (first | ((with_reducible show wpList _ _ _ (Oper.mk _ (Op.load 60 _) _ _ _ _ :: _) _ _); refine loadN (K22) rfl rfl rfl ?_) | ((with_reducible show wpList _ _ _ (Oper.mk _ (Op.load 60 _) _ _ _ _ :: _) _ _); refine loadN (K24) rfl rfl rfl ?_) | ((with_reducible show wpList _ _ _ (Oper.mk _ (Op.load 27 _) _ _ _ _ :: _) _ _); refine loadB (K3) rfl rfl rfl ?_) | ((with_reducible show wpList _ _ _ (Oper.mk _ (Op.load 27 _) _ _ _ (some _) :: _) _ _); refine loadgB (K3) rfl rfl rfl ?_))
        clear c22
        generalize w11.alloc (.cells (mk 18 (CN)) 60) = w11a at *
        refine (iHI.out _).mono ?_
        rintro e w12 ⟨rfl, hb⟩
        replace K3 := K3.below hb K3.lt
        replace K4 := K4.below hb K4.lt
        replace K6 := K6.below hb K6.lt
        replace K10 := K10.below hb K10.lt
        replace K11 := K11.below hb K11.lt
        replace K12 := K12.below hb K12.lt
        replace K22 := K22.below hb K22.lt
        replace K24 := K24.below hb K24.lt
        replace HB : Hid (Below w.heap.size w w12) := HB.out.trans (hb.mono HB.out.size)
        clear hb
        replace K3 := K3.alloc (.cells (mk 2 (HC)) 49)
        replace K4 := K4.alloc (.cells (mk 2 (HC)) 49)
        replace K6 := K6.alloc (.cells (mk 2 (HC)) 49)
        replace K10 := K10.alloc (.cells (mk 2 (HC)) 49)
        replace K11 := K11.alloc (.cells (mk 2 (HC)) 49)
        replace K12 := K12.alloc (.cells (mk 2 (HC)) 49)
        replace K22 := K22.alloc (.cells (mk 2 (HC)) 49)
        replace K24 := K24.alloc (.cells (mk 2 (HC)) 49)
        have K27 := Blk.new w12 2 (HC) 49
        replace HB : Hid (Below w.heap.size w (w12.alloc (.cells (mk 2 (HC)) 49))) := HB.out.alloc HB.out.size _
        clear K24
        go_wp2_with (first | ((with_reducible show wpList _ _ _ (Oper.mk _ (Op.load 27 _) _ _ _ _ :: _) _ _); refine loadB (K3) rfl rfl rfl ?_) | ((with_reducible show wpList _ _ _ (Oper.mk _ (Op.load 27 _) _ _ _ (some _) :: _) _ _); refine loadgB (K3) rfl rfl rfl ?_))
        generalize w12.alloc (.cells (mk 2 (HC)) 49) = w12a at *
        refine (sHI.out _).mono ?_
        rintro e w13 ⟨rfl, hb⟩
        replace K3 := K3.below hb K3.lt
        replace K4 := K4.below hb K4.lt
        replace K6 := K6.below hb K6.lt
        replace K10 := K10.below hb K10.lt
        replace K11 := K11.below hb K11.lt
        replace K12 := K12.below hb K12.lt
        replace K22 := K22.below hb K22.lt
        replace K27 := K27.below hb K27.lt
        replace HB : Hid (Below w.heap.size w w13) := HB.out.trans (hb.mono HB.out.size)
        clear hb
        replace K3 := K3.alloc (.cells (mk 2 (HC)) 49)
        replace K4 := K4.alloc (.cells (mk 2 (HC)) 49)
        replace K6 := K6.alloc (.cells (mk 2 (HC)) 49)
        replace K10 := K10.alloc (.cells (mk 2 (HC)) 49)
        replace K11 := K11.alloc (.cells (mk 2 (HC)) 49)
        replace K12 := K12.alloc (.cells (mk 2 (HC)) 49)
        replace K22 := K22.alloc (.cells (mk 2 (HC)) 49)
        replace K27 := K27.alloc (.cells (mk 2 (HC)) 49)
        have K30 := Blk.new w13 2 (HC) 49
        replace HB : Hid (Below w.heap.size w (w13.alloc (.cells (mk 2 (HC)) 49))) := HB.out.alloc HB.out.size _
        go_wp2_with (first | ((with_reducible show wpList _ _ _ (Oper.mk _ (Op.load 49 _) _ _ _ _ :: _) _ _); refine loadC (K27) rfl rfl rfl ?_) | ((with_reducible show wpList _ _ _ (Oper.mk _ (Op.load 49 _) _ _ _ (some _) :: _) _ _); refine loadgC (K27) rfl rfl rfl ?_) | ((with_reducible show wpList _ _ _ (Oper.mk _ (Op.load 49 _) _ _ _ _ :: _) _ _); refine loadC (K30) rfl rfl rfl ?_) | ((with_reducible show wpList _ _ _ (Oper.mk _ (Op.load 49 _) _ _ _ (some _) :: _) _ _); refine loadgC (K30) rfl rfl rfl ?_))
        generalize w13.alloc (.cells (mk 2 (HC)) 49) = w13a at *
        refine (drawLineOf_any a0 len0 cap0 _ hl (HR.out.code.later HB.out)).mono ?_
        rintro e w14 ⟨e0, k0, i0, rfl, hb⟩
        replace K3 := K3.below hb K3.lt
        replace K4 := K4.below hb K4.lt
        replace K6 := K6.below hb K6.lt
        replace K10 := K10.below hb K10.lt
        replace K11 := K11.below hb K11.lt
        replace K12 := K12.below hb K12.lt
        replace K22 := K22.below hb K22.lt
        replace K27 := K27.below hb K27.lt
        replace K30 := K30.below hb K30.lt
        replace HB : Hid (Below w.heap.size w w14) := HB.out.trans (hb.mono HB.out.size)
        clear hb
        replace K3 := K3.alloc (.cells (mk 16 (e0)) 27)
        replace K4 := K4.alloc (.cells (mk 16 (e0)) 27)
        replace K6 := K6.alloc (.cells (mk 16 (e0)) 27)
        replace K10 := K10.alloc (.cells (mk 16 (e0)) 27)
        replace K11 := K11.alloc (.cells (mk 16 (e0)) 27)
        replace K12 := K12.alloc (.cells (mk 16 (e0)) 27)
        replace K22 := K22.alloc (.cells (mk 16 (e0)) 27)
        replace K27 := K27.alloc (.cells (mk 16 (e0)) 27)
        replace K30 := K30.alloc (.cells (mk 16 (e0)) 27)
        have K32 := Blk.new w14 16 (e0) 27
        replace HB : Hid (Below w.heap.size w (w14.alloc (.cells (mk 16 (e0)) 27))) := HB.out.alloc HB.out.size _
        clear K30
        obtain ⟨LI, hLI⟩ : ∃ F, F = lineR e0 k0 i0 := ⟨_, rfl⟩
        obtain ⟨LK, hLK⟩ : ∃ F, F = lineO e0 k0 i0 := ⟨_, rfl⟩
        have iLI : Hid (∀ W, Calls Try.prog 47 #[.agg (mk 16 e0), .int .i64 k0, .int .i64 i0] W fun e w' => e = .returned (.tuple #[.agg (mk 4 LI), .bool LK]) ∧ Below W.heap.size W w') := by show ∀ W, _; rw [hLI, hLK]; exact implLineOf_any e0 k0 i0
        have sLN : Hid (∀ W, Calls Try.prog 48 #[.agg (mk 16 e0), .int .i64 k0, .int .i64 i0] W fun e w' => e = .returned (.tuple #[.agg (mk 4 LI), .bool LK]) ∧ Below W.heap.size W w') := by show ∀ W, _; rw [hLI, hLK]; exact specLineOf_any e0 k0 i0
        clear hLI hLK
        have sLI : sameR LI LI = true := sameR_iff.2 fun _ _ => rfl
        go_wp2_with (first | ((with_reducible show wpList _ _ _ (Oper.mk _ (Op.load 27 _) _ _ _ _ :: _) _ _); refine loadB (K32) rfl rfl rfl ?_) | ((with_reducible show wpList _ _ _ (Oper.mk _ (Op.load 27 _) _ _ _ (some _) :: _) _ _); refine loadgB (K32) rfl rfl rfl ?_))
        generalize w14.alloc (.cells (mk 16 (e0)) 27) = w14a at *
        refine (iLI.out _).mono ?_
        rintro e w15 ⟨rfl, hb⟩
        replace K3 := K3.below hb K3.lt
        replace K4 := K4.below hb K4.lt
        replace K6 := K6.below hb K6.lt
        replace K10 := K10.below hb K10.lt
        replace K11 := K11.below hb K11.lt
        replace K12 := K12.below hb K12.lt
        replace K22 := K22.below hb K22.lt
        replace K27 := K27.below hb K27.lt
        replace K32 := K32.below hb K32.lt
        replace HB : Hid (Below w.heap.size w w15) := HB.out.trans (hb.mono HB.out.size)
        clear hb
        replace K3 := K3.alloc (.cells (mk 4 (LI)) 24)
        replace K4 := K4.alloc (.cells (mk 4 (LI)) 24)
        replace K6 := K6.alloc (.cells (mk 4 (LI)) 24)
        replace K10 := K10.alloc (.cells (mk 4 (LI)) 24)
        replace K11 := K11.alloc (.cells (mk 4 (LI)) 24)
        replace K12 := K12.alloc (.cells (mk 4 (LI)) 24)
        replace K22 := K22.alloc (.cells (mk 4 (LI)) 24)
        replace K27 := K27.alloc (.cells (mk 4 (LI)) 24)
        replace K32 := K32.alloc (.cells (mk 4 (LI)) 24)
        have K35 := Blk.new w15 4 (LI) 24
        replace HB : Hid (Below w.heap.size w (w15.alloc (.cells (mk 4 (LI)) 24))) := HB.out.alloc HB.out.size _
        go_wp2_with (first | ((with_reducible show wpList _ _ _ (Oper.mk _ (Op.load 27 _) _ _ _ _ :: _) _ _); refine loadB (K32) rfl rfl rfl ?_) | ((with_reducible show wpList _ _ _ (Oper.mk _ (Op.load 27 _) _ _ _ (some _) :: _) _ _); refine loadgB (K32) rfl rfl rfl ?_))
        generalize w15.alloc (.cells (mk 4 (LI)) 24) = w15a at *
        refine (sLN.out _).mono ?_
        rintro e w16 ⟨rfl, hb⟩
        replace K3 := K3.below hb K3.lt
        replace K4 := K4.below hb K4.lt
        replace K6 := K6.below hb K6.lt
        replace K10 := K10.below hb K10.lt
        replace K11 := K11.below hb K11.lt
        replace K12 := K12.below hb K12.lt
        replace K22 := K22.below hb K22.lt
        replace K27 := K27.below hb K27.lt
        replace K32 := K32.below hb K32.lt
        replace K35 := K35.below hb K35.lt
        replace HB : Hid (Below w.heap.size w w16) := HB.out.trans (hb.mono HB.out.size)
        clear hb
        replace K3 := K3.alloc (.cells (mk 4 (LI)) 24)
        replace K4 := K4.alloc (.cells (mk 4 (LI)) 24)
        replace K6 := K6.alloc (.cells (mk 4 (LI)) 24)
        replace K10 := K10.alloc (.cells (mk 4 (LI)) 24)
        replace K11 := K11.alloc (.cells (mk 4 (LI)) 24)
        replace K12 := K12.alloc (.cells (mk 4 (LI)) 24)
        replace K22 := K22.alloc (.cells (mk 4 (LI)) 24)
        replace K27 := K27.alloc (.cells (mk 4 (LI)) 24)
        replace K32 := K32.alloc (.cells (mk 4 (LI)) 24)
        replace K35 := K35.alloc (.cells (mk 4 (LI)) 24)
        have K37 := Blk.new w16 4 (LI) 24
        replace HB : Hid (Below w.heap.size w (w16.alloc (.cells (mk 4 (LI)) 24))) := HB.out.alloc HB.out.size _
        clear K32
        go_wp2_with (first | ((with_reducible show wpList _ _ _ (Oper.mk _ (Op.load 24 _) _ _ _ _ :: _) _ _); refine loadR (K35) rfl rfl rfl ?_) | ((with_reducible show wpList _ _ _ (Oper.mk _ (Op.load 24 _) _ _ _ (some _) :: _) _ _); refine loadgR (K35) rfl rfl rfl ?_) | ((with_reducible show wpList _ _ _ (Oper.mk _ (Op.load 24 _) _ _ _ _ :: _) _ _); refine loadR (K37) rfl rfl rfl ?_) | ((with_reducible show wpList _ _ _ (Oper.mk _ (Op.load 24 _) _ _ _ (some _) :: _) _ _); refine loadgR (K37) rfl rfl rfl ?_))
        generalize w16.alloc (.cells (mk 4 (LI)) 24) = w16a at *
        refine (drawLessBoard_any a0 len0 cap0 _ hl (HR.out.code.later HB.out)).mono ?_
        rintro e w17 ⟨p, q, rfl, hb⟩
        replace K3 := K3.below hb K3.lt
        replace K4 := K4.below hb K4.lt
        replace K6 := K6.below hb K6.lt
        replace K10 := K10.below hb K10.lt
        replace K11 := K11.below hb K11.lt
        replace K12 := K12.below hb K12.lt
        replace K22 := K22.below hb K22.lt
        replace K27 := K27.below hb K27.lt
        replace K35 := K35.below hb K35.lt
        replace K37 := K37.below hb K37.lt
        replace HB : Hid (Below w.heap.size w w17) := HB.out.trans (hb.mono HB.out.size)
        clear hb
        have KU0 := (Blk.new w17 16 (fun _ => 0) 27).alloc (.cells (mk 16 (fun _ => 0)) 27)
        have KV0 := Blk.new (w17.alloc (.cells (mk 16 (fun _ => 0)) 27)) 16 (fun _ => 0) 27
        have hz1 : (w17.alloc (.cells (mk 16 (fun _ => 0)) 27)).heap.size = w17.heap.size + 1 := by simp
        rw [hz1] at KV0
        have hb : Below w17.heap.size w17 ((((w17.alloc (.cells (mk 16 (fun _ => 0)) 27)).alloc (.cells (mk 16 (fun _ => 0)) 27)).setRow w17.heap.size (mk 16 p)).setRow (w17.heap.size + 1) (mk 16 q)) := below_setRow (below_setRow (((Below.refl _ w17).alloc (Nat.le_refl _) _).alloc (by simp) _) (Nat.le_refl _) _) (by omega) _
        have KV1 := KV0.rowOther w17.heap.size (mk 16 p) (by omega)
        have K39 := (KU0.row 16 p).rowOther (w17.heap.size + 1) (mk 16 q) (by omega)
        have K40 := KV1.row 16 q
        clear hz1
        replace K3 := K3.below hb K3.lt
        replace K4 := K4.below hb K4.lt
        replace K6 := K6.below hb K6.lt
        replace K10 := K10.below hb K10.lt
        replace K11 := K11.below hb K11.lt
        replace K12 := K12.below hb K12.lt
        replace K22 := K22.below hb K22.lt
        replace K27 := K27.below hb K27.lt
        replace K35 := K35.below hb K35.lt
        replace K37 := K37.below hb K37.lt
        replace HB : Hid (Below w.heap.size w ((((w17.alloc (.cells (mk 16 (fun _ => 0)) 27)).alloc (.cells (mk 16 (fun _ => 0)) 27)).setRow w17.heap.size (mk 16 p)).setRow (w17.heap.size + 1) (mk 16 q))) := HB.out.trans (hb.mono HB.out.size)
        clear hb
        clear K35 K37
        obtain ⟨LB, hLB⟩ : ∃ F, F = lessR p q := ⟨_, rfl⟩
        obtain ⟨LO, hLO⟩ : ∃ F, F = lessO p q := ⟨_, rfl⟩
        have iLE : Hid (∀ W, Calls Try.prog 50 #[.agg (mk 16 p), .agg (mk 16 q)] W fun e w' => e = .returned (.tuple #[.bool LB, .bool LO]) ∧ Below W.heap.size W w') := by show ∀ W, _; rw [hLB, hLO]; exact implLess_any p q
        have sLE : Hid (∀ W, Calls Try.prog 51 #[.agg (mk 16 p), .agg (mk 16 q)] W fun e w' => e = .returned (.tuple #[.bool LB, .bool LO]) ∧ Below W.heap.size W w') := by show ∀ W, _; rw [hLB, hLO]; exact specLess_any p q
        have HLB := Lib.hid hLB
        have HLO := Lib.hid hLO
        clear hLB hLO
        go_wp2_with (first | ((with_reducible show wpList _ _ _ (Oper.mk _ (Op.load 27 _) _ _ _ _ :: _) _ _); refine loadB (K39) rfl rfl rfl ?_) | ((with_reducible show wpList _ _ _ (Oper.mk _ (Op.load 27 _) _ _ _ (some _) :: _) _ _); refine loadgB (K39) rfl rfl rfl ?_) | ((with_reducible show wpList _ _ _ (Oper.mk _ (Op.load 27 _) _ _ _ _ :: _) _ _); refine loadB (K40) rfl rfl rfl ?_) | ((with_reducible show wpList _ _ _ (Oper.mk _ (Op.load 27 _) _ _ _ (some _) :: _) _ _); refine loadgB (K40) rfl rfl rfl ?_) | ((with_reducible show wpList _ _ _ (Oper.mk _ (Op.store 27 _ _) _ _ _ _ :: _) _ _); refine storeB (KU0) rfl rfl rfl rfl ?_) | ((with_reducible show wpList _ _ _ (Oper.mk _ (Op.store 27 _ _) _ _ _ _ :: _) _ _); refine storeB (KV1) rfl rfl rfl rfl ?_))
        generalize (((w17.alloc (.cells (mk 16 (fun _ => 0)) 27)).alloc (.cells (mk 16 (fun _ => 0)) 27)).setRow w17.heap.size (mk 16 p)).setRow (w17.heap.size + 1) (mk 16 q) = w17a at *
        clear KU0 KV0 KV1
        refine (iLE.out _).mono ?_
        rintro e w18 ⟨rfl, hb⟩
        replace K3 := K3.below hb K3.lt
        replace K4 := K4.below hb K4.lt
        replace K6 := K6.below hb K6.lt
        replace K10 := K10.below hb K10.lt
        replace K11 := K11.below hb K11.lt
        replace K12 := K12.below hb K12.lt
        replace K22 := K22.below hb K22.lt
        replace K27 := K27.below hb K27.lt
        replace K39 := K39.below hb K39.lt
        replace K40 := K40.below hb K40.lt
        replace HB : Hid (Below w.heap.size w w18) := HB.out.trans (hb.mono HB.out.size)
        clear hb
        go_wp2_with (first | ((with_reducible show wpList _ _ _ (Oper.mk _ (Op.load 27 _) _ _ _ _ :: _) _ _); refine loadB (K39) rfl rfl rfl ?_) | ((with_reducible show wpList _ _ _ (Oper.mk _ (Op.load 27 _) _ _ _ (some _) :: _) _ _); refine loadgB (K39) rfl rfl rfl ?_) | ((with_reducible show wpList _ _ _ (Oper.mk _ (Op.load 27 _) _ _ _ _ :: _) _ _); refine loadB (K40) rfl rfl rfl ?_) | ((with_reducible show wpList _ _ _ (Oper.mk _ (Op.load 27 _) _ _ _ (some _) :: _) _ _); refine loadgB (K40) rfl rfl rfl ?_))
        refine (sLE.out _).mono ?_
        rintro e w19 ⟨rfl, hb⟩
        replace K3 := K3.below hb K3.lt
        replace K4 := K4.below hb K4.lt
        replace K6 := K6.below hb K6.lt
        replace K10 := K10.below hb K10.lt
        replace K11 := K11.below hb K11.lt
        replace K12 := K12.below hb K12.lt
        replace K22 := K22.below hb K22.lt
        replace K27 := K27.below hb K27.lt
        replace K39 := K39.below hb K39.lt
        replace K40 := K40.below hb K40.lt
        replace HB : Hid (Below w.heap.size w w19) := HB.out.trans (hb.mono HB.out.size)
        clear hb
        go_wp2_with (first | ((with_reducible show wpList _ _ _ (Oper.mk _ (Op.load 27 _) _ _ _ _ :: _) _ _); refine loadB (K3) rfl rfl rfl ?_) | ((with_reducible show wpList _ _ _ (Oper.mk _ (Op.load 27 _) _ _ _ (some _) :: _) _ _); refine loadgB (K3) rfl rfl rfl ?_))
        refine (iTX.out _).mono ?_
        rintro e w20 ⟨rfl, hb⟩
        replace K3 := K3.below hb K3.lt
        replace K4 := K4.below hb K4.lt
        replace K6 := K6.below hb K6.lt
        replace K10 := K10.below hb K10.lt
        replace K11 := K11.below hb K11.lt
        replace K12 := K12.below hb K12.lt
        replace K22 := K22.below hb K22.lt
        replace K27 := K27.below hb K27.lt
        replace K39 := K39.below hb K39.lt
        replace K40 := K40.below hb K40.lt
        replace HB : Hid (Below w.heap.size w w20) := HB.out.trans (hb.mono HB.out.size)
        clear hb
        go_wp2_with (first | ((with_reducible show wpList _ _ _ (Oper.mk _ (Op.load 27 _) _ _ _ _ :: _) _ _); refine loadB (K3) rfl rfl rfl ?_) | ((with_reducible show wpList _ _ _ (Oper.mk _ (Op.load 27 _) _ _ _ (some _) :: _) _ _); refine loadgB (K3) rfl rfl rfl ?_))
        refine (sTX.out _).mono ?_
        rintro e w21 ⟨rfl, hb⟩
        replace K3 := K3.below hb K3.lt
        replace K4 := K4.below hb K4.lt
        replace K6 := K6.below hb K6.lt
        replace K10 := K10.below hb K10.lt
        replace K11 := K11.below hb K11.lt
        replace K12 := K12.below hb K12.lt
        replace K22 := K22.below hb K22.lt
        replace K27 := K27.below hb K27.lt
        replace K39 := K39.below hb K39.lt
        replace K40 := K40.below hb K40.lt
        replace HB : Hid (Below w.heap.size w w21) := HB.out.trans (hb.mono HB.out.size)
        clear hb
        go_wp2_with fail
        refine (drawParseBoard_any a0 len0 cap0 _ hl (HR.out.code.later HB.out)).mono ?_
        rintro e w22 ⟨s, _, rfl, hb⟩
        replace K3 := K3.below hb K3.lt
        replace K4 := K4.below hb K4.lt
        replace K6 := K6.below hb K6.lt
        replace K10 := K10.below hb K10.lt
        replace K11 := K11.below hb K11.lt
        replace K12 := K12.below hb K12.lt
        replace K22 := K22.below hb K22.lt
        replace K27 := K27.below hb K27.lt
        replace K39 := K39.below hb K39.lt
        replace K40 := K40.below hb K40.lt
        replace HB : Hid (Below w.heap.size w w22) := HB.out.trans (hb.mono HB.out.size)
        clear hb
        obtain ⟨PR, hPR⟩ : ∃ F, F = parR s := ⟨_, rfl⟩
        obtain ⟨PK, hPK⟩ : ∃ F, F = parO s := ⟨_, rfl⟩
        have iPA : Hid (∀ W, Calls Try.prog 55 #[.string s] W fun e w' => e = .returned (.tuple #[.agg (mk 16 PR), .bool PK]) ∧ Below W.heap.size W w') := by show ∀ W, _; rw [hPR, hPK]; exact implParse_any s
        have sPA : Hid (∀ W, Calls Try.prog 56 #[.string s] W fun e w' => e = .returned (.tuple #[.agg (mk 16 PR), .bool PK]) ∧ Below W.heap.size W w') := by show ∀ W, _; rw [hPR, hPK]; exact specParse_any s
        clear hPR hPK
        have sPR : sameB PR PR = true := sameB_iff.2 fun _ _ => rfl
        go_wp2_with fail
        refine (iPA.out _).mono ?_
        rintro e w23 ⟨rfl, hb⟩
        replace K3 := K3.below hb K3.lt
        replace K4 := K4.below hb K4.lt
        replace K6 := K6.below hb K6.lt
        replace K10 := K10.below hb K10.lt
        replace K11 := K11.below hb K11.lt
        replace K12 := K12.below hb K12.lt
        replace K22 := K22.below hb K22.lt
        replace K27 := K27.below hb K27.lt
        replace K39 := K39.below hb K39.lt
        replace K40 := K40.below hb K40.lt
        replace HB : Hid (Below w.heap.size w w23) := HB.out.trans (hb.mono HB.out.size)
        clear hb
        replace K3 := K3.alloc (.cells (mk 16 (PR)) 27)
        replace K4 := K4.alloc (.cells (mk 16 (PR)) 27)
        replace K6 := K6.alloc (.cells (mk 16 (PR)) 27)
        replace K10 := K10.alloc (.cells (mk 16 (PR)) 27)
        replace K11 := K11.alloc (.cells (mk 16 (PR)) 27)
        replace K12 := K12.alloc (.cells (mk 16 (PR)) 27)
        replace K22 := K22.alloc (.cells (mk 16 (PR)) 27)
        replace K27 := K27.alloc (.cells (mk 16 (PR)) 27)
        replace K39 := K39.alloc (.cells (mk 16 (PR)) 27)
        replace K40 := K40.alloc (.cells (mk 16 (PR)) 27)
        have K50 := Blk.new w23 16 (PR) 27
        replace HB : Hid (Below w.heap.size w (w23.alloc (.cells (mk 16 (PR)) 27))) := HB.out.alloc HB.out.size _
        go_wp2_with fail
        generalize w23.alloc (.cells (mk 16 (PR)) 27) = w23a at *
        refine (sPA.out _).mono ?_
        rintro e w24 ⟨rfl, hb⟩
        replace K3 := K3.below hb K3.lt
        replace K4 := K4.below hb K4.lt
        replace K6 := K6.below hb K6.lt
        replace K10 := K10.below hb K10.lt
        replace K11 := K11.below hb K11.lt
        replace K12 := K12.below hb K12.lt
        replace K22 := K22.below hb K22.lt
        replace K27 := K27.below hb K27.lt
        replace K39 := K39.below hb K39.lt
        replace K40 := K40.below hb K40.lt
        replace K50 := K50.below hb K50.lt
        replace HB : Hid (Below w.heap.size w w24) := HB.out.trans (hb.mono HB.out.size)
        clear hb
        replace K3 := K3.alloc (.cells (mk 16 (PR)) 27)
        replace K4 := K4.alloc (.cells (mk 16 (PR)) 27)
        replace K6 := K6.alloc (.cells (mk 16 (PR)) 27)
        replace K10 := K10.alloc (.cells (mk 16 (PR)) 27)
        replace K11 := K11.alloc (.cells (mk 16 (PR)) 27)
        replace K12 := K12.alloc (.cells (mk 16 (PR)) 27)
        replace K22 := K22.alloc (.cells (mk 16 (PR)) 27)
        replace K27 := K27.alloc (.cells (mk 16 (PR)) 27)
        replace K39 := K39.alloc (.cells (mk 16 (PR)) 27)
        replace K40 := K40.alloc (.cells (mk 16 (PR)) 27)
        replace K50 := K50.alloc (.cells (mk 16 (PR)) 27)
        have K52 := Blk.new w24 16 (PR) 27
        replace HB : Hid (Below w.heap.size w (w24.alloc (.cells (mk 16 (PR)) 27))) := HB.out.alloc HB.out.size _
        clear iN
        have iE : ∀ (F G : Nat → Int) (W : World), (Op.equalIn 10000 27 (.agg (mk 16 F)) (.agg (mk 16 G))).run Try.prog W = .ok (sameB F G) W := eqB 9996
        go_upto_if 298 with (first | ((with_reducible show wpList _ _ _ (Oper.mk _ (Op.load 27 _) _ _ _ _ :: _) _ _); refine loadB (K50) rfl rfl rfl ?_) | ((with_reducible show wpList _ _ _ (Oper.mk _ (Op.load 27 _) _ _ _ (some _) :: _) _ _); refine loadgB (K50) rfl rfl rfl ?_) | ((with_reducible show wpList _ _ _ (Oper.mk _ (Op.load 27 _) _ _ _ _ :: _) _ _); refine loadB (K52) rfl rfl rfl ?_) | ((with_reducible show wpList _ _ _ (Oper.mk _ (Op.load 27 _) _ _ _ (some _) :: _) _ _); refine loadgB (K52) rfl rfl rfl ?_))
        clear iPU sPU iTA sTA iEC sEC iCT sCT iHI sHI iTX sTX iLI sLN iLE sLE iPA sPA sTB sLI sPR iNC iNN iNR eTX hn16
        try clear sPB
        generalize w24.alloc (.cells (mk 16 (PR)) 27) = w24a at *
        go_cut [] from 299 to 299 (fun wc => Blk wc (w1.heap.size) 16 f 27 ∧ Blk wc ((w1.heap.size + 1)) 2 g 49 ∧ Blk wc (w2.heap.size) 16 PB 27 ∧ Blk wc (w4.heap.size) 16 c 27 ∧ Blk wc ((w4.heap.size + 1)) 2 d 49 ∧ Blk wc (w5.heap.size) 16 TB 27 ∧ Blk wc (w10.heap.size) 18 CN 60 ∧ Blk wc (w12.heap.size) 2 HC 49 ∧ Below w.heap.size w wc)
        case first =>
          cases hO : LO with
          | false =>
            subst hO
            go_wp2_with (first | ((with_reducible show wpList _ _ _ (Oper.mk _ (Op.load 27 _) _ _ _ _ :: _) _ _); refine loadB (K50) rfl rfl rfl ?_) | ((with_reducible show wpList _ _ _ (Oper.mk _ (Op.load 27 _) _ _ _ (some _) :: _) _ _); refine loadgB (K50) rfl rfl rfl ?_) | ((with_reducible show wpList _ _ _ (Oper.mk _ (Op.load 27 _) _ _ _ _ :: _) _ _); refine loadB (K52) rfl rfl rfl ?_) | ((with_reducible show wpList _ _ _ (Oper.mk _ (Op.load 27 _) _ _ _ (some _) :: _) _ _); refine loadgB (K52) rfl rfl rfl ?_))
            go_meet
            case rel => exact ⟨K3, K4, K6, K10, K11, K12, K22, K27, HB.out⟩
          | true =>
            have hPQ := of_decide_eq_true (HLO.out.symm.trans hO)
            have hLBv : LB = lessB p q := by rw [HLB.out]; exact (less_yes hPQ.1 hPQ.2).1
            obtain ⟨LB2, hLB2⟩ : ∃ F, F = lessB q p := ⟨_, rfl⟩
            have iLE2 : Hid (∀ W, Calls Try.prog 50 #[.agg (mk 16 q), .agg (mk 16 p)] W fun e w' => e = .returned (.tuple #[.bool LB2, .bool true]) ∧ Below W.heap.size W w') := by show ∀ W, _; intro W; rw [hLB2]; have h9 := implLess_any q p W; obtain ⟨y1, y2⟩ := less_yes hPQ.2 hPQ.1; rw [y1, y2] at h9; exact h9
            have HTH := Lib.hid (less_three p q)
            rw [← hLBv, ← hLB2] at HTH
            clear hPQ hLBv hLB2
            subst hO
            clear HLB HLO
            go_wp2_with (first | ((with_reducible show wpList _ _ _ (Oper.mk _ (Op.load 27 _) _ _ _ _ :: _) _ _); refine loadB (K50) rfl rfl rfl ?_) | ((with_reducible show wpList _ _ _ (Oper.mk _ (Op.load 27 _) _ _ _ (some _) :: _) _ _); refine loadgB (K50) rfl rfl rfl ?_) | ((with_reducible show wpList _ _ _ (Oper.mk _ (Op.load 27 _) _ _ _ _ :: _) _ _); refine loadB (K52) rfl rfl rfl ?_) | ((with_reducible show wpList _ _ _ (Oper.mk _ (Op.load 27 _) _ _ _ (some _) :: _) _ _); refine loadgB (K52) rfl rfl rfl ?_) | ((with_reducible show wpList _ _ _ (Oper.mk _ (Op.load 27 _) _ _ _ _ :: _) _ _); refine loadB (K40) rfl rfl rfl ?_) | ((with_reducible show wpList _ _ _ (Oper.mk _ (Op.load 27 _) _ _ _ (some _) :: _) _ _); refine loadgB (K40) rfl rfl rfl ?_) | ((with_reducible show wpList _ _ _ (Oper.mk _ (Op.load 27 _) _ _ _ _ :: _) _ _); refine loadB (K39) rfl rfl rfl ?_) | ((with_reducible show wpList _ _ _ (Oper.mk _ (Op.load 27 _) _ _ _ (some _) :: _) _ _); refine loadgB (K39) rfl rfl rfl ?_))
            refine (iLE2.out _).mono ?_
            rintro e w25 ⟨rfl, hb⟩
            replace K3 := K3.below hb K3.lt
            replace K4 := K4.below hb K4.lt
            replace K6 := K6.below hb K6.lt
            replace K10 := K10.below hb K10.lt
            replace K11 := K11.below hb K11.lt
            replace K12 := K12.below hb K12.lt
            replace K22 := K22.below hb K22.lt
            replace K27 := K27.below hb K27.lt
            replace K39 := K39.below hb K39.lt
            replace K40 := K40.below hb K40.lt
            replace K50 := K50.below hb K50.lt
            replace K52 := K52.below hb K52.lt
            replace HB : Hid (Below w.heap.size w w25) := HB.out.trans (hb.mono HB.out.size)
            clear hb
            rcases HTH.out with ⟨q1, q2, q3⟩ | ⟨q1, q2, q3⟩ | ⟨q1, q2, q3⟩ <;> (
              subst q2 q3
              clear HTH
              go_wp2_with (first | ((with_reducible show wpList _ _ _ (Oper.mk _ (Op.load 27 _) _ _ _ _ :: _) _ _); refine loadB (K39) rfl rfl rfl ?_) | ((with_reducible show wpList _ _ _ (Oper.mk _ (Op.load 27 _) _ _ _ (some _) :: _) _ _); refine loadgB (K39) rfl rfl rfl ?_) | ((with_reducible show wpList _ _ _ (Oper.mk _ (Op.load 27 _) _ _ _ _ :: _) _ _); refine loadB (K40) rfl rfl rfl ?_) | ((with_reducible show wpList _ _ _ (Oper.mk _ (Op.load 27 _) _ _ _ (some _) :: _) _ _); refine loadgB (K40) rfl rfl rfl ?_))
              go_meet
              case rel => exact ⟨K3, K4, K6, K10, K11, K12, K22, K27, HB.out⟩)
        case rest =>
          clear K3 K4 K6 K10 K11 K12 K22 K27 HB
          obtain ⟨K3, K4, K6, K10, K11, K12, K22, K27, hb0⟩ := hcut
          have HB := Lib.hid hb0
          clear hb0
          clear HLB HLO
          go_wp2_with fail
          refine (iPB.out _).mono ?_
          rintro e w25 ⟨rfl, hb⟩
          replace K3 := K3.below hb K3.lt
          replace K4 := K4.below hb K4.lt
          replace K6 := K6.below hb K6.lt
          replace K10 := K10.below hb K10.lt
          replace K11 := K11.below hb K11.lt
          replace K12 := K12.below hb K12.lt
          replace K22 := K22.below hb K22.lt
          replace K27 := K27.below hb K27.lt
          replace HB : Hid (Below w.heap.size w w25) := HB.out.trans (hb.mono HB.out.size)
          clear hb
          replace K3 := K3.alloc (.cells (mk 16 (BK)) 27)
          replace K4 := K4.alloc (.cells (mk 16 (BK)) 27)
          replace K6 := K6.alloc (.cells (mk 16 (BK)) 27)
          replace K10 := K10.alloc (.cells (mk 16 (BK)) 27)
          replace K11 := K11.alloc (.cells (mk 16 (BK)) 27)
          replace K12 := K12.alloc (.cells (mk 16 (BK)) 27)
          replace K22 := K22.alloc (.cells (mk 16 (BK)) 27)
          replace K27 := K27.alloc (.cells (mk 16 (BK)) 27)
          have K56 := Blk.new w25 16 (BK) 27
          replace HB : Hid (Below w.heap.size w (w25.alloc (.cells (mk 16 (BK)) 27))) := HB.out.alloc HB.out.size _
          go_upto_region 52 with (first | ((with_reducible show wpList _ _ _ (Oper.mk _ (Op.load 27 _) _ _ _ _ :: _) _ _); refine loadB (K56) rfl rfl rfl ?_) | ((with_reducible show wpList _ _ _ (Oper.mk _ (Op.load 27 _) _ _ _ (some _) :: _) _ _); refine loadgB (K56) rfl rfl rfl ?_) | ((with_reducible show wpList _ _ _ (Oper.mk _ (Op.load 27 _) _ _ _ _ :: _) _ _); refine loadB (K3) rfl rfl rfl ?_) | ((with_reducible show wpList _ _ _ (Oper.mk _ (Op.load 27 _) _ _ _ (some _) :: _) _ _); refine loadgB (K3) rfl rfl rfl ?_))
          generalize w25.alloc (.cells (mk 16 (BK)) 27) = w25a at *
          go_cut [354] from 354 to 354 (fun s354 wc => s354 = .bool false ∧ Blk wc (w1.heap.size) 16 f 27 ∧ Blk wc ((w1.heap.size + 1)) 2 g 49 ∧ Blk wc (w2.heap.size) 16 PB 27 ∧ Blk wc (w4.heap.size) 16 c 27 ∧ Blk wc ((w4.heap.size + 1)) 2 d 49 ∧ Blk wc (w5.heap.size) 16 TB 27 ∧ Below w.heap.size w wc)
          case first =>
            cases hO : HO with
            | false =>
              subst hO
              go_quiet (fail)
              all_goals
                go_wp2_with fail
                go_meet
                case rel => exact ⟨rfl, K3.drewN _, K4.drewN _, K6.drewN _, K10.drewN _, K11.drewN _, K12.drewN _, below_drewN HB.out _⟩
            | true =>
              obtain ⟨r, q, hn, hr, hq, hnl, eT, c27a, c27b, e3, cv, hcv⟩ := HHI.out hO
              have HCV := Lib.hid hcv
              have d27a := K27.cell (i := 0) (by omega)
              have d27b := K27.cell (i := 1) (by omega)
              rw [c27a] at d27a
              rw [c27b] at d27b
              have d3 := K3.cell (i := r * 4 + q) (by omega)
              rw [e3] at d3
              have d22 := K22.cell (i := hn) (by omega)
              have hr0 : (0 : Int) ≤ (r : Int) := by omega
              have hq0 : (0 : Int) ≤ (q : Int) := by omega
              have hr4 : (r : Int) < 4 := by omega
              have hq4 : (q : Int) < 4 := by omega
              have hn0 : (0 : Int) ≤ (hn : Int) := by omega
              have hn8 : (hn : Int) < 18 := by omega
              subst eT hO
              have ev : CN hn = cv + 1 := HCV.out.1
              have ev2 : (cv + 1 == 0) = false := by have := HCV.out.2; simp; omega
              rw [ev] at d22
              clear ev hcv HCV c27a c27b e3
              go_quiet (fail)
              all_goals
                clear d27a d27b d3 d22
                go_wp2_with fail
                go_meet
                case rel => exact ⟨rfl, K3.drewN _, K4.drewN _, K6.drewN _, K10.drewN _, K11.drewN _, K12.drewN _, below_drewN HB.out _⟩
          case rest =>
            clear K3 K4 K6 K10 K11 K12 K22 K27 HB
            obtain ⟨rfl, K3, K4, K6, K10, K11, K12, hb0⟩ := hcut
            have HB := Lib.hid hb0
            clear hb0
            go_upto_if 355 with fail
            go_cut [] from 356 to 356 (fun wc => Blk wc (w1.heap.size) 16 f 27 ∧ Blk wc ((w1.heap.size + 1)) 2 g 49 ∧ Blk wc (w2.heap.size) 16 PB 27 ∧ Below w.heap.size w wc)
            case first =>
              cases hO : TO with
              | false =>
                subst hO
                go_wp2_with fail
                go_meet
                case rel => exact ⟨K3, K4, K6, HB.out⟩
              | true =>
                have hTK := of_decide_eq_true (HTO.out.symm.trans hO)
                obtain ⟨hq1, hq2⟩ := put_take hTK
                obtain ⟨BP, hBP⟩ : ∃ F, F = putB (takeB c d) d (takeT c d) := ⟨_, rfl⟩
                have iPT : Hid (∀ W, Calls Try.prog 34 #[.agg (mk 16 TB), .agg (mk 2 d), .int .i64 TT] W fun e w' => e = .returned (.tuple #[.agg (mk 16 BP), .bool true]) ∧ Below W.heap.size W w') := by show ∀ W, _; intro W; rw [HTB.out, HTT.out, hBP]; have h9 := implPut_any (takeB c d) d (takeT c d) W; rw [hq1] at h9; exact h9
                have sBP : sameB BP c = true := by rw [hBP]; exact hq2
                clear hBP hq1 hq2 hTK
                subst hO
                clear HTB HTT HTO
                go_wp2_with (first | ((with_reducible show wpList _ _ _ (Oper.mk _ (Op.load 27 _) _ _ _ _ :: _) _ _); refine loadB (K12) rfl rfl rfl ?_) | ((with_reducible show wpList _ _ _ (Oper.mk _ (Op.load 27 _) _ _ _ (some _) :: _) _ _); refine loadgB (K12) rfl rfl rfl ?_) | ((with_reducible show wpList _ _ _ (Oper.mk _ (Op.load 49 _) _ _ _ _ :: _) _ _); refine loadC (K11) rfl rfl rfl ?_) | ((with_reducible show wpList _ _ _ (Oper.mk _ (Op.load 49 _) _ _ _ (some _) :: _) _ _); refine loadgC (K11) rfl rfl rfl ?_))
                refine (iPT.out _).mono ?_
                rintro e w26 ⟨rfl, hb⟩
                replace K3 := K3.below hb K3.lt
                replace K4 := K4.below hb K4.lt
                replace K6 := K6.below hb K6.lt
                replace K10 := K10.below hb K10.lt
                replace K11 := K11.below hb K11.lt
                replace K12 := K12.below hb K12.lt
                replace HB : Hid (Below w.heap.size w w26) := HB.out.trans (hb.mono HB.out.size)
                clear hb
                replace K3 := K3.alloc (.cells (mk 16 (BP)) 27)
                replace K4 := K4.alloc (.cells (mk 16 (BP)) 27)
                replace K6 := K6.alloc (.cells (mk 16 (BP)) 27)
                replace K10 := K10.alloc (.cells (mk 16 (BP)) 27)
                replace K11 := K11.alloc (.cells (mk 16 (BP)) 27)
                replace K12 := K12.alloc (.cells (mk 16 (BP)) 27)
                have K58 := Blk.new w26 16 (BP) 27
                replace HB : Hid (Below w.heap.size w (w26.alloc (.cells (mk 16 (BP)) 27))) := HB.out.alloc HB.out.size _
                go_wp2_with (first | ((with_reducible show wpList _ _ _ (Oper.mk _ (Op.load 27 _) _ _ _ _ :: _) _ _); refine loadB (K58) rfl rfl rfl ?_) | ((with_reducible show wpList _ _ _ (Oper.mk _ (Op.load 27 _) _ _ _ (some _) :: _) _ _); refine loadgB (K58) rfl rfl rfl ?_) | ((with_reducible show wpList _ _ _ (Oper.mk _ (Op.load 27 _) _ _ _ _ :: _) _ _); refine loadB (K10) rfl rfl rfl ?_) | ((with_reducible show wpList _ _ _ (Oper.mk _ (Op.load 27 _) _ _ _ (some _) :: _) _ _); refine loadgB (K10) rfl rfl rfl ?_))
                go_meet
                case rel => exact ⟨K3, K4, K6, HB.out⟩
            case rest =>
              clear K3 K4 K6 HB
              obtain ⟨K3, K4, K6, hb0⟩ := hcut
              have HB := Lib.hid hb0
              clear hb0
              cases hO : PO with
              | false =>
                subst hO
                go_wp2_with fail
                go_ret
                exact ⟨rfl, HB.out⟩
              | true =>
                have hPK := of_decide_eq_true (HPO.out.symm.trans hO)
                obtain ⟨hq1, hq2, hq3⟩ := take_put hPK
                obtain ⟨BT, hBT⟩ : ∃ F, F = takeB (putB f g t) g := ⟨_, rfl⟩
                have iTP : Hid (∀ W, Calls Try.prog 37 #[.agg (mk 16 PB), .agg (mk 2 g)] W fun e w' => e = .returned (.tuple #[.agg (mk 16 BT), .int .i64 t, .bool true]) ∧ Below W.heap.size W w') := by show ∀ W, _; intro W; rw [HPB.out, hBT]; have h9 := implTake_any (putB f g t) g W; rw [hq1, hq3] at h9; exact h9
                have sBT : sameB BT f = true := by rw [hBT]; exact hq2
                clear hBT hq1 hq2 hq3 hPK
                subst hO
                clear HPB HPO
                go_wp2_with (first | ((with_reducible show wpList _ _ _ (Oper.mk _ (Op.load 27 _) _ _ _ _ :: _) _ _); refine loadB (K6) rfl rfl rfl ?_) | ((with_reducible show wpList _ _ _ (Oper.mk _ (Op.load 27 _) _ _ _ (some _) :: _) _ _); refine loadgB (K6) rfl rfl rfl ?_) | ((with_reducible show wpList _ _ _ (Oper.mk _ (Op.load 49 _) _ _ _ _ :: _) _ _); refine loadC (K4) rfl rfl rfl ?_) | ((with_reducible show wpList _ _ _ (Oper.mk _ (Op.load 49 _) _ _ _ (some _) :: _) _ _); refine loadgC (K4) rfl rfl rfl ?_))
                refine (iTP.out _).mono ?_
                rintro e w26 ⟨rfl, hb⟩
                replace K3 := K3.below hb K3.lt
                replace K4 := K4.below hb K4.lt
                replace K6 := K6.below hb K6.lt
                replace HB : Hid (Below w.heap.size w w26) := HB.out.trans (hb.mono HB.out.size)
                clear hb
                replace K3 := K3.alloc (.cells (mk 16 (BT)) 27)
                replace K4 := K4.alloc (.cells (mk 16 (BT)) 27)
                replace K6 := K6.alloc (.cells (mk 16 (BT)) 27)
                have K60 := Blk.new w26 16 (BT) 27
                replace HB : Hid (Below w.heap.size w (w26.alloc (.cells (mk 16 (BT)) 27))) := HB.out.alloc HB.out.size _
                go_wp2_with (first | ((with_reducible show wpList _ _ _ (Oper.mk _ (Op.load 27 _) _ _ _ _ :: _) _ _); refine loadB (K60) rfl rfl rfl ?_) | ((with_reducible show wpList _ _ _ (Oper.mk _ (Op.load 27 _) _ _ _ (some _) :: _) _ _); refine loadgB (K60) rfl rfl rfl ?_) | ((with_reducible show wpList _ _ _ (Oper.mk _ (Op.load 27 _) _ _ _ _ :: _) _ _); refine loadB (K3) rfl rfl rfl ?_) | ((with_reducible show wpList _ _ _ (Oper.mk _ (Op.load 27 _) _ _ _ (some _) :: _) _ _); refine loadgB (K3) rfl rfl rfl ?_))
                go_ret
                exact ⟨rfl, HB.out⟩
    · as_aux_lemma =>
        have hVO : vdO f = false := vdO_no hV
        obtain ⟨PB, hPB⟩ : ∃ F, F = putB f g t := ⟨_, rfl⟩
        obtain ⟨PO, hPO⟩ : ∃ F, F = putO f g t := ⟨_, rfl⟩
        obtain ⟨HT, hHT⟩ : ∃ F, F = hiT f := ⟨_, rfl⟩
        obtain ⟨HC, hHC⟩ : ∃ F, F = hiC f := ⟨_, rfl⟩
        obtain ⟨HO, hHO⟩ : ∃ F, F = hiO f := ⟨_, rfl⟩
        obtain ⟨CN, hCN⟩ : ∃ F, F = cntR f := ⟨_, rfl⟩
        obtain ⟨nE, hnE⟩ : ∃ F, F = cellN f := ⟨_, rfl⟩
        obtain ⟨hE, hhE⟩ : ∃ F, F = fun i => (cellL f).getD i 0 := ⟨_, rfl⟩
        obtain ⟨TX, hTX⟩ : ∃ F, F = textR f := ⟨_, rfl⟩
        have iPU : Hid (∀ W, Calls Try.prog 34 #[.agg (mk 16 f), .agg (mk 2 g), .int .i64 t] W fun e w' => e = .returned (.tuple #[.agg (mk 16 PB), .bool PO]) ∧ Below W.heap.size W w') := by show ∀ W, _; rw [hPB, hPO]; exact implPut_any f g t
        have iEC : Hid (∀ W, Calls Try.prog 39 #[.agg (mk 16 f)] W fun e w' => ∃ g c, e = .returned (.tuple #[.slice (some ⟨g, 0, none⟩) nE c, .bool false]) ∧ CRow w' (.slice (some ⟨g, 0, none⟩) nE c) nE hE ∧ Below W.heap.size W w') := by show ∀ W, _; intro W; rw [hnE, hhE, ← hVO]; exact (implCells_any f W).mono fun e w' ⟨g, c, q1, q2, q3⟩ => ⟨g, c, q1, crow_of q2, q3⟩
        have iCT : Hid (∀ W, Calls Try.prog 42 #[.agg (mk 16 f)] W fun e w' => e = .returned (.tuple #[.agg (mk 18 CN), .bool false]) ∧ Below W.heap.size W w') := by show ∀ W, _; rw [hCN, ← hVO]; exact implCount_any f
        have iHI : Hid (∀ W, Calls Try.prog 44 #[.agg (mk 16 f)] W fun e w' => e = .returned (.tuple #[.int .i64 HT, .agg (mk 2 HC), .bool HO]) ∧ Below W.heap.size W w') := by show ∀ W, _; rw [hHT, hHC, hHO]; exact implHigh_any f
        have iTX : Hid (∀ W, Calls Try.prog 52 #[.agg (mk 16 f)] W fun e w' => e = .returned (.tuple #[.string TX, .bool false]) ∧ Below W.heap.size W w') := by show ∀ W, _; rw [hTX, ← hVO]; exact implText_any f
        have sPU : Hid (∀ W, Calls Try.prog 35 #[.agg (mk 16 f), .agg (mk 2 g), .int .i64 t] W fun e w' => e = .returned (.tuple #[.agg (mk 16 PB), .bool PO]) ∧ Below W.heap.size W w') := by show ∀ W, _; rw [hPB, hPO]; exact specPut_any f g t
        have sEC : Hid (∀ W, Calls Try.prog 40 #[.agg (mk 16 f)] W fun e w' => ∃ g c, e = .returned (.tuple #[.slice (some ⟨g, 0, none⟩) nE c, .bool false]) ∧ CRow w' (.slice (some ⟨g, 0, none⟩) nE c) nE hE ∧ Below W.heap.size W w') := by show ∀ W, _; intro W; rw [hnE, hhE, ← hVO]; exact (specCells_any f W).mono fun e w' ⟨g, c, q1, q2, q3⟩ => ⟨g, c, q1, crow_of q2, q3⟩
        have sCT : Hid (∀ W, Calls Try.prog 43 #[.agg (mk 16 f)] W fun e w' => e = .returned (.tuple #[.agg (mk 18 CN), .bool false]) ∧ Below W.heap.size W w') := by show ∀ W, _; rw [hCN, ← hVO]; exact specCount_any f
        have sHI : Hid (∀ W, Calls Try.prog 45 #[.agg (mk 16 f)] W fun e w' => e = .returned (.tuple #[.int .i64 HT, .agg (mk 2 HC), .bool HO]) ∧ Below W.heap.size W w') := by show ∀ W, _; rw [hHT, hHC, hHO]; exact specHigh_any f
        have sTX : Hid (∀ W, Calls Try.prog 53 #[.agg (mk 16 f)] W fun e w' => e = .returned (.tuple #[.string TX, .bool false]) ∧ Below W.heap.size W w') := by show ∀ W, _; rw [hTX, ← hVO]; exact specText_any f
        have hn16 : nE ≤ 16 := by rw [hnE]; exact cellN_le f
        have hPO0 : PO = false := by rw [hPO]; exact (put_no fun q => hV q.1).1
        have hHO0 : HO = false := by rw [hHO]; exact (hi_no hV).2.2
        clear hPB hPO hHT hHC hHO hCN hnE hhE hTX hV hVO
        subst hPO0 hHO0
        have sPB : sameB PB PB = true := sameB_iff.2 fun _ _ => rfl
        have iN := neqB
        have iNC := neqC2_self HC
        have iNN := neqN_self CN
        have iNR := neqR
        have eTX : (TX.toList == TX.toList) = true := toList_same TX
        go_wp2_with (first | ((with_reducible show wpList _ _ _ (Oper.mk _ (Op.load 27 _) _ _ _ _ :: _) _ _); refine loadB (K3) rfl rfl rfl ?_) | ((with_reducible show wpList _ _ _ (Oper.mk _ (Op.load 27 _) _ _ _ (some _) :: _) _ _); refine loadgB (K3) rfl rfl rfl ?_) | ((with_reducible show wpList _ _ _ (Oper.mk _ (Op.load 49 _) _ _ _ _ :: _) _ _); refine loadC (K4) rfl rfl rfl ?_) | ((with_reducible show wpList _ _ _ (Oper.mk _ (Op.load 49 _) _ _ _ (some _) :: _) _ _); refine loadgC (K4) rfl rfl rfl ?_) | ((with_reducible show wpList _ _ _ (Oper.mk _ (Op.store 27 _ _) _ _ _ _ :: _) _ _); refine storeB (KU0) rfl rfl rfl rfl ?_) | ((with_reducible show wpList _ _ _ (Oper.mk _ (Op.store 49 _ _) _ _ _ _ :: _) _ _); refine storeC (KV1) rfl rfl rfl rfl ?_))
        generalize (((w1.alloc (.cells (mk 16 (fun _ => 0)) 27)).alloc (.cells (mk 2 (fun _ => 0)) 49)).setRow w1.heap.size (mk 16 f)).setRow (w1.heap.size + 1) (mk 2 g) = w1a at *
        clear KU0 KV0 KV1
        refine (iPU.out _).mono ?_
        rintro e w2 ⟨rfl, hb⟩
        replace K3 := K3.below hb K3.lt
        replace K4 := K4.below hb K4.lt
        replace HB : Hid (Below w.heap.size w w2) := HB.out.trans (hb.mono HB.out.size)
        clear hb
        replace K3 := K3.alloc (.cells (mk 16 (PB)) 27)
        replace K4 := K4.alloc (.cells (mk 16 (PB)) 27)
        have K6 := Blk.new w2 16 (PB) 27
        replace HB : Hid (Below w.heap.size w (w2.alloc (.cells (mk 16 (PB)) 27))) := HB.out.alloc HB.out.size _
        go_wp2_with (first | ((with_reducible show wpList _ _ _ (Oper.mk _ (Op.load 27 _) _ _ _ _ :: _) _ _); refine loadB (K3) rfl rfl rfl ?_) | ((with_reducible show wpList _ _ _ (Oper.mk _ (Op.load 27 _) _ _ _ (some _) :: _) _ _); refine loadgB (K3) rfl rfl rfl ?_) | ((with_reducible show wpList _ _ _ (Oper.mk _ (Op.load 49 _) _ _ _ _ :: _) _ _); refine loadC (K4) rfl rfl rfl ?_) | ((with_reducible show wpList _ _ _ (Oper.mk _ (Op.load 49 _) _ _ _ (some _) :: _) _ _); refine loadgC (K4) rfl rfl rfl ?_))
        generalize w2.alloc (.cells (mk 16 (PB)) 27) = w2a at *
        refine (sPU.out _).mono ?_
        rintro e w3 ⟨rfl, hb⟩
        replace K3 := K3.below hb K3.lt
        replace K4 := K4.below hb K4.lt
        replace K6 := K6.below hb K6.lt
        replace HB : Hid (Below w.heap.size w w3) := HB.out.trans (hb.mono HB.out.size)
        clear hb
        replace K3 := K3.alloc (.cells (mk 16 (PB)) 27)
        replace K4 := K4.alloc (.cells (mk 16 (PB)) 27)
        replace K6 := K6.alloc (.cells (mk 16 (PB)) 27)
        have K8 := Blk.new w3 16 (PB) 27
        replace HB : Hid (Below w.heap.size w (w3.alloc (.cells (mk 16 (PB)) 27))) := HB.out.alloc HB.out.size _
        go_wp2_with (first | ((with_reducible show wpList _ _ _ (Oper.mk _ (Op.load 27 _) _ _ _ _ :: _) _ _); refine loadB (K6) rfl rfl rfl ?_) | ((with_reducible show wpList _ _ _ (Oper.mk _ (Op.load 27 _) _ _ _ (some _) :: _) _ _); refine loadgB (K6) rfl rfl rfl ?_) | ((with_reducible show wpList _ _ _ (Oper.mk _ (Op.load 27 _) _ _ _ _ :: _) _ _); refine loadB (K8) rfl rfl rfl ?_) | ((with_reducible show wpList _ _ _ (Oper.mk _ (Op.load 27 _) _ _ _ (some _) :: _) _ _); refine loadgB (K8) rfl rfl rfl ?_))
        generalize w3.alloc (.cells (mk 16 (PB)) 27) = w3a at *
        refine (drawTakeTile_any a0 len0 cap0 _ hl (HR.out.code.later HB.out)).mono ?_
        rintro e w4 ⟨c, d, rfl, hb⟩
        replace K3 := K3.below hb K3.lt
        replace K4 := K4.below hb K4.lt
        replace K6 := K6.below hb K6.lt
        replace K8 := K8.below hb K8.lt
        replace HB : Hid (Below w.heap.size w w4) := HB.out.trans (hb.mono HB.out.size)
        clear hb
        have KU0 := (Blk.new w4 16 (fun _ => 0) 27).alloc (.cells (mk 2 (fun _ => 0)) 49)
        have KV0 := Blk.new (w4.alloc (.cells (mk 16 (fun _ => 0)) 27)) 2 (fun _ => 0) 49
        have hz1 : (w4.alloc (.cells (mk 16 (fun _ => 0)) 27)).heap.size = w4.heap.size + 1 := by simp
        rw [hz1] at KV0
        have hb : Below w4.heap.size w4 ((((w4.alloc (.cells (mk 16 (fun _ => 0)) 27)).alloc (.cells (mk 2 (fun _ => 0)) 49)).setRow w4.heap.size (mk 16 c)).setRow (w4.heap.size + 1) (mk 2 d)) := below_setRow (below_setRow (((Below.refl _ w4).alloc (Nat.le_refl _) _).alloc (by simp) _) (Nat.le_refl _) _) (by omega) _
        have KV1 := KV0.rowOther w4.heap.size (mk 16 c) (by omega)
        have K10 := (KU0.row 16 c).rowOther (w4.heap.size + 1) (mk 2 d) (by omega)
        have K11 := KV1.row 2 d
        clear hz1
        replace K3 := K3.below hb K3.lt
        replace K4 := K4.below hb K4.lt
        replace K6 := K6.below hb K6.lt
        replace K8 := K8.below hb K8.lt
        replace HB : Hid (Below w.heap.size w ((((w4.alloc (.cells (mk 16 (fun _ => 0)) 27)).alloc (.cells (mk 2 (fun _ => 0)) 49)).setRow w4.heap.size (mk 16 c)).setRow (w4.heap.size + 1) (mk 2 d))) := HB.out.trans (hb.mono HB.out.size)
        clear hb
        clear K8
        obtain ⟨TB, hTB⟩ : ∃ F, F = takeB c d := ⟨_, rfl⟩
        obtain ⟨TT, hTT⟩ : ∃ F, F = takeT c d := ⟨_, rfl⟩
        obtain ⟨TO, hTO⟩ : ∃ F, F = takeO c d := ⟨_, rfl⟩
        have iTA : Hid (∀ W, Calls Try.prog 37 #[.agg (mk 16 c), .agg (mk 2 d)] W fun e w' => e = .returned (.tuple #[.agg (mk 16 TB), .int .i64 TT, .bool TO]) ∧ Below W.heap.size W w') := by show ∀ W, _; rw [hTB, hTT, hTO]; exact implTake_any c d
        have sTA : Hid (∀ W, Calls Try.prog 38 #[.agg (mk 16 c), .agg (mk 2 d)] W fun e w' => e = .returned (.tuple #[.agg (mk 16 TB), .int .i64 TT, .bool TO]) ∧ Below W.heap.size W w') := by show ∀ W, _; rw [hTB, hTT, hTO]; exact specTake_any c d
        have HTB := Lib.hid hTB
        have HTT := Lib.hid hTT
        have HTO := Lib.hid hTO
        clear hTB hTT hTO
        have sTB : sameB TB TB = true := sameB_iff.2 fun _ _ => rfl
        go_wp2_with (first | ((with_reducible show wpList _ _ _ (Oper.mk _ (Op.load 27 _) _ _ _ _ :: _) _ _); refine loadB (K10) rfl rfl rfl ?_) | ((with_reducible show wpList _ _ _ (Oper.mk _ (Op.load 27 _) _ _ _ (some _) :: _) _ _); refine loadgB (K10) rfl rfl rfl ?_) | ((with_reducible show wpList _ _ _ (Oper.mk _ (Op.load 49 _) _ _ _ _ :: _) _ _); refine loadC (K11) rfl rfl rfl ?_) | ((with_reducible show wpList _ _ _ (Oper.mk _ (Op.load 49 _) _ _ _ (some _) :: _) _ _); refine loadgC (K11) rfl rfl rfl ?_) | ((with_reducible show wpList _ _ _ (Oper.mk _ (Op.store 27 _ _) _ _ _ _ :: _) _ _); refine storeB (KU0) rfl rfl rfl rfl ?_) | ((with_reducible show wpList _ _ _ (Oper.mk _ (Op.store 49 _ _) _ _ _ _ :: _) _ _); refine storeC (KV1) rfl rfl rfl rfl ?_))
        generalize (((w4.alloc (.cells (mk 16 (fun _ => 0)) 27)).alloc (.cells (mk 2 (fun _ => 0)) 49)).setRow w4.heap.size (mk 16 c)).setRow (w4.heap.size + 1) (mk 2 d) = w4a at *
        clear KU0 KV0 KV1
        refine (iTA.out _).mono ?_
        rintro e w5 ⟨rfl, hb⟩
        replace K3 := K3.below hb K3.lt
        replace K4 := K4.below hb K4.lt
        replace K6 := K6.below hb K6.lt
        replace K10 := K10.below hb K10.lt
        replace K11 := K11.below hb K11.lt
        replace HB : Hid (Below w.heap.size w w5) := HB.out.trans (hb.mono HB.out.size)
        clear hb
        replace K3 := K3.alloc (.cells (mk 16 (TB)) 27)
        replace K4 := K4.alloc (.cells (mk 16 (TB)) 27)
        replace K6 := K6.alloc (.cells (mk 16 (TB)) 27)
        replace K10 := K10.alloc (.cells (mk 16 (TB)) 27)
        replace K11 := K11.alloc (.cells (mk 16 (TB)) 27)
        have K12 := Blk.new w5 16 (TB) 27
        replace HB : Hid (Below w.heap.size w (w5.alloc (.cells (mk 16 (TB)) 27))) := HB.out.alloc HB.out.size _
        go_wp2_with (first | ((with_reducible show wpList _ _ _ (Oper.mk _ (Op.load 27 _) _ _ _ _ :: _) _ _); refine loadB (K10) rfl rfl rfl ?_) | ((with_reducible show wpList _ _ _ (Oper.mk _ (Op.load 27 _) _ _ _ (some _) :: _) _ _); refine loadgB (K10) rfl rfl rfl ?_) | ((with_reducible show wpList _ _ _ (Oper.mk _ (Op.load 49 _) _ _ _ _ :: _) _ _); refine loadC (K11) rfl rfl rfl ?_) | ((with_reducible show wpList _ _ _ (Oper.mk _ (Op.load 49 _) _ _ _ (some _) :: _) _ _); refine loadgC (K11) rfl rfl rfl ?_))
        generalize w5.alloc (.cells (mk 16 (TB)) 27) = w5a at *
        refine (sTA.out _).mono ?_
        rintro e w6 ⟨rfl, hb⟩
        replace K3 := K3.below hb K3.lt
        replace K4 := K4.below hb K4.lt
        replace K6 := K6.below hb K6.lt
        replace K10 := K10.below hb K10.lt
        replace K11 := K11.below hb K11.lt
        replace K12 := K12.below hb K12.lt
        replace HB : Hid (Below w.heap.size w w6) := HB.out.trans (hb.mono HB.out.size)
        clear hb
        replace K3 := K3.alloc (.cells (mk 16 (TB)) 27)
        replace K4 := K4.alloc (.cells (mk 16 (TB)) 27)
        replace K6 := K6.alloc (.cells (mk 16 (TB)) 27)
        replace K10 := K10.alloc (.cells (mk 16 (TB)) 27)
        replace K11 := K11.alloc (.cells (mk 16 (TB)) 27)
        replace K12 := K12.alloc (.cells (mk 16 (TB)) 27)
        have K15 := Blk.new w6 16 (TB) 27
        replace HB : Hid (Below w.heap.size w (w6.alloc (.cells (mk 16 (TB)) 27))) := HB.out.alloc HB.out.size _
        go_wp2_with (first | ((with_reducible show wpList _ _ _ (Oper.mk _ (Op.load 27 _) _ _ _ _ :: _) _ _); refine loadB (K12) rfl rfl rfl ?_) | ((with_reducible show wpList _ _ _ (Oper.mk _ (Op.load 27 _) _ _ _ (some _) :: _) _ _); refine loadgB (K12) rfl rfl rfl ?_) | ((with_reducible show wpList _ _ _ (Oper.mk _ (Op.load 27 _) _ _ _ _ :: _) _ _); refine loadB (K15) rfl rfl rfl ?_) | ((with_reducible show wpList _ _ _ (Oper.mk _ (Op.load 27 _) _ _ _ (some _) :: _) _ _); refine loadgB (K15) rfl rfl rfl ?_) | ((with_reducible show wpList _ _ _ (Oper.mk _ (Op.load 27 _) _ _ _ _ :: _) _ _); refine loadB (K3) rfl rfl rfl ?_) | ((with_reducible show wpList _ _ _ (Oper.mk _ (Op.load 27 _) _ _ _ (some _) :: _) _ _); refine loadgB (K3) rfl rfl rfl ?_))
        generalize w6.alloc (.cells (mk 16 (TB)) 27) = w6a at *
        refine (iEC.out _).mono ?_
        rintro e w7 ⟨ge, ce, rfl, RE, hb⟩
        replace K3 := K3.below hb K3.lt
        replace K4 := K4.below hb K4.lt
        replace K6 := K6.below hb K6.lt
        replace K10 := K10.below hb K10.lt
        replace K11 := K11.below hb K11.lt
        replace K12 := K12.below hb K12.lt
        replace K15 := K15.below hb K15.lt
        replace HB : Hid (Below w.heap.size w w7) := HB.out.trans (hb.mono HB.out.size)
        replace RE := Lib.hid RE
        clear hb
        clear K15
        go_wp2_with (first | ((with_reducible show wpList _ _ _ (Oper.mk _ (Op.load 27 _) _ _ _ _ :: _) _ _); refine loadB (K3) rfl rfl rfl ?_) | ((with_reducible show wpList _ _ _ (Oper.mk _ (Op.load 27 _) _ _ _ (some _) :: _) _ _); refine loadgB (K3) rfl rfl rfl ?_))
        refine (sEC.out _).mono ?_
        rintro e w8 ⟨ge2, ce2, rfl, QE, hb⟩
        replace K3 := K3.below hb K3.lt
        replace K4 := K4.below hb K4.lt
        replace K6 := K6.below hb K6.lt
        replace K10 := K10.below hb K10.lt
        replace K11 := K11.below hb K11.lt
        replace K12 := K12.below hb K12.lt
        replace RE := Lib.hid (RE.out.below hb)
        replace HB : Hid (Below w.heap.size w w8) := HB.out.trans (hb.mono HB.out.size)
        replace QE := Lib.hid QE
        clear hb
        go_wp2_with fail
        refine (rCells_b _ _ nE hE _ RE.out QE.out (by omega)).mono ?_
        rintro e w9 ⟨rfl, hb⟩
        replace K3 := K3.below hb K3.lt
        replace K4 := K4.below hb K4.lt
        replace K6 := K6.below hb K6.lt
        replace K10 := K10.below hb K10.lt
        replace K11 := K11.below hb K11.lt
        replace K12 := K12.below hb K12.lt
        replace RE := Lib.hid (RE.out.below hb)
        replace QE := Lib.hid (QE.out.below hb)
        replace HB : Hid (Below w.heap.size w w9) := HB.out.trans (hb.mono HB.out.size)
        clear hb
        clear QE RE
        go_wp2_with (first | ((with_reducible show wpList _ _ _ (Oper.mk _ (Op.load 27 _) _ _ _ _ :: _) _ _); refine loadB (K3) rfl rfl rfl ?_) | ((with_reducible show wpList _ _ _ (Oper.mk _ (Op.load 27 _) _ _ _ (some _) :: _) _ _); refine loadgB (K3) rfl rfl rfl ?_))
        refine (iCT.out _).mono ?_
        rintro e w10 ⟨rfl, hb⟩
        replace K3 := K3.below hb K3.lt
        replace K4 := K4.below hb K4.lt
        replace K6 := K6.below hb K6.lt
        replace K10 := K10.below hb K10.lt
        replace K11 := K11.below hb K11.lt
        replace K12 := K12.below hb K12.lt
        replace HB : Hid (Below w.heap.size w w10) := HB.out.trans (hb.mono HB.out.size)
        clear hb
        replace K3 := K3.alloc (.cells (mk 18 (CN)) 60)
        replace K4 := K4.alloc (.cells (mk 18 (CN)) 60)
        replace K6 := K6.alloc (.cells (mk 18 (CN)) 60)
        replace K10 := K10.alloc (.cells (mk 18 (CN)) 60)
        replace K11 := K11.alloc (.cells (mk 18 (CN)) 60)
        replace K12 := K12.alloc (.cells (mk 18 (CN)) 60)
        have K22 := Blk.new w10 18 (CN) 60
        replace HB : Hid (Below w.heap.size w (w10.alloc (.cells (mk 18 (CN)) 60))) := HB.out.alloc HB.out.size _
        go_wp2_with (first | ((with_reducible show wpList _ _ _ (Oper.mk _ (Op.load 27 _) _ _ _ _ :: _) _ _); refine loadB (K3) rfl rfl rfl ?_) | ((with_reducible show wpList _ _ _ (Oper.mk _ (Op.load 27 _) _ _ _ (some _) :: _) _ _); refine loadgB (K3) rfl rfl rfl ?_))
        generalize w10.alloc (.cells (mk 18 (CN)) 60) = w10a at *
        refine (sCT.out _).mono ?_
        rintro e w11 ⟨rfl, hb⟩
        replace K3 := K3.below hb K3.lt
        replace K4 := K4.below hb K4.lt
        replace K6 := K6.below hb K6.lt
        replace K10 := K10.below hb K10.lt
        replace K11 := K11.below hb K11.lt
        replace K12 := K12.below hb K12.lt
        replace K22 := K22.below hb K22.lt
        replace HB : Hid (Below w.heap.size w w11) := HB.out.trans (hb.mono HB.out.size)
        clear hb
        replace K3 := K3.alloc (.cells (mk 18 (CN)) 60)
        replace K4 := K4.alloc (.cells (mk 18 (CN)) 60)
        replace K6 := K6.alloc (.cells (mk 18 (CN)) 60)
        replace K10 := K10.alloc (.cells (mk 18 (CN)) 60)
        replace K11 := K11.alloc (.cells (mk 18 (CN)) 60)
        replace K12 := K12.alloc (.cells (mk 18 (CN)) 60)
        replace K22 := K22.alloc (.cells (mk 18 (CN)) 60)
        have K24 := Blk.new w11 18 (CN) 60
        replace HB : Hid (Below w.heap.size w (w11.alloc (.cells (mk 18 (CN)) 60))) := HB.out.alloc HB.out.size _
        have c22 := K22.cell (i := 0) (by omega)
        go_wp2_with (first | ((with_reducible show wpList _ _ _ (Oper.mk _ (Op.load 60 _) _ _ _ _ :: _) _ _); refine loadN (K22) rfl rfl rfl ?_) | ((with_reducible show wpList _ _ _ (Oper.mk _ (Op.load 60 _) _ _ _ _ :: _) _ _); refine loadN (K24) rfl rfl rfl ?_) | ((with_reducible show wpList _ _ _ (Oper.mk _ (Op.load 27 _) _ _ _ _ :: _) _ _); refine loadB (K3) rfl rfl rfl ?_) | ((with_reducible show wpList _ _ _ (Oper.mk _ (Op.load 27 _) _ _ _ (some _) :: _) _ _); refine loadgB (K3) rfl rfl rfl ?_))
        clear c22
        generalize w11.alloc (.cells (mk 18 (CN)) 60) = w11a at *
        refine (iHI.out _).mono ?_
        rintro e w12 ⟨rfl, hb⟩
        replace K3 := K3.below hb K3.lt
        replace K4 := K4.below hb K4.lt
        replace K6 := K6.below hb K6.lt
        replace K10 := K10.below hb K10.lt
        replace K11 := K11.below hb K11.lt
        replace K12 := K12.below hb K12.lt
        replace K22 := K22.below hb K22.lt
        replace K24 := K24.below hb K24.lt
        replace HB : Hid (Below w.heap.size w w12) := HB.out.trans (hb.mono HB.out.size)
        clear hb
        replace K3 := K3.alloc (.cells (mk 2 (HC)) 49)
        replace K4 := K4.alloc (.cells (mk 2 (HC)) 49)
        replace K6 := K6.alloc (.cells (mk 2 (HC)) 49)
        replace K10 := K10.alloc (.cells (mk 2 (HC)) 49)
        replace K11 := K11.alloc (.cells (mk 2 (HC)) 49)
        replace K12 := K12.alloc (.cells (mk 2 (HC)) 49)
        replace K22 := K22.alloc (.cells (mk 2 (HC)) 49)
        replace K24 := K24.alloc (.cells (mk 2 (HC)) 49)
        have K27 := Blk.new w12 2 (HC) 49
        replace HB : Hid (Below w.heap.size w (w12.alloc (.cells (mk 2 (HC)) 49))) := HB.out.alloc HB.out.size _
        clear K24
        go_wp2_with (first | ((with_reducible show wpList _ _ _ (Oper.mk _ (Op.load 27 _) _ _ _ _ :: _) _ _); refine loadB (K3) rfl rfl rfl ?_) | ((with_reducible show wpList _ _ _ (Oper.mk _ (Op.load 27 _) _ _ _ (some _) :: _) _ _); refine loadgB (K3) rfl rfl rfl ?_))
        generalize w12.alloc (.cells (mk 2 (HC)) 49) = w12a at *
        refine (sHI.out _).mono ?_
        rintro e w13 ⟨rfl, hb⟩
        replace K3 := K3.below hb K3.lt
        replace K4 := K4.below hb K4.lt
        replace K6 := K6.below hb K6.lt
        replace K10 := K10.below hb K10.lt
        replace K11 := K11.below hb K11.lt
        replace K12 := K12.below hb K12.lt
        replace K22 := K22.below hb K22.lt
        replace K27 := K27.below hb K27.lt
        replace HB : Hid (Below w.heap.size w w13) := HB.out.trans (hb.mono HB.out.size)
        clear hb
        replace K3 := K3.alloc (.cells (mk 2 (HC)) 49)
        replace K4 := K4.alloc (.cells (mk 2 (HC)) 49)
        replace K6 := K6.alloc (.cells (mk 2 (HC)) 49)
        replace K10 := K10.alloc (.cells (mk 2 (HC)) 49)
        replace K11 := K11.alloc (.cells (mk 2 (HC)) 49)
        replace K12 := K12.alloc (.cells (mk 2 (HC)) 49)
        replace K22 := K22.alloc (.cells (mk 2 (HC)) 49)
        replace K27 := K27.alloc (.cells (mk 2 (HC)) 49)
        have K30 := Blk.new w13 2 (HC) 49
        replace HB : Hid (Below w.heap.size w (w13.alloc (.cells (mk 2 (HC)) 49))) := HB.out.alloc HB.out.size _
        go_wp2_with (first | ((with_reducible show wpList _ _ _ (Oper.mk _ (Op.load 49 _) _ _ _ _ :: _) _ _); refine loadC (K27) rfl rfl rfl ?_) | ((with_reducible show wpList _ _ _ (Oper.mk _ (Op.load 49 _) _ _ _ (some _) :: _) _ _); refine loadgC (K27) rfl rfl rfl ?_) | ((with_reducible show wpList _ _ _ (Oper.mk _ (Op.load 49 _) _ _ _ _ :: _) _ _); refine loadC (K30) rfl rfl rfl ?_) | ((with_reducible show wpList _ _ _ (Oper.mk _ (Op.load 49 _) _ _ _ (some _) :: _) _ _); refine loadgC (K30) rfl rfl rfl ?_))
        generalize w13.alloc (.cells (mk 2 (HC)) 49) = w13a at *
        refine (drawLineOf_any a0 len0 cap0 _ hl (HR.out.code.later HB.out)).mono ?_
        rintro e w14 ⟨e0, k0, i0, rfl, hb⟩
        replace K3 := K3.below hb K3.lt
        replace K4 := K4.below hb K4.lt
        replace K6 := K6.below hb K6.lt
        replace K10 := K10.below hb K10.lt
        replace K11 := K11.below hb K11.lt
        replace K12 := K12.below hb K12.lt
        replace K22 := K22.below hb K22.lt
        replace K27 := K27.below hb K27.lt
        replace K30 := K30.below hb K30.lt
        replace HB : Hid (Below w.heap.size w w14) := HB.out.trans (hb.mono HB.out.size)
        clear hb
        replace K3 := K3.alloc (.cells (mk 16 (e0)) 27)
        replace K4 := K4.alloc (.cells (mk 16 (e0)) 27)
        replace K6 := K6.alloc (.cells (mk 16 (e0)) 27)
        replace K10 := K10.alloc (.cells (mk 16 (e0)) 27)
        replace K11 := K11.alloc (.cells (mk 16 (e0)) 27)
        replace K12 := K12.alloc (.cells (mk 16 (e0)) 27)
        replace K22 := K22.alloc (.cells (mk 16 (e0)) 27)
        replace K27 := K27.alloc (.cells (mk 16 (e0)) 27)
        replace K30 := K30.alloc (.cells (mk 16 (e0)) 27)
        have K32 := Blk.new w14 16 (e0) 27
        replace HB : Hid (Below w.heap.size w (w14.alloc (.cells (mk 16 (e0)) 27))) := HB.out.alloc HB.out.size _
        clear K30
        obtain ⟨LI, hLI⟩ : ∃ F, F = lineR e0 k0 i0 := ⟨_, rfl⟩
        obtain ⟨LK, hLK⟩ : ∃ F, F = lineO e0 k0 i0 := ⟨_, rfl⟩
        have iLI : Hid (∀ W, Calls Try.prog 47 #[.agg (mk 16 e0), .int .i64 k0, .int .i64 i0] W fun e w' => e = .returned (.tuple #[.agg (mk 4 LI), .bool LK]) ∧ Below W.heap.size W w') := by show ∀ W, _; rw [hLI, hLK]; exact implLineOf_any e0 k0 i0
        have sLN : Hid (∀ W, Calls Try.prog 48 #[.agg (mk 16 e0), .int .i64 k0, .int .i64 i0] W fun e w' => e = .returned (.tuple #[.agg (mk 4 LI), .bool LK]) ∧ Below W.heap.size W w') := by show ∀ W, _; rw [hLI, hLK]; exact specLineOf_any e0 k0 i0
        clear hLI hLK
        have sLI : sameR LI LI = true := sameR_iff.2 fun _ _ => rfl
        go_wp2_with (first | ((with_reducible show wpList _ _ _ (Oper.mk _ (Op.load 27 _) _ _ _ _ :: _) _ _); refine loadB (K32) rfl rfl rfl ?_) | ((with_reducible show wpList _ _ _ (Oper.mk _ (Op.load 27 _) _ _ _ (some _) :: _) _ _); refine loadgB (K32) rfl rfl rfl ?_))
        generalize w14.alloc (.cells (mk 16 (e0)) 27) = w14a at *
        refine (iLI.out _).mono ?_
        rintro e w15 ⟨rfl, hb⟩
        replace K3 := K3.below hb K3.lt
        replace K4 := K4.below hb K4.lt
        replace K6 := K6.below hb K6.lt
        replace K10 := K10.below hb K10.lt
        replace K11 := K11.below hb K11.lt
        replace K12 := K12.below hb K12.lt
        replace K22 := K22.below hb K22.lt
        replace K27 := K27.below hb K27.lt
        replace K32 := K32.below hb K32.lt
        replace HB : Hid (Below w.heap.size w w15) := HB.out.trans (hb.mono HB.out.size)
        clear hb
        replace K3 := K3.alloc (.cells (mk 4 (LI)) 24)
        replace K4 := K4.alloc (.cells (mk 4 (LI)) 24)
        replace K6 := K6.alloc (.cells (mk 4 (LI)) 24)
        replace K10 := K10.alloc (.cells (mk 4 (LI)) 24)
        replace K11 := K11.alloc (.cells (mk 4 (LI)) 24)
        replace K12 := K12.alloc (.cells (mk 4 (LI)) 24)
        replace K22 := K22.alloc (.cells (mk 4 (LI)) 24)
        replace K27 := K27.alloc (.cells (mk 4 (LI)) 24)
        replace K32 := K32.alloc (.cells (mk 4 (LI)) 24)
        have K35 := Blk.new w15 4 (LI) 24
        replace HB : Hid (Below w.heap.size w (w15.alloc (.cells (mk 4 (LI)) 24))) := HB.out.alloc HB.out.size _
        go_wp2_with (first | ((with_reducible show wpList _ _ _ (Oper.mk _ (Op.load 27 _) _ _ _ _ :: _) _ _); refine loadB (K32) rfl rfl rfl ?_) | ((with_reducible show wpList _ _ _ (Oper.mk _ (Op.load 27 _) _ _ _ (some _) :: _) _ _); refine loadgB (K32) rfl rfl rfl ?_))
        generalize w15.alloc (.cells (mk 4 (LI)) 24) = w15a at *
        refine (sLN.out _).mono ?_
        rintro e w16 ⟨rfl, hb⟩
        replace K3 := K3.below hb K3.lt
        replace K4 := K4.below hb K4.lt
        replace K6 := K6.below hb K6.lt
        replace K10 := K10.below hb K10.lt
        replace K11 := K11.below hb K11.lt
        replace K12 := K12.below hb K12.lt
        replace K22 := K22.below hb K22.lt
        replace K27 := K27.below hb K27.lt
        replace K32 := K32.below hb K32.lt
        replace K35 := K35.below hb K35.lt
        replace HB : Hid (Below w.heap.size w w16) := HB.out.trans (hb.mono HB.out.size)
        clear hb
        replace K3 := K3.alloc (.cells (mk 4 (LI)) 24)
        replace K4 := K4.alloc (.cells (mk 4 (LI)) 24)
        replace K6 := K6.alloc (.cells (mk 4 (LI)) 24)
        replace K10 := K10.alloc (.cells (mk 4 (LI)) 24)
        replace K11 := K11.alloc (.cells (mk 4 (LI)) 24)
        replace K12 := K12.alloc (.cells (mk 4 (LI)) 24)
        replace K22 := K22.alloc (.cells (mk 4 (LI)) 24)
        replace K27 := K27.alloc (.cells (mk 4 (LI)) 24)
        replace K32 := K32.alloc (.cells (mk 4 (LI)) 24)
        replace K35 := K35.alloc (.cells (mk 4 (LI)) 24)
        have K37 := Blk.new w16 4 (LI) 24
        replace HB : Hid (Below w.heap.size w (w16.alloc (.cells (mk 4 (LI)) 24))) := HB.out.alloc HB.out.size _
        clear K32
        go_wp2_with (first | ((with_reducible show wpList _ _ _ (Oper.mk _ (Op.load 24 _) _ _ _ _ :: _) _ _); refine loadR (K35) rfl rfl rfl ?_) | ((with_reducible show wpList _ _ _ (Oper.mk _ (Op.load 24 _) _ _ _ (some _) :: _) _ _); refine loadgR (K35) rfl rfl rfl ?_) | ((with_reducible show wpList _ _ _ (Oper.mk _ (Op.load 24 _) _ _ _ _ :: _) _ _); refine loadR (K37) rfl rfl rfl ?_) | ((with_reducible show wpList _ _ _ (Oper.mk _ (Op.load 24 _) _ _ _ (some _) :: _) _ _); refine loadgR (K37) rfl rfl rfl ?_))
        generalize w16.alloc (.cells (mk 4 (LI)) 24) = w16a at *
        refine (drawLessBoard_any a0 len0 cap0 _ hl (HR.out.code.later HB.out)).mono ?_
        rintro e w17 ⟨p, q, rfl, hb⟩
        replace K3 := K3.below hb K3.lt
        replace K4 := K4.below hb K4.lt
        replace K6 := K6.below hb K6.lt
        replace K10 := K10.below hb K10.lt
        replace K11 := K11.below hb K11.lt
        replace K12 := K12.below hb K12.lt
        replace K22 := K22.below hb K22.lt
        replace K27 := K27.below hb K27.lt
        replace K35 := K35.below hb K35.lt
        replace K37 := K37.below hb K37.lt
        replace HB : Hid (Below w.heap.size w w17) := HB.out.trans (hb.mono HB.out.size)
        clear hb
        have KU0 := (Blk.new w17 16 (fun _ => 0) 27).alloc (.cells (mk 16 (fun _ => 0)) 27)
        have KV0 := Blk.new (w17.alloc (.cells (mk 16 (fun _ => 0)) 27)) 16 (fun _ => 0) 27
        have hz1 : (w17.alloc (.cells (mk 16 (fun _ => 0)) 27)).heap.size = w17.heap.size + 1 := by simp
        rw [hz1] at KV0
        have hb : Below w17.heap.size w17 ((((w17.alloc (.cells (mk 16 (fun _ => 0)) 27)).alloc (.cells (mk 16 (fun _ => 0)) 27)).setRow w17.heap.size (mk 16 p)).setRow (w17.heap.size + 1) (mk 16 q)) := below_setRow (below_setRow (((Below.refl _ w17).alloc (Nat.le_refl _) _).alloc (by simp) _) (Nat.le_refl _) _) (by omega) _
        have KV1 := KV0.rowOther w17.heap.size (mk 16 p) (by omega)
        have K39 := (KU0.row 16 p).rowOther (w17.heap.size + 1) (mk 16 q) (by omega)
        have K40 := KV1.row 16 q
        clear hz1
        replace K3 := K3.below hb K3.lt
        replace K4 := K4.below hb K4.lt
        replace K6 := K6.below hb K6.lt
        replace K10 := K10.below hb K10.lt
        replace K11 := K11.below hb K11.lt
        replace K12 := K12.below hb K12.lt
        replace K22 := K22.below hb K22.lt
        replace K27 := K27.below hb K27.lt
        replace K35 := K35.below hb K35.lt
        replace K37 := K37.below hb K37.lt
        replace HB : Hid (Below w.heap.size w ((((w17.alloc (.cells (mk 16 (fun _ => 0)) 27)).alloc (.cells (mk 16 (fun _ => 0)) 27)).setRow w17.heap.size (mk 16 p)).setRow (w17.heap.size + 1) (mk 16 q))) := HB.out.trans (hb.mono HB.out.size)
        clear hb
        clear K35 K37
        obtain ⟨LB, hLB⟩ : ∃ F, F = lessR p q := ⟨_, rfl⟩
        obtain ⟨LO, hLO⟩ : ∃ F, F = lessO p q := ⟨_, rfl⟩
        have iLE : Hid (∀ W, Calls Try.prog 50 #[.agg (mk 16 p), .agg (mk 16 q)] W fun e w' => e = .returned (.tuple #[.bool LB, .bool LO]) ∧ Below W.heap.size W w') := by show ∀ W, _; rw [hLB, hLO]; exact implLess_any p q
        have sLE : Hid (∀ W, Calls Try.prog 51 #[.agg (mk 16 p), .agg (mk 16 q)] W fun e w' => e = .returned (.tuple #[.bool LB, .bool LO]) ∧ Below W.heap.size W w') := by show ∀ W, _; rw [hLB, hLO]; exact specLess_any p q
        have HLB := Lib.hid hLB
        have HLO := Lib.hid hLO
        clear hLB hLO
        go_wp2_with (first | ((with_reducible show wpList _ _ _ (Oper.mk _ (Op.load 27 _) _ _ _ _ :: _) _ _); refine loadB (K39) rfl rfl rfl ?_) | ((with_reducible show wpList _ _ _ (Oper.mk _ (Op.load 27 _) _ _ _ (some _) :: _) _ _); refine loadgB (K39) rfl rfl rfl ?_) | ((with_reducible show wpList _ _ _ (Oper.mk _ (Op.load 27 _) _ _ _ _ :: _) _ _); refine loadB (K40) rfl rfl rfl ?_) | ((with_reducible show wpList _ _ _ (Oper.mk _ (Op.load 27 _) _ _ _ (some _) :: _) _ _); refine loadgB (K40) rfl rfl rfl ?_) | ((with_reducible show wpList _ _ _ (Oper.mk _ (Op.store 27 _ _) _ _ _ _ :: _) _ _); refine storeB (KU0) rfl rfl rfl rfl ?_) | ((with_reducible show wpList _ _ _ (Oper.mk _ (Op.store 27 _ _) _ _ _ _ :: _) _ _); refine storeB (KV1) rfl rfl rfl rfl ?_))
        generalize (((w17.alloc (.cells (mk 16 (fun _ => 0)) 27)).alloc (.cells (mk 16 (fun _ => 0)) 27)).setRow w17.heap.size (mk 16 p)).setRow (w17.heap.size + 1) (mk 16 q) = w17a at *
        clear KU0 KV0 KV1
        refine (iLE.out _).mono ?_
        rintro e w18 ⟨rfl, hb⟩
        replace K3 := K3.below hb K3.lt
        replace K4 := K4.below hb K4.lt
        replace K6 := K6.below hb K6.lt
        replace K10 := K10.below hb K10.lt
        replace K11 := K11.below hb K11.lt
        replace K12 := K12.below hb K12.lt
        replace K22 := K22.below hb K22.lt
        replace K27 := K27.below hb K27.lt
        replace K39 := K39.below hb K39.lt
        replace K40 := K40.below hb K40.lt
        replace HB : Hid (Below w.heap.size w w18) := HB.out.trans (hb.mono HB.out.size)
        clear hb
        go_wp2_with (first | ((with_reducible show wpList _ _ _ (Oper.mk _ (Op.load 27 _) _ _ _ _ :: _) _ _); refine loadB (K39) rfl rfl rfl ?_) | ((with_reducible show wpList _ _ _ (Oper.mk _ (Op.load 27 _) _ _ _ (some _) :: _) _ _); refine loadgB (K39) rfl rfl rfl ?_) | ((with_reducible show wpList _ _ _ (Oper.mk _ (Op.load 27 _) _ _ _ _ :: _) _ _); refine loadB (K40) rfl rfl rfl ?_) | ((with_reducible show wpList _ _ _ (Oper.mk _ (Op.load 27 _) _ _ _ (some _) :: _) _ _); refine loadgB (K40) rfl rfl rfl ?_))
        refine (sLE.out _).mono ?_
        rintro e w19 ⟨rfl, hb⟩
        replace K3 := K3.below hb K3.lt
        replace K4 := K4.below hb K4.lt
        replace K6 := K6.below hb K6.lt
        replace K10 := K10.below hb K10.lt
        replace K11 := K11.below hb K11.lt
        replace K12 := K12.below hb K12.lt
        replace K22 := K22.below hb K22.lt
        replace K27 := K27.below hb K27.lt
        replace K39 := K39.below hb K39.lt
        replace K40 := K40.below hb K40.lt
        replace HB : Hid (Below w.heap.size w w19) := HB.out.trans (hb.mono HB.out.size)
        clear hb
        go_wp2_with (first | ((with_reducible show wpList _ _ _ (Oper.mk _ (Op.load 27 _) _ _ _ _ :: _) _ _); refine loadB (K3) rfl rfl rfl ?_) | ((with_reducible show wpList _ _ _ (Oper.mk _ (Op.load 27 _) _ _ _ (some _) :: _) _ _); refine loadgB (K3) rfl rfl rfl ?_))
        refine (iTX.out _).mono ?_
        rintro e w20 ⟨rfl, hb⟩
        replace K3 := K3.below hb K3.lt
        replace K4 := K4.below hb K4.lt
        replace K6 := K6.below hb K6.lt
        replace K10 := K10.below hb K10.lt
        replace K11 := K11.below hb K11.lt
        replace K12 := K12.below hb K12.lt
        replace K22 := K22.below hb K22.lt
        replace K27 := K27.below hb K27.lt
        replace K39 := K39.below hb K39.lt
        replace K40 := K40.below hb K40.lt
        replace HB : Hid (Below w.heap.size w w20) := HB.out.trans (hb.mono HB.out.size)
        clear hb
        go_wp2_with (first | ((with_reducible show wpList _ _ _ (Oper.mk _ (Op.load 27 _) _ _ _ _ :: _) _ _); refine loadB (K3) rfl rfl rfl ?_) | ((with_reducible show wpList _ _ _ (Oper.mk _ (Op.load 27 _) _ _ _ (some _) :: _) _ _); refine loadgB (K3) rfl rfl rfl ?_))
        refine (sTX.out _).mono ?_
        rintro e w21 ⟨rfl, hb⟩
        replace K3 := K3.below hb K3.lt
        replace K4 := K4.below hb K4.lt
        replace K6 := K6.below hb K6.lt
        replace K10 := K10.below hb K10.lt
        replace K11 := K11.below hb K11.lt
        replace K12 := K12.below hb K12.lt
        replace K22 := K22.below hb K22.lt
        replace K27 := K27.below hb K27.lt
        replace K39 := K39.below hb K39.lt
        replace K40 := K40.below hb K40.lt
        replace HB : Hid (Below w.heap.size w w21) := HB.out.trans (hb.mono HB.out.size)
        clear hb
        go_wp2_with fail
        refine (drawParseBoard_any a0 len0 cap0 _ hl (HR.out.code.later HB.out)).mono ?_
        rintro e w22 ⟨s, _, rfl, hb⟩
        replace K3 := K3.below hb K3.lt
        replace K4 := K4.below hb K4.lt
        replace K6 := K6.below hb K6.lt
        replace K10 := K10.below hb K10.lt
        replace K11 := K11.below hb K11.lt
        replace K12 := K12.below hb K12.lt
        replace K22 := K22.below hb K22.lt
        replace K27 := K27.below hb K27.lt
        replace K39 := K39.below hb K39.lt
        replace K40 := K40.below hb K40.lt
        replace HB : Hid (Below w.heap.size w w22) := HB.out.trans (hb.mono HB.out.size)
        clear hb
        obtain ⟨PR, hPR⟩ : ∃ F, F = parR s := ⟨_, rfl⟩
        obtain ⟨PK, hPK⟩ : ∃ F, F = parO s := ⟨_, rfl⟩
        have iPA : Hid (∀ W, Calls Try.prog 55 #[.string s] W fun e w' => e = .returned (.tuple #[.agg (mk 16 PR), .bool PK]) ∧ Below W.heap.size W w') := by show ∀ W, _; rw [hPR, hPK]; exact implParse_any s
        have sPA : Hid (∀ W, Calls Try.prog 56 #[.string s] W fun e w' => e = .returned (.tuple #[.agg (mk 16 PR), .bool PK]) ∧ Below W.heap.size W w') := by show ∀ W, _; rw [hPR, hPK]; exact specParse_any s
        clear hPR hPK
        have sPR : sameB PR PR = true := sameB_iff.2 fun _ _ => rfl
        go_wp2_with fail
        refine (iPA.out _).mono ?_
        rintro e w23 ⟨rfl, hb⟩
        replace K3 := K3.below hb K3.lt
        replace K4 := K4.below hb K4.lt
        replace K6 := K6.below hb K6.lt
        replace K10 := K10.below hb K10.lt
        replace K11 := K11.below hb K11.lt
        replace K12 := K12.below hb K12.lt
        replace K22 := K22.below hb K22.lt
        replace K27 := K27.below hb K27.lt
        replace K39 := K39.below hb K39.lt
        replace K40 := K40.below hb K40.lt
        replace HB : Hid (Below w.heap.size w w23) := HB.out.trans (hb.mono HB.out.size)
        clear hb
        replace K3 := K3.alloc (.cells (mk 16 (PR)) 27)
        replace K4 := K4.alloc (.cells (mk 16 (PR)) 27)
        replace K6 := K6.alloc (.cells (mk 16 (PR)) 27)
        replace K10 := K10.alloc (.cells (mk 16 (PR)) 27)
        replace K11 := K11.alloc (.cells (mk 16 (PR)) 27)
        replace K12 := K12.alloc (.cells (mk 16 (PR)) 27)
        replace K22 := K22.alloc (.cells (mk 16 (PR)) 27)
        replace K27 := K27.alloc (.cells (mk 16 (PR)) 27)
        replace K39 := K39.alloc (.cells (mk 16 (PR)) 27)
        replace K40 := K40.alloc (.cells (mk 16 (PR)) 27)
        have K50 := Blk.new w23 16 (PR) 27
        replace HB : Hid (Below w.heap.size w (w23.alloc (.cells (mk 16 (PR)) 27))) := HB.out.alloc HB.out.size _
        go_wp2_with fail
        generalize w23.alloc (.cells (mk 16 (PR)) 27) = w23a at *
        refine (sPA.out _).mono ?_
        rintro e w24 ⟨rfl, hb⟩
        replace K3 := K3.below hb K3.lt
        replace K4 := K4.below hb K4.lt
        replace K6 := K6.below hb K6.lt
        replace K10 := K10.below hb K10.lt
        replace K11 := K11.below hb K11.lt
        replace K12 := K12.below hb K12.lt
        replace K22 := K22.below hb K22.lt
        replace K27 := K27.below hb K27.lt
        replace K39 := K39.below hb K39.lt
        replace K40 := K40.below hb K40.lt
        replace K50 := K50.below hb K50.lt
        replace HB : Hid (Below w.heap.size w w24) := HB.out.trans (hb.mono HB.out.size)
        clear hb
        replace K3 := K3.alloc (.cells (mk 16 (PR)) 27)
        replace K4 := K4.alloc (.cells (mk 16 (PR)) 27)
        replace K6 := K6.alloc (.cells (mk 16 (PR)) 27)
        replace K10 := K10.alloc (.cells (mk 16 (PR)) 27)
        replace K11 := K11.alloc (.cells (mk 16 (PR)) 27)
        replace K12 := K12.alloc (.cells (mk 16 (PR)) 27)
        replace K22 := K22.alloc (.cells (mk 16 (PR)) 27)
        replace K27 := K27.alloc (.cells (mk 16 (PR)) 27)
        replace K39 := K39.alloc (.cells (mk 16 (PR)) 27)
        replace K40 := K40.alloc (.cells (mk 16 (PR)) 27)
        replace K50 := K50.alloc (.cells (mk 16 (PR)) 27)
        have K52 := Blk.new w24 16 (PR) 27
        replace HB : Hid (Below w.heap.size w (w24.alloc (.cells (mk 16 (PR)) 27))) := HB.out.alloc HB.out.size _
        clear iN
        have iE : ∀ (F G : Nat → Int) (W : World), (Op.equalIn 10000 27 (.agg (mk 16 F)) (.agg (mk 16 G))).run Try.prog W = .ok (sameB F G) W := eqB 9996
        go_upto_if 298 with (first | ((with_reducible show wpList _ _ _ (Oper.mk _ (Op.load 27 _) _ _ _ _ :: _) _ _); refine loadB (K50) rfl rfl rfl ?_) | ((with_reducible show wpList _ _ _ (Oper.mk _ (Op.load 27 _) _ _ _ (some _) :: _) _ _); refine loadgB (K50) rfl rfl rfl ?_) | ((with_reducible show wpList _ _ _ (Oper.mk _ (Op.load 27 _) _ _ _ _ :: _) _ _); refine loadB (K52) rfl rfl rfl ?_) | ((with_reducible show wpList _ _ _ (Oper.mk _ (Op.load 27 _) _ _ _ (some _) :: _) _ _); refine loadgB (K52) rfl rfl rfl ?_))
        clear iPU sPU iTA sTA iEC sEC iCT sCT iHI sHI iTX sTX iLI sLN iLE sLE iPA sPA sTB sLI sPR iNC iNN iNR eTX hn16
        try clear sPB
        generalize w24.alloc (.cells (mk 16 (PR)) 27) = w24a at *
        go_cut [] from 299 to 299 (fun wc => Blk wc (w1.heap.size) 16 f 27 ∧ Blk wc ((w1.heap.size + 1)) 2 g 49 ∧ Blk wc (w2.heap.size) 16 PB 27 ∧ Blk wc (w4.heap.size) 16 c 27 ∧ Blk wc ((w4.heap.size + 1)) 2 d 49 ∧ Blk wc (w5.heap.size) 16 TB 27 ∧ Blk wc (w10.heap.size) 18 CN 60 ∧ Blk wc (w12.heap.size) 2 HC 49 ∧ Below w.heap.size w wc)
        case first =>
          cases hO : LO with
          | false =>
            subst hO
            go_wp2_with (first | ((with_reducible show wpList _ _ _ (Oper.mk _ (Op.load 27 _) _ _ _ _ :: _) _ _); refine loadB (K50) rfl rfl rfl ?_) | ((with_reducible show wpList _ _ _ (Oper.mk _ (Op.load 27 _) _ _ _ (some _) :: _) _ _); refine loadgB (K50) rfl rfl rfl ?_) | ((with_reducible show wpList _ _ _ (Oper.mk _ (Op.load 27 _) _ _ _ _ :: _) _ _); refine loadB (K52) rfl rfl rfl ?_) | ((with_reducible show wpList _ _ _ (Oper.mk _ (Op.load 27 _) _ _ _ (some _) :: _) _ _); refine loadgB (K52) rfl rfl rfl ?_))
            go_meet
            case rel => exact ⟨K3, K4, K6, K10, K11, K12, K22, K27, HB.out⟩
          | true =>
            have hPQ := of_decide_eq_true (HLO.out.symm.trans hO)
            have hLBv : LB = lessB p q := by rw [HLB.out]; exact (less_yes hPQ.1 hPQ.2).1
            obtain ⟨LB2, hLB2⟩ : ∃ F, F = lessB q p := ⟨_, rfl⟩
            have iLE2 : Hid (∀ W, Calls Try.prog 50 #[.agg (mk 16 q), .agg (mk 16 p)] W fun e w' => e = .returned (.tuple #[.bool LB2, .bool true]) ∧ Below W.heap.size W w') := by show ∀ W, _; intro W; rw [hLB2]; have h9 := implLess_any q p W; obtain ⟨y1, y2⟩ := less_yes hPQ.2 hPQ.1; rw [y1, y2] at h9; exact h9
            have HTH := Lib.hid (less_three p q)
            rw [← hLBv, ← hLB2] at HTH
            clear hPQ hLBv hLB2
            subst hO
            clear HLB HLO
            go_wp2_with (first | ((with_reducible show wpList _ _ _ (Oper.mk _ (Op.load 27 _) _ _ _ _ :: _) _ _); refine loadB (K50) rfl rfl rfl ?_) | ((with_reducible show wpList _ _ _ (Oper.mk _ (Op.load 27 _) _ _ _ (some _) :: _) _ _); refine loadgB (K50) rfl rfl rfl ?_) | ((with_reducible show wpList _ _ _ (Oper.mk _ (Op.load 27 _) _ _ _ _ :: _) _ _); refine loadB (K52) rfl rfl rfl ?_) | ((with_reducible show wpList _ _ _ (Oper.mk _ (Op.load 27 _) _ _ _ (some _) :: _) _ _); refine loadgB (K52) rfl rfl rfl ?_) | ((with_reducible show wpList _ _ _ (Oper.mk _ (Op.load 27 _) _ _ _ _ :: _) _ _); refine loadB (K40) rfl rfl rfl ?_) | ((with_reducible show wpList _ _ _ (Oper.mk _ (Op.load 27 _) _ _ _ (some _) :: _) _ _); refine loadgB (K40) rfl rfl rfl ?_) | ((with_reducible show wpList _ _ _ (Oper.mk _ (Op.load 27 _) _ _ _ _ :: _) _ _); refine loadB (K39) rfl rfl rfl ?_) | ((with_reducible show wpList _ _ _ (Oper.mk _ (Op.load 27 _) _ _ _ (some _) :: _) _ _); refine loadgB (K39) rfl rfl rfl ?_))
            refine (iLE2.out _).mono ?_
            rintro e w25 ⟨rfl, hb⟩
            replace K3 := K3.below hb K3.lt
            replace K4 := K4.below hb K4.lt
            replace K6 := K6.below hb K6.lt
            replace K10 := K10.below hb K10.lt
            replace K11 := K11.below hb K11.lt
            replace K12 := K12.below hb K12.lt
            replace K22 := K22.below hb K22.lt
            replace K27 := K27.below hb K27.lt
            replace K39 := K39.below hb K39.lt
            replace K40 := K40.below hb K40.lt
            replace K50 := K50.below hb K50.lt
            replace K52 := K52.below hb K52.lt
            replace HB : Hid (Below w.heap.size w w25) := HB.out.trans (hb.mono HB.out.size)
            clear hb
            rcases HTH.out with ⟨q1, q2, q3⟩ | ⟨q1, q2, q3⟩ | ⟨q1, q2, q3⟩ <;> (
              subst q2 q3
              clear HTH
              go_wp2_with (first | ((with_reducible show wpList _ _ _ (Oper.mk _ (Op.load 27 _) _ _ _ _ :: _) _ _); refine loadB (K39) rfl rfl rfl ?_) | ((with_reducible show wpList _ _ _ (Oper.mk _ (Op.load 27 _) _ _ _ (some _) :: _) _ _); refine loadgB (K39) rfl rfl rfl ?_) | ((with_reducible show wpList _ _ _ (Oper.mk _ (Op.load 27 _) _ _ _ _ :: _) _ _); refine loadB (K40) rfl rfl rfl ?_) | ((with_reducible show wpList _ _ _ (Oper.mk _ (Op.load 27 _) _ _ _ (some _) :: _) _ _); refine loadgB (K40) rfl rfl rfl ?_))
              go_meet
              case rel => exact ⟨K3, K4, K6, K10, K11, K12, K22, K27, HB.out⟩)
        case rest =>
          clear K3 K4 K6 K10 K11 K12 K22 K27 HB
          obtain ⟨K3, K4, K6, K10, K11, K12, K22, K27, hb0⟩ := hcut
          have HB := Lib.hid hb0
          clear hb0
          clear HLB HLO
          go_upto_region 52 with fail
          go_cut [354] from 354 to 354 (fun s354 wc => s354 = .bool false ∧ Blk wc (w1.heap.size) 16 f 27 ∧ Blk wc ((w1.heap.size + 1)) 2 g 49 ∧ Blk wc (w2.heap.size) 16 PB 27 ∧ Blk wc (w4.heap.size) 16 c 27 ∧ Blk wc ((w4.heap.size + 1)) 2 d 49 ∧ Blk wc (w5.heap.size) 16 TB 27 ∧ Below w.heap.size w wc)
          case first =>
            go_quiet (fail)
            all_goals
              go_wp2_with fail
              go_meet
              case rel => exact ⟨rfl, K3.drewN _, K4.drewN _, K6.drewN _, K10.drewN _, K11.drewN _, K12.drewN _, below_drewN HB.out _⟩
          case rest =>
            clear K3 K4 K6 K10 K11 K12 K22 K27 HB
            obtain ⟨rfl, K3, K4, K6, K10, K11, K12, hb0⟩ := hcut
            have HB := Lib.hid hb0
            clear hb0
            go_upto_if 355 with fail
            go_cut [] from 356 to 356 (fun wc => Blk wc (w1.heap.size) 16 f 27 ∧ Blk wc ((w1.heap.size + 1)) 2 g 49 ∧ Blk wc (w2.heap.size) 16 PB 27 ∧ Below w.heap.size w wc)
            case first =>
              cases hO : TO with
              | false =>
                subst hO
                go_wp2_with fail
                go_meet
                case rel => exact ⟨K3, K4, K6, HB.out⟩
              | true =>
                have hTK := of_decide_eq_true (HTO.out.symm.trans hO)
                obtain ⟨hq1, hq2⟩ := put_take hTK
                obtain ⟨BP, hBP⟩ : ∃ F, F = putB (takeB c d) d (takeT c d) := ⟨_, rfl⟩
                have iPT : Hid (∀ W, Calls Try.prog 34 #[.agg (mk 16 TB), .agg (mk 2 d), .int .i64 TT] W fun e w' => e = .returned (.tuple #[.agg (mk 16 BP), .bool true]) ∧ Below W.heap.size W w') := by show ∀ W, _; intro W; rw [HTB.out, HTT.out, hBP]; have h9 := implPut_any (takeB c d) d (takeT c d) W; rw [hq1] at h9; exact h9
                have sBP : sameB BP c = true := by rw [hBP]; exact hq2
                clear hBP hq1 hq2 hTK
                subst hO
                clear HTB HTT HTO
                go_wp2_with (first | ((with_reducible show wpList _ _ _ (Oper.mk _ (Op.load 27 _) _ _ _ _ :: _) _ _); refine loadB (K12) rfl rfl rfl ?_) | ((with_reducible show wpList _ _ _ (Oper.mk _ (Op.load 27 _) _ _ _ (some _) :: _) _ _); refine loadgB (K12) rfl rfl rfl ?_) | ((with_reducible show wpList _ _ _ (Oper.mk _ (Op.load 49 _) _ _ _ _ :: _) _ _); refine loadC (K11) rfl rfl rfl ?_) | ((with_reducible show wpList _ _ _ (Oper.mk _ (Op.load 49 _) _ _ _ (some _) :: _) _ _); refine loadgC (K11) rfl rfl rfl ?_))
                refine (iPT.out _).mono ?_
                rintro e w25 ⟨rfl, hb⟩
                replace K3 := K3.below hb K3.lt
                replace K4 := K4.below hb K4.lt
                replace K6 := K6.below hb K6.lt
                replace K10 := K10.below hb K10.lt
                replace K11 := K11.below hb K11.lt
                replace K12 := K12.below hb K12.lt
                replace HB : Hid (Below w.heap.size w w25) := HB.out.trans (hb.mono HB.out.size)
                clear hb
                replace K3 := K3.alloc (.cells (mk 16 (BP)) 27)
                replace K4 := K4.alloc (.cells (mk 16 (BP)) 27)
                replace K6 := K6.alloc (.cells (mk 16 (BP)) 27)
                replace K10 := K10.alloc (.cells (mk 16 (BP)) 27)
                replace K11 := K11.alloc (.cells (mk 16 (BP)) 27)
                replace K12 := K12.alloc (.cells (mk 16 (BP)) 27)
                have K58 := Blk.new w25 16 (BP) 27
                replace HB : Hid (Below w.heap.size w (w25.alloc (.cells (mk 16 (BP)) 27))) := HB.out.alloc HB.out.size _
                go_wp2_with (first | ((with_reducible show wpList _ _ _ (Oper.mk _ (Op.load 27 _) _ _ _ _ :: _) _ _); refine loadB (K58) rfl rfl rfl ?_) | ((with_reducible show wpList _ _ _ (Oper.mk _ (Op.load 27 _) _ _ _ (some _) :: _) _ _); refine loadgB (K58) rfl rfl rfl ?_) | ((with_reducible show wpList _ _ _ (Oper.mk _ (Op.load 27 _) _ _ _ _ :: _) _ _); refine loadB (K10) rfl rfl rfl ?_) | ((with_reducible show wpList _ _ _ (Oper.mk _ (Op.load 27 _) _ _ _ (some _) :: _) _ _); refine loadgB (K10) rfl rfl rfl ?_))
                go_meet
                case rel => exact ⟨K3, K4, K6, HB.out⟩
            case rest =>
              clear K3 K4 K6 HB
              obtain ⟨K3, K4, K6, hb0⟩ := hcut
              have HB := Lib.hid hb0
              clear hb0
              go_wp2_with fail
              go_ret
              exact ⟨rfl, HB.out⟩
  · have dl : decide ((65536 : Int) < (len0 : Int)) = true := by simp; omega
    go_enter Try.func4, Try.ntmps4
    go_wp2_with fail
    refine (rBig_any a0 len0 cap0 _).mono ?_
    rintro e w' ⟨rfl, rfl⟩
    rw [dl]
    go_wp2_with fail
    go_ret
    exact ⟨rfl, HB.out⟩

noncomputable def laidWorld (os : Os) : World := World.holding Try.prog os ⟨#[], #[], []⟩
theorem laid_met (os : Os) : laidMet Try.prog Rows.fnBoardsRow.laid ((laidWorld os).forCall (fun _ _ => 0) ⟨#[], #[.slice none 0 0], []⟩).memory := laidMet_of_run' 8 (by kernel_rfl) (by kernel_rfl)
theorem reads (os : Os) {H : Type} (enc : TypeId × Value → H) : ∃ places, DataW.whole enc Try.prog ((laidWorld os).forCall (fun _ _ => 0) ⟨#[], #[.slice none 0 0], []⟩).memory Try.f4.params.toList Rows.fnBoardsSpec.vars false #[.slice none 0 0].toList 8 = some ([.nil], [], places) :=
  ⟨[], by kernel_rfl⟩
set_option linter.unusedVariables false in
set_option maxRecDepth 100000 in
theorem lifted (os : Os) (started : os.Started) (H : Type) (enc : TypeId × Value → H) (F : Stop.Interp) :
    ReturnsInHanded {} Try.checked os 4 .any ((OpenSpec.ofChange Rows.fnBoardsSpec).preRow enc Try.prog Try.f4 Rows.fnBoardsRow.domain false Rows.fnBoardsRow.laid) (((OpenSpec.ofChange Rows.fnBoardsSpec).at F).post enc Try.prog Try.f4 false true false false) := by
  obtain ⟨places, hx⟩ := reads os enc
  refine returnsInHanded_of_row (C := Try.checked) (s := (OpenSpec.ofChange Rows.fnBoardsSpec)) own started (by kernel_rfl) Try.func4
    (witness_row_at (enc := enc) (C := Try.checked) false (laidWorld os) #[.slice none 0 0] rfl (by kernel_rfl) (by kernel_rfl) (by kernel_rfl)
      (OpenSpec.preRow_of_cond 8 hx (by kernel_rfl) (fun k hk => by cases hk) (by kernel_rfl) (laid_met os))) ?_
  intro W base args ds gs before hval0 hW _ hcond hsz hL hsh _
  have hval : ∀ (j : Nat) t v, Try.f4.params[j]? = some t → args[j]? = some v → Value.okWide Try.prog W .any base t v := hval0
  have hW' := hW
  obtain ⟨p, q, hA0, hV, rfl, hfz, hnd⟩ := hW
  have hA : DataW.TrodAll enc Try.prog W 0 (fun _ => true) true Try.f4.params.toList args.toList ds p := hA0
  rw [Try.params4] at hA hval
  obtain ⟨v0, vs0, d0, ds0, p0, q0, hargs, rfl, rfl, h0, r0⟩ := trodAll_cons hA
  obtain ⟨rfl, rfl, rfl⟩ := trodAll_nil r0
  obtain rfl : args = #[v0] := by cases args; simp_all
  obtain ⟨rfl, rfl⟩ := trodVars_none hV
  obtain ⟨a0, len0, cap0, rfl⟩ := okWide_slice Try.underlying22 (hval 0 22 v0 rfl rfl)
  have k0 := h0
  have lt0 : ∀ x ∈ p0, x.block < W.heap.size := by obtain ⟨m, hm⟩ := k0; exact DataW.trod_lt m _ _ _ hm
  obtain ⟨z0, w0⟩ : ∃ zs, IsRow .u8 W a0 len0 cap0 zs := by
    obtain ⟨fuel, hf⟩ := h0
    rcases open_ints Try.underlying22 Try.underlying5 (by kernel_rfl) hf with ⟨hcs, _⟩ | ⟨x, l, c, zs, hcs, _, hl, hm, hz, _, hcell, hwz⟩
    · simp [Value.cells] at hcs; obtain ⟨rfl, rfl, rfl⟩ := hcs; exact ⟨[], .inl ⟨rfl, rfl, rfl, rfl⟩⟩
    · simp [Value.cells] at hcs; obtain ⟨rfl, rfl, rfl⟩ := hcs; exact ⟨zs, .inr ⟨_, rfl, hl, hm, by simpa using hz, hcell, hwz⟩⟩
  clear hA0 hval0
  have hwalk : Calls Try.prog 4 #[.slice a0 len0 cap0] W fun e w' => e = .returned (.bool true) ∧ Below W.heap.size W w' := walk W hsh a0 len0 cap0 z0 w0
  refine hwalk.mono fun e W' ⟨he, bel⟩ => ?_
  subst he
  exact ⟨_, rfl, _, _, _, [], _, [], hW', trodAll_mk1 (shut_bool Try.underlying4 _), (trodAll_cons_mk (Below.trod laidOut (by kernel_rfl) (of_decide_eq_true (by kernel_rfl)) k0 bel lt0) trodAll_mk0), rfl, bel.frame _, fun h => by cases h⟩
theorem closed : joinedFacts Try.pinned.checked.prog 4 Try.f4 ((OpenSpec.ofChange Rows.fnBoardsSpec)).bare Rows.fnBoardsRow = true := by
  unfold joinedFacts
  repeat' with_reducible refine and_mk ?_ ?_
  case refine_1.refine_1.refine_1.refine_1.refine_1.refine_1.refine_2 => exact enters
  case refine_1.refine_1.refine_1.refine_1.refine_1.refine_2 => exact (show (Rows.fnBoardsRow.lifted == Try.prog.liftsFinal) = true by rw [final_no]; rfl)
  case refine_1.refine_1.refine_1.refine_1.refine_2 => exact (show (Try.prog.make == some Rows.fnBoardsRow.make) = true by rw [make_cut]; rfl)
  case refine_1.refine_1.refine_1.refine_1.refine_1.refine_1.refine_1.refine_1.refine_1.refine_1.refine_1.refine_1.refine_1.refine_1.refine_1.refine_1.refine_1.refine_1.refine_1.refine_1.refine_1.refine_1.refine_1.refine_1.refine_1.refine_1.refine_1.refine_1.refine_1.refine_1.refine_2 => exact laidOut
  case refine_1.refine_1.refine_1.refine_1.refine_1.refine_1.refine_1.refine_1.refine_1.refine_1.refine_1.refine_1.refine_1.refine_1.refine_1.refine_1.refine_1.refine_1.refine_1.refine_1.refine_1.refine_1.refine_1.refine_1.refine_1.refine_1.refine_1.refine_1.refine_1.refine_2 => exact maps_rowed
  case refine_1.refine_1.refine_1.refine_1.refine_1.refine_1.refine_1.refine_2 => exact stops_heard
  all_goals (as_aux_lemma => kernel_rfl)
theorem proved : Rows.FnBoardsSaid :=
  OpenClaim.holds_of_cond 4 Try.f4 rfl rfl rfl rfl rfl rfl rfl ⟨rfl, rfl, rfl, rfl, rfl⟩ rfl rfl rfl rfl rfl (by kernel_rfl) Try.func4 closed
    (of_decide_eq_true (by kernel_rfl)) (by unfold Func.isWrapper; first | (rw [if_pos (by decide +kernel)]; kernel_rfl) | (rw [if_neg (by decide +kernel)]; exact ⟨rfl, rfl⟩))
    (fun os started H enc _ F => by rw [OpenClaim.pre_eq_preRow]; exact lifted os started H enc F)
#print axioms proved
end Go.Proofs.Ytpiegllffkjneaa.fnBoards
