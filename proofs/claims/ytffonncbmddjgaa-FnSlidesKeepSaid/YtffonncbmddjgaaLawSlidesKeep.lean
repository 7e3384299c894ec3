/-
  Proved: for every code, the law FnSlidesKeep returns true, and the code reads as it did. No condition.
-/
import Derived.Test.YtffonncbmddjgaaDraws
import Derived.Test.YtffonncbmddjgaaRowHelp
import Derived.Test.YtffonncbmddjgaaHeld
import Derived.Test.YtffonncbmddjgaaImplSlideBoard
import Derived.Test.YtffonncbmddjgaaSpecSlideBoard
import Derived.Test.YtffonncbmddjgaaSumOf
import Derived.Test.YtffonncbmddjgaaPairs
import Derived.Test.YtffonncbmddjgaaCellsOf
import Derived.Test.YtffonncbmddjgaaOver
import Derived.Test.YtffonncbmddjgaaMergers
import Derived.Test.YtffonncbmddjgaaGuards
import Derived.Test.YtffonncbmddjgaaClosed
import Derived.Deep.CutRange
namespace Go.Proofs.Ytffonncbmddjgaa.fnSlidesKeep
open Go.ChangeShapes Go.WideShapes Go.ChangeAt Go.RowKit Plain
attribute [local go_sem] store_new
set_option linter.unusedSimpArgs false
theorem drew_below (w : World) (n : Nat) : Below w.heap.size w (w.drewN n) := ⟨rfl, rfl, rfl, Nat.le_refl _, fun _ _ => rfl⟩
theorem mov_len (f : Nat → Int) : (movR f).length ≤ 4 := by
  by_cases hV : Vd f
  · rw [movR_yes hV]; exact movL_le _ _
  · rw [movR_no hV]; exact Nat.zero_le _
/-- A list of moves comes back. -/
def MovPost (n : Nat) (h : Nat → Int) (V : Bool) (w : World) (e : Ending) (w' : World) : Prop := ∃ g cap, e = .returned (.tuple #[.slice (some ⟨g, 0, none⟩) n cap, .bool V]) ∧ IRow w' (.slice (some ⟨g, 0, none⟩) n cap) n h ∧ Below w.heap.size w w'
theorem mov_post {p : FuncId} {f : Nat → Int} {n : Nat} {h : Nat → Int} {V : Bool} (hn : n = (movR f).length) (hh : h = fun i => (movR f).getD i 0) (hV : vdO f = V) (W : World)
    (hc : Calls Try.prog p #[.agg (mk 16 f)] W fun e w' => ∃ g cap, e = .returned (.tuple #[.slice (some ⟨g, 0, none⟩) (movR f).length cap, .bool (vdO f)]) ∧ OwnsInts w' W.heap.size (.slice (some ⟨g, 0, none⟩) (movR f).length cap) (movR f) ∧ Below W.heap.size W w') :
    Calls Try.prog p #[.agg (mk 16 f)] W (MovPost n h V W) := by
  subst hn hh hV
  refine hc.mono ?_
  rintro e w' ⟨g, cap, rfl, ho, hb⟩
  unfold OwnsInts at ho
  rw [ints_mk] at ho
  exact ⟨g, cap, rfl, IRow.of_own ho, hb⟩
/-- A list of cells comes back. -/
def CelPost (n : Nat) (V : Bool) (w : World) (e : Ending) (w' : World) : Prop := ∃ g cap, e = .returned (.tuple #[.slice (some ⟨g, 0, none⟩) n cap, .bool V]) ∧ Below w.heap.size w w'
theorem cel_post (f : Nat → Int) {n : Nat} (hn : cellN f = n) (hV : vdO f = true) (W : World) : Calls Try.prog 69 #[.agg (mk 16 f)] W (CelPost n true W) := by
  have h := implCells_any f W
  rw [hn, hV] at h
  exact h.mono fun e w' ⟨g, cap, h1, _, h3⟩ => ⟨g, cap, h1, h3⟩
theorem over_len {f : Nat → Int} (hV : Vd f) : overR f = (((movR f).length : Int) == 0) := by
  rw [movR_yes hV]
  by_cases h : (movL f 4).length = 0
  · rw [over_yes hV h, h]; rfl
  · rw [over_not h]; symm; simpa using h
set_option maxHeartbeats 16000000 in
set_option maxRecDepth 100000 in
theorem walk (w : World) (_ : w.ShapedOpen Try.prog) (a0 : Option Addr) (len0 cap0 : Nat) (z0 : List Int) (hr : IsRow .u8 w a0 len0 cap0 z0) :
    Calls Try.prog 5 #[.slice a0 len0 cap0] w fun e w' => e = .returned (.bool true) ∧ Below w.heap.size w w' := by
  have z16 := zero16
  have HR := Lib.hid hr
  have HB : Hid (Below w.heap.size w w) := Below.refl w.heap.size w
  clear hr
  by_cases hl : len0 ≤ 65536
  · have dl : decide ((65536 : Int) < (len0 : Int)) = false := by simp; omega
    go_enter Try.func5, Try.ntmps5
    go_wp2_with fail
    refine (rBig_any a0 len0 cap0 _).mono ?_
    rintro e w' ⟨rfl, rfl⟩
    rw [dl]
    clear dl
    go_wp2_with fail
    refine (drawSlideBoard_any a0 len0 cap0 _ hl (HR.out.code)).mono ?_
    rintro e w1 ⟨f, d, rfl, hb⟩
    have HB : Hid (Below w.heap.size w w1) := HB.out.trans (hb.mono HB.out.size)
    clear hb
    have K3 := Blk.new w1 16 f 27
    have HB : Hid (Below w.heap.size w (w1.alloc (.cells (mk 16 f) 27))) := HB.out.alloc HB.out.size _
    by_cases hV : Vd f
    · by_cases hd : 0 ≤ d ∧ d ≤ 3
      · have hVO : vdO f = true := vdO_yes hV
        have hSO : slideRO f d = true := decide_eq_true ⟨hV, hd⟩
        obtain ⟨N, hN⟩ : ∃ F, F = slideRB f d := ⟨_, rfl⟩
        obtain ⟨SC, hSC⟩ : ∃ F, F = slideRS f d := ⟨_, rfl⟩
        obtain ⟨M, hM⟩ : ∃ F, F = slideRM f d := ⟨_, rfl⟩
        obtain ⟨OV, hOV⟩ : ∃ F, F = overR f := ⟨_, rfl⟩
        obtain ⟨SU, hSU⟩ : ∃ F, F = sumR f := ⟨_, rfl⟩
        obtain ⟨PA, hPA⟩ : ∃ F, F = pairsR f := ⟨_, rfl⟩
        have iSL : Hid (∀ W, Calls Try.prog 38 #[.agg (mk 16 f), .int .i64 d] W fun e w' => e = .returned (.tuple #[.agg (mk 16 N), .int .i64 SC, .bool true]) ∧ Below W.heap.size W w') := by show ∀ W, _; rw [hN, hSC, ← hSO]; exact implSlide_any f d
        have iMG : Hid (∀ W, Calls Try.prog 65 #[.agg (mk 16 f), .int .i64 d] W fun e w' => e = .returned (.tuple #[.int .i64 M, .bool true]) ∧ Below W.heap.size W w') := by show ∀ W, _; rw [hM, ← hSO]; exact implMergers_any f d
        have iOV : Hid (∀ W, Calls Try.prog 63 #[.agg (mk 16 f)] W fun e w' => e = .returned (.tuple #[.bool OV, .bool true]) ∧ Below W.heap.size W w') := by show ∀ W, _; rw [hOV, ← hVO]; exact implOver_any f
        have iSU : Hid (∀ W, Calls Try.prog 36 #[.agg (mk 16 f)] W fun e w' => e = .returned (.tuple #[.int .i64 SU, .bool true]) ∧ Below W.heap.size W w') := by show ∀ W, _; rw [hSU, ← hVO]; exact implSum_any f
        have iPA : Hid (∀ W, Calls Try.prog 37 #[.agg (mk 16 f)] W fun e w' => e = .returned (.tuple #[.int .i64 PA, .bool true]) ∧ Below W.heap.size W w') := by show ∀ W, _; rw [hPA, ← hVO]; exact implPairs_any f
        have sSL : Hid (∀ W, Calls Try.prog 59 #[.agg (mk 16 f), .int .i64 d] W fun e w' => e = .returned (.tuple #[.agg (mk 16 N), .int .i64 SC, .bool true]) ∧ Below W.heap.size W w') := by show ∀ W, _; rw [hN, hSC, ← hSO]; exact specSlide_any f d
        have sMG : Hid (∀ W, Calls Try.prog 66 #[.agg (mk 16 f), .int .i64 d] W fun e w' => e = .returned (.tuple #[.int .i64 M, .bool true]) ∧ Below W.heap.size W w') := by show ∀ W, _; rw [hM, ← hSO]; exact specMergers_any f d
        have sOV : Hid (∀ W, Calls Try.prog 64 #[.agg (mk 16 f)] W fun e w' => e = .returned (.tuple #[.bool OV, .bool true]) ∧ Below W.heap.size W w') := by show ∀ W, _; rw [hOV, ← hVO]; exact specOver_any f
        have sSU : Hid (∀ W, Calls Try.prog 67 #[.agg (mk 16 f)] W fun e w' => e = .returned (.tuple #[.int .i64 SU, .bool true]) ∧ Below W.heap.size W w') := by show ∀ W, _; rw [hSU, ← hVO]; exact specSum_any f
        have sPA : Hid (∀ W, Calls Try.prog 68 #[.agg (mk 16 f)] W fun e w' => e = .returned (.tuple #[.int .i64 PA, .bool true]) ∧ Below W.heap.size W w') := by show ∀ W, _; rw [hPA, ← hVO]; exact specPairs_any f
        have iIB : Hid (∀ W, Calls Try.prog 61 #[.agg (mk 16 f)] W fun e w' => e = .returned (.bool true) ∧ Below W.heap.size W w') := by intro W; exact implBoard_yes f W hV
        obtain ⟨n, hn⟩ : ∃ n, n = (movR f).length := ⟨_, rfl⟩
        obtain ⟨h, hh⟩ : ∃ h : Nat → Int, h = fun i => (movR f).getD i 0 := ⟨_, rfl⟩
        have iMV : Hid (∀ W, Calls Try.prog 55 #[.agg (mk 16 f)] W (MovPost n h true W)) := fun W => mov_post hn hh hVO W (implMoves_any f W)
        have sMV : Hid (∀ W, Calls Try.prog 60 #[.agg (mk 16 f)] W (MovPost n h true W)) := fun W => mov_post hn hh hVO W (specMoves_any f W)
        have hn4 : n ≤ 4 := by rw [hn]; exact mov_len f
        have hOL : OV = ((n : Int) == 0) := by rw [hOV, hn]; exact over_len hV
        subst hOL
        obtain ⟨ne, hne⟩ : ∃ k, k = cellN f := ⟨_, rfl⟩
        have hov : n = 0 ↔ ne = 16 ∨ (ne = 0 ∧ PA = 0) := by rw [hn, movR_yes hV, noMv_iff, over_iff hV, hne, (cell_yes hV).2, hPA, pairsR_yes hV]
        have hne16 : ne ≤ 16 := by rw [hne]; exact cellN_le f
        have iEC : Hid (∀ W, Calls Try.prog 69 #[.agg (mk 16 f)] W (CelPost ne true W)) := fun W => cel_post f hne.symm hVO W
        have HOV := Lib.hid hov
        clear hov
        obtain ⟨q, hq, hq4⟩ : ∃ q : Nat, d = q ∧ q < 4 := ⟨d.toNat, by omega, by omega⟩
        have hNB : N = slideB f q := by rw [hN, (slide_yes ⟨hV, hd⟩).2.1, hq, Int.toNat_natCast]
        have hSCv : SC = slideS f q 4 := by rw [hSC, (slide_yes ⟨hV, hd⟩).2.2.1, hq, Int.toNat_natCast]
        have hMv : M = slideM f q 4 := by rw [hM, (slide_yes ⟨hV, hd⟩).2.2.2, hq, Int.toNat_natCast]
        obtain ⟨N2, hN2⟩ : ∃ F, F = slideB (slideB f q) q := ⟨_, rfl⟩
        obtain ⟨MO, hMO⟩ : ∃ F, F = slideS (slideB f q) q 4 := ⟨_, rfl⟩
        obtain ⟨n2, hn2⟩ : ∃ k, k = cellN (slideB f q) := ⟨_, rfl⟩
        have hVN : Vd (slideB f q) := slideB_vd hV q
        have iS2 : Hid (∀ W, Calls Try.prog 36 #[.agg (mk 16 N)] W fun e w' => e = .returned (.tuple #[.int .i64 SU, .bool true]) ∧ Below W.heap.size W w') := by show ∀ W, _; rw [hNB, hSU, ← vdO_yes hVN, sumR_yes hV, ← sum_slide hV hq4, ← sumR_yes hVN]; exact implSum_any _
        have iSL2 : Hid (∀ W, Calls Try.prog 38 #[.agg (mk 16 N), .int .i64 d] W fun e w' => e = .returned (.tuple #[.agg (mk 16 N2), .int .i64 MO, .bool true]) ∧ Below W.heap.size W w') := by show ∀ W, _; rw [hNB, hN2, hMO, hq]; intro W; have h9 := implSlide_any (slideB f q) (q : Int) W; obtain ⟨y1, y2, y3, _⟩ := slide_yes (f := slideB f q) (d := (q : Int)) ⟨hVN, by omega, by omega⟩; rw [y1, y2, y3, Int.toNat_natCast] at h9; exact h9
        obtain ⟨p, hp⟩ : ∃ p, p = (q + 2) % 4 := ⟨_, rfl⟩
        have iMO : Hid (∀ W, Calls Try.prog 65 #[.agg (mk 16 f), .int .i64 p] W fun e w' => e = .returned (.tuple #[.int .i64 M, .bool true]) ∧ Below W.heap.size W w') := by show ∀ W, _; rw [hMv, ← merg_opp f hq4, ← hp]; intro W; have h9 := implMergers_any f (p : Int) W; obtain ⟨y1, _, _, y4⟩ := slide_yes (f := f) (d := (p : Int)) ⟨hV, by omega, by omega⟩; rw [y1, y4, Int.toNat_natCast] at h9; exact h9
        have iEN : Hid (∀ W, Calls Try.prog 69 #[.agg (mk 16 N)] W (CelPost n2 true W)) := by show ∀ W, _; rw [hNB]; exact fun W => cel_post _ hn2.symm (vdO_yes hVN) W
        have hn216 : n2 ≤ 16 := by rw [hn2]; exact cellN_le _
        have hEM : (n2 : Int) - (ne : Int) = M := by rw [hn2, hne, (cell_yes hVN).2, (cell_yes hV).2, hMv, emp_slide hV hq4]; omega
        have e1 : IntKind.i64.wrap ((n2 : Int) - (ne : Int)) = M := by rw [IntWalk.i64_in _ (by omega)]; exact hEM
        have e2 : IntKind.i64.wrap (d + 2) = d + 2 := IntWalk.i64_in _ (by omega)
        have e3 : (d + 2).tmod 4 = (p : Int) := by rw [Int.tmod_eq_emod_of_nonneg (by omega), hp, hq]; omega
        have e4 : IntKind.i64.wrap (p : Int) = (p : Int) := IntWalk.i64_in _ (by omega)
        have hM0 : 0 ≤ M := by rw [hMv]; exact (slideM_bd hV q 4 (Nat.le_refl _)).1
        have hAG : M = 0 → sameB N2 N = true ∧ MO = 0 := fun h0 => by have h9 := slide_again hV (hMv.symm.trans h0); exact ⟨by rw [hN2, hNB]; exact sameB_iff.2 h9.1, hMO.trans h9.2⟩
        have hSM : 0 < SC ↔ 0 < M := by rw [hSCv, hMv]; exact score_mg hV q
        have HAS : Hid (∀ W, IRow W (.slice (some ⟨0, 0, none⟩) 0 0) 0 h → True) := fun _ _ => trivial
        have hHAS : hasI h n d = !sameB N f := by rw [hh, hn, movR_yes hV, hq, has_mov f hq4, hNB]; rfl
        have HHAS := Lib.hid hHAS
        have HAG := Lib.hid hAG
        have HSM := Lib.hid hSM
        clear HAS hHAS hAG hSM
        clear hN hSC hM hOV hSU hPA hSO hh hn hV hVO hne hd hNB hSCv hMv hN2 hMO hn2 hVN hp hEM hq
        have sN : sameB N N = true := sameB_iff.2 fun _ _ => rfl
        have iE := fun (F G : Nat → Int) (W : World) => eqB 9996 F G W
        go_wp2_with (first | ((with_reducible show wpList _ _ _ (Oper.mk _ (Op.load 27 _) _ _ _ _ :: _) _ _); refine loadB (K3) rfl rfl rfl ?_) | ((with_reducible show wpList _ _ _ (Oper.mk _ (Op.load 27 _) _ _ _ (some _) :: _) _ _); refine loadgB (K3) rfl rfl rfl ?_))
        generalize w1.alloc (.cells (mk 16 f) 27) = w1a at *
        refine (iSL.out _).mono ?_
        rintro e w31 ⟨rfl, hb⟩
        have K3 := K3.below hb K3.lt
        have HB : Hid (Below w.heap.size w w31) := HB.out.trans (hb.mono HB.out.size)
        clear hb
        have K3 := K3.alloc (.cells (mk 16 N) 27)
        have K5 := Blk.new w31 16 N 27
        have HB : Hid (Below w.heap.size w (w31.alloc (.cells (mk 16 N) 27))) := HB.out.alloc HB.out.size _
        go_wp2_with (first | ((with_reducible show wpList _ _ _ (Oper.mk _ (Op.load 27 _) _ _ _ _ :: _) _ _); refine loadB (K3) rfl rfl rfl ?_) | ((with_reducible show wpList _ _ _ (Oper.mk _ (Op.load 27 _) _ _ _ (some _) :: _) _ _); refine loadgB (K3) rfl rfl rfl ?_))
        generalize w31.alloc (.cells (mk 16 N) 27) = w31a at *
        refine (sSL.out _).mono ?_
        rintro e w32 ⟨rfl, hb⟩
        have K3 := K3.below hb K3.lt
        have K5 := K5.below hb K5.lt
        have HB : Hid (Below w.heap.size w w32) := HB.out.trans (hb.mono HB.out.size)
        clear hb
        have K3 := K3.alloc (.cells (mk 16 N) 27)
        have K5 := K5.alloc (.cells (mk 16 N) 27)
        have K8 := Blk.new w32 16 N 27
        have HB : Hid (Below w.heap.size w (w32.alloc (.cells (mk 16 N) 27))) := HB.out.alloc HB.out.size _
        go_wp2_with (first | ((with_reducible show wpList _ _ _ (Oper.mk _ (Op.load 27 _) _ _ _ _ :: _) _ _); refine loadB (K5) rfl rfl rfl ?_) | ((with_reducible show wpList _ _ _ (Oper.mk _ (Op.load 27 _) _ _ _ (some _) :: _) _ _); refine loadgB (K5) rfl rfl rfl ?_) | ((with_reducible show wpList _ _ _ (Oper.mk _ (Op.load 27 _) _ _ _ _ :: _) _ _); refine loadB (K8) rfl rfl rfl ?_) | ((with_reducible show wpList _ _ _ (Oper.mk _ (Op.load 27 _) _ _ _ (some _) :: _) _ _); refine loadgB (K8) rfl rfl rfl ?_) | ((with_reducible show wpList _ _ _ (Oper.mk _ (Op.load 27 _) _ _ _ _ :: _) _ _); refine loadB (K3) rfl rfl rfl ?_) | ((with_reducible show wpList _ _ _ (Oper.mk _ (Op.load 27 _) _ _ _ (some _) :: _) _ _); refine loadgB (K3) rfl rfl rfl ?_))
        generalize w32.alloc (.cells (mk 16 N) 27) = w32a at *
        refine (iMV.out _).mono ?_
        rintro e w33 ⟨g1, c1, rfl, hr1, hb⟩
        have K3 := K3.below hb K3.lt
        have K5 := K5.below hb K5.lt
        have K8 := K8.below hb K8.lt
        have HB : Hid (Below w.heap.size w w33) := HB.out.trans (hb.mono HB.out.size)
        have R1 := Lib.hid hr1
        clear hr1
        clear hb
        clear K8
        go_wp2_with (first | ((with_reducible show wpList _ _ _ (Oper.mk _ (Op.load 27 _) _ _ _ _ :: _) _ _); refine loadB (K3) rfl rfl rfl ?_) | ((with_reducible show wpList _ _ _ (Oper.mk _ (Op.load 27 _) _ _ _ (some _) :: _) _ _); refine loadgB (K3) rfl rfl rfl ?_))
        refine (sMV.out _).mono ?_
        rintro e w34 ⟨g2, c2, rfl, hr2, hb⟩
        have K3 := K3.below hb K3.lt
        have K5 := K5.below hb K5.lt
        have R1 := Lib.hid (R1.out.below hb)
        have HB : Hid (Below w.heap.size w w34) := HB.out.trans (hb.mono HB.out.size)
        have R2 := Lib.hid hr2
        clear hr2
        clear hb
        go_wp2_with (first | ((with_reducible show wpList _ _ _ (Oper.mk _ (Op.load 27 _) _ _ _ _ :: _) _ _); refine loadB (K3) rfl rfl rfl ?_) | ((with_reducible show wpList _ _ _ (Oper.mk _ (Op.load 27 _) _ _ _ (some _) :: _) _ _); refine loadgB (K3) rfl rfl rfl ?_))
        refine (iIB.out _).mono ?_
        rintro e w35 ⟨rfl, hb⟩
        have K3 := K3.below hb K3.lt
        have K5 := K5.below hb K5.lt
        have R1 := Lib.hid (R1.out.below hb)
        have R2 := Lib.hid (R2.out.below hb)
        have HB : Hid (Below w.heap.size w w35) := HB.out.trans (hb.mono HB.out.size)
        clear hb
        go_wp2_with fail
        refine (rInts_yes _ _ n h _ R1.out R2.out (by omega)).mono ?_
        rintro e w36 ⟨rfl, k, rfl⟩
        have hb := drew_below w35 k
        have K3 := K3.below hb K3.lt
        have K5 := K5.below hb K5.lt
        have R1 := Lib.hid (R1.out.below hb)
        have HB : Hid (Below w.heap.size w (w35.drewN k)) := HB.out.trans (hb.mono HB.out.size)
        clear hb R2
        go_wp2_with (first | ((with_reducible show wpList _ _ _ (Oper.mk _ (Op.load 27 _) _ _ _ _ :: _) _ _); refine loadB (K3) rfl rfl rfl ?_) | ((with_reducible show wpList _ _ _ (Oper.mk _ (Op.load 27 _) _ _ _ (some _) :: _) _ _); refine loadgB (K3) rfl rfl rfl ?_))
        generalize w35.drewN k = w36d at *
        refine (iOV.out _).mono ?_
        rintro e w37 ⟨rfl, hb⟩
        have K3 := K3.below hb K3.lt
        have K5 := K5.below hb K5.lt
        have R1 := Lib.hid (R1.out.below hb)
        have HB : Hid (Below w.heap.size w w37) := HB.out.trans (hb.mono HB.out.size)
        clear hb
        go_wp2_with (first | ((with_reducible show wpList _ _ _ (Oper.mk _ (Op.load 27 _) _ _ _ _ :: _) _ _); refine loadB (K3) rfl rfl rfl ?_) | ((with_reducible show wpList _ _ _ (Oper.mk _ (Op.load 27 _) _ _ _ (some _) :: _) _ _); refine loadgB (K3) rfl rfl rfl ?_))
        refine (sOV.out _).mono ?_
        rintro e w38 ⟨rfl, hb⟩
        have K3 := K3.below hb K3.lt
        have K5 := K5.below hb K5.lt
        have R1 := Lib.hid (R1.out.below hb)
        have HB : Hid (Below w.heap.size w w38) := HB.out.trans (hb.mono HB.out.size)
        clear hb
        go_wp2_with (first | ((with_reducible show wpList _ _ _ (Oper.mk _ (Op.load 27 _) _ _ _ _ :: _) _ _); refine loadB (K3) rfl rfl rfl ?_) | ((with_reducible show wpList _ _ _ (Oper.mk _ (Op.load 27 _) _ _ _ (some _) :: _) _ _); refine loadgB (K3) rfl rfl rfl ?_))
        refine (iMG.out _).mono ?_
        rintro e w39 ⟨rfl, hb⟩
        have K3 := K3.below hb K3.lt
        have K5 := K5.below hb K5.lt
        have R1 := Lib.hid (R1.out.below hb)
        have HB : Hid (Below w.heap.size w w39) := HB.out.trans (hb.mono HB.out.size)
        clear hb
        go_wp2_with (first | ((with_reducible show wpList _ _ _ (Oper.mk _ (Op.load 27 _) _ _ _ _ :: _) _ _); refine loadB (K3) rfl rfl rfl ?_) | ((with_reducible show wpList _ _ _ (Oper.mk _ (Op.load 27 _) _ _ _ (some _) :: _) _ _); refine loadgB (K3) rfl rfl rfl ?_))
        refine (sMG.out _).mono ?_
        rintro e w40 ⟨rfl, hb⟩
        have K3 := K3.below hb K3.lt
        have K5 := K5.below hb K5.lt
        have R1 := Lib.hid (R1.out.below hb)
        have HB : Hid (Below w.heap.size w w40) := HB.out.trans (hb.mono HB.out.size)
        clear hb
        go_wp2_with (first | ((with_reducible show wpList _ _ _ (Oper.mk _ (Op.load 27 _) _ _ _ _ :: _) _ _); refine loadB (K3) rfl rfl rfl ?_) | ((with_reducible show wpList _ _ _ (Oper.mk _ (Op.load 27 _) _ _ _ (some _) :: _) _ _); refine loadgB (K3) rfl rfl rfl ?_))
        refine (iSU.out _).mono ?_
        rintro e w41 ⟨rfl, hb⟩
        have K3 := K3.below hb K3.lt
        have K5 := K5.below hb K5.lt
        have R1 := Lib.hid (R1.out.below hb)
        have HB : Hid (Below w.heap.size w w41) := HB.out.trans (hb.mono HB.out.size)
        clear hb
        go_wp2_with (first | ((with_reducible show wpList _ _ _ (Oper.mk _ (Op.load 27 _) _ _ _ _ :: _) _ _); refine loadB (K3) rfl rfl rfl ?_) | ((with_reducible show wpList _ _ _ (Oper.mk _ (Op.load 27 _) _ _ _ (some _) :: _) _ _); refine loadgB (K3) rfl rfl rfl ?_))
        refine (sSU.out _).mono ?_
        rintro e w42 ⟨rfl, hb⟩
        have K3 := K3.below hb K3.lt
        have K5 := K5.below hb K5.lt
        have R1 := Lib.hid (R1.out.below hb)
        have HB : Hid (Below w.heap.size w w42) := HB.out.trans (hb.mono HB.out.size)
        clear hb
        go_wp2_with (first | ((with_reducible show wpList _ _ _ (Oper.mk _ (Op.load 27 _) _ _ _ _ :: _) _ _); refine loadB (K3) rfl rfl rfl ?_) | ((with_reducible show wpList _ _ _ (Oper.mk _ (Op.load 27 _) _ _ _ (some _) :: _) _ _); refine loadgB (K3) rfl rfl rfl ?_))
        refine (iPA.out _).mono ?_
        rintro e w43 ⟨rfl, hb⟩
        have K3 := K3.below hb K3.lt
        have K5 := K5.below hb K5.lt
        have R1 := Lib.hid (R1.out.below hb)
        have HB : Hid (Below w.heap.size w w43) := HB.out.trans (hb.mono HB.out.size)
        clear hb
        go_wp2_with (first | ((with_reducible show wpList _ _ _ (Oper.mk _ (Op.load 27 _) _ _ _ _ :: _) _ _); refine loadB (K3) rfl rfl rfl ?_) | ((with_reducible show wpList _ _ _ (Oper.mk _ (Op.load 27 _) _ _ _ (some _) :: _) _ _); refine loadgB (K3) rfl rfl rfl ?_))
        refine (sPA.out _).mono ?_
        rintro e w44 ⟨rfl, hb⟩
        have K3 := K3.below hb K3.lt
        have K5 := K5.below hb K5.lt
        have R1 := Lib.hid (R1.out.below hb)
        have HB : Hid (Below w.heap.size w w44) := HB.out.trans (hb.mono HB.out.size)
        clear hb
        go_upto_if 207 with fail
        go_cut [15, 17] from 44 (fun s15 s17 wc => Blk wc (w1.heap.size) 16 f 27 ∧ Blk wc (w31.heap.size) 16 N 27 ∧ IRow wc (.slice (some ⟨g1, 0, none⟩) n c1) n h ∧ Below w.heap.size w wc)
        case first =>
          go_wp2_with (first | ((with_reducible show wpList _ _ _ (Oper.mk _ (Op.load 27 _) _ _ _ _ :: _) _ _); refine loadB (K3) rfl rfl rfl ?_) | ((with_reducible show wpList _ _ _ (Oper.mk _ (Op.load 27 _) _ _ _ (some _) :: _) _ _); refine loadgB (K3) rfl rfl rfl ?_))
          refine (iEC.out _).mono ?_
          rintro e w45 ⟨g3, c3, rfl, hb⟩
          have K3 := K3.below hb K3.lt
          have K5 := K5.below hb K5.lt
          have R1 := Lib.hid (R1.out.below hb)
          have HB : Hid (Below w.heap.size w w45) := HB.out.trans (hb.mono HB.out.size)
          clear hb
          have hov := HOV.out
          clear HOV
          by_cases h16 : ne = 16
          · have q16 : ((ne : Int) == 16) = true := by simp [h16]
            have qn : ((n : Int) == 0) = true := by simp [hov.2 (.inl h16)]
            clear hov h16
            go_wp2_with fail
            go_meet
            case rel => exact ⟨K3, K5, R1.out, HB.out⟩
          · have q16 : ((ne : Int) == 16) = false := by simp; omega
            by_cases h0 : ne = 0
            · have q0 : ((ne : Int) == 0) = true := by simp [h0]
              by_cases hp : PA = 0
              · have qp : (PA == 0) = true := by simp [hp]
                have qn : ((n : Int) == 0) = true := by simp [hov.2 (.inr ⟨h0, hp⟩)]
                clear hov hp h0 h16
                go_wp2_with fail
                go_meet
                case rel => exact ⟨K3, K5, R1.out, HB.out⟩
              · have qp : (PA == 0) = false := by simpa using hp
                have qn : ((n : Int) == 0) = false := by simp; omega
                clear hov hp h0 h16
                go_wp2_with fail
                go_meet
                case rel => exact ⟨K3, K5, R1.out, HB.out⟩
            · have q0 : ((ne : Int) == 0) = false := by simpa using h0
              have qn : ((n : Int) == 0) = false := by simp; omega
              clear hov h0 h16
              go_wp2_with fail
              go_meet
              case rel => exact ⟨K3, K5, R1.out, HB.out⟩
        case rest =>
          obtain ⟨K3, K5, r1, hb0⟩ := hcut
          have R1 := Lib.hid r1
          have HB := Lib.hid hb0
          clear r1 hb0
          as_aux_lemma =>
            go_wp2_with (first | ((with_reducible show wpList _ _ _ (Oper.mk _ (Op.load 27 _) _ _ _ _ :: _) _ _); refine loadB (K5) rfl rfl rfl ?_) | ((with_reducible show wpList _ _ _ (Oper.mk _ (Op.load 27 _) _ _ _ (some _) :: _) _ _); refine loadgB (K5) rfl rfl rfl ?_))
            refine (iS2.out _).mono ?_
            rintro e w46 ⟨rfl, hb⟩
            have K3 := K3.below hb K3.lt
            have K5 := K5.below hb K5.lt
            have R1 := Lib.hid (R1.out.below hb)
            have HB : Hid (Below w.heap.size w w46) := HB.out.trans (hb.mono HB.out.size)
            clear hb
            go_wp2_with (first | ((with_reducible show wpList _ _ _ (Oper.mk _ (Op.load 27 _) _ _ _ _ :: _) _ _); refine loadB (K5) rfl rfl rfl ?_) | ((with_reducible show wpList _ _ _ (Oper.mk _ (Op.load 27 _) _ _ _ (some _) :: _) _ _); refine loadgB (K5) rfl rfl rfl ?_))
            refine (iSL2.out _).mono ?_
            rintro e w47 ⟨rfl, hb⟩
            have K3 := K3.below hb K3.lt
            have K5 := K5.below hb K5.lt
            have R1 := Lib.hid (R1.out.below hb)
            have HB : Hid (Below w.heap.size w w47) := HB.out.trans (hb.mono HB.out.size)
            clear hb
            have R1 := Lib.hid (R1.out.below ((Below.refl _ w47).alloc (Nat.le_refl _) (.cells (mk 16 N2) 27)))
            have K3 := K3.alloc (.cells (mk 16 N2) 27)
            have K5 := K5.alloc (.cells (mk 16 N2) 27)
            have K35 := Blk.new w47 16 N2 27
            have HB : Hid (Below w.heap.size w (w47.alloc (.cells (mk 16 N2) 27))) := HB.out.alloc HB.out.size _
            go_wp2_with (first | ((with_reducible show wpList _ _ _ (Oper.mk _ (Op.load 27 _) _ _ _ _ :: _) _ _); refine loadB (K3) rfl rfl rfl ?_) | ((with_reducible show wpList _ _ _ (Oper.mk _ (Op.load 27 _) _ _ _ (some _) :: _) _ _); refine loadgB (K3) rfl rfl rfl ?_))
            generalize w47.alloc (.cells (mk 16 N2) 27) = w47a at *
            refine (iMO.out _).mono ?_
            rintro e w48 ⟨rfl, hb⟩
            have K3 := K3.below hb K3.lt
            have K5 := K5.below hb K5.lt
            have K35 := K35.below hb K35.lt
            have R1 := Lib.hid (R1.out.below hb)
            have HB : Hid (Below w.heap.size w w48) := HB.out.trans (hb.mono HB.out.size)
            clear hb
            go_wp2_with (first | ((with_reducible show wpList _ _ _ (Oper.mk _ (Op.load 27 _) _ _ _ _ :: _) _ _); refine loadB (K3) rfl rfl rfl ?_) | ((with_reducible show wpList _ _ _ (Oper.mk _ (Op.load 27 _) _ _ _ (some _) :: _) _ _); refine loadgB (K3) rfl rfl rfl ?_))
            refine (iEC.out _).mono ?_
            rintro e w49 ⟨g4, c4, rfl, hb⟩
            have K3 := K3.below hb K3.lt
            have K5 := K5.below hb K5.lt
            have K35 := K35.below hb K35.lt
            have R1 := Lib.hid (R1.out.below hb)
            have HB : Hid (Below w.heap.size w w49) := HB.out.trans (hb.mono HB.out.size)
            clear hb
            go_wp2_with (first | ((with_reducible show wpList _ _ _ (Oper.mk _ (Op.load 27 _) _ _ _ _ :: _) _ _); refine loadB (K5) rfl rfl rfl ?_) | ((with_reducible show wpList _ _ _ (Oper.mk _ (Op.load 27 _) _ _ _ (some _) :: _) _ _); refine loadgB (K5) rfl rfl rfl ?_))
            refine (iEN.out _).mono ?_
            rintro e w50 ⟨g5, c5, rfl, hb⟩
            have K3 := K3.below hb K3.lt
            have K5 := K5.below hb K5.lt
            have K35 := K35.below hb K35.lt
            have R1 := Lib.hid (R1.out.below hb)
            have HB : Hid (Below w.heap.size w w50) := HB.out.trans (hb.mono HB.out.size)
            clear hb
            have HAS : Hid (∀ W, IRow W (.slice (some ⟨g1, 0, none⟩) n c1) n h → Calls Try.prog 70 #[.slice (some ⟨g1, 0, none⟩) n c1, .int .i64 d] W fun e w' => e = .returned (.bool (!sameB N f)) ∧ W = w') := fun W hv => by rw [← HHAS.out]; exact rHas_any _ n h d W hv (by omega)
            have iN := neqB
            have hag := HAG.out
            have hsm := HSM.out
            clear HAG HSM
            clear iE
            have iE : ∀ (F G : Nat → Int) (W : World), (Op.equalIn 10000 27 (.agg (mk 16 F)) (.agg (mk 16 G))).run Try.prog W = .ok (sameB F G) W := eqB 9996
            by_cases h0 : M = 0
            · obtain ⟨s2, hmo⟩ := hag h0
              have qe : (MO == 0) = true := by simp [hmo]
              have d1 : decide (0 < SC) = false := by simp; omega
              have d2 : decide (0 < M) = false := by simp; omega
              clear hag hsm h0 hmo
              as_aux_lemma =>
                go_wp2_with (first | ((with_reducible show wpList _ _ _ (Oper.mk _ (Op.load 27 _) _ _ _ _ :: _) _ _); refine loadB (K5) rfl rfl rfl ?_) | ((with_reducible show wpList _ _ _ (Oper.mk _ (Op.load 27 _) _ _ _ (some _) :: _) _ _); refine loadgB (K5) rfl rfl rfl ?_) | ((with_reducible show wpList _ _ _ (Oper.mk _ (Op.load 27 _) _ _ _ _ :: _) _ _); refine loadB (K3) rfl rfl rfl ?_) | ((with_reducible show wpList _ _ _ (Oper.mk _ (Op.load 27 _) _ _ _ (some _) :: _) _ _); refine loadgB (K3) rfl rfl rfl ?_) | ((with_reducible show wpList _ _ _ (Oper.mk _ (Op.load 27 _) _ _ _ _ :: _) _ _); refine loadB (K35) rfl rfl rfl ?_) | ((with_reducible show wpList _ _ _ (Oper.mk _ (Op.load 27 _) _ _ _ (some _) :: _) _ _); refine loadgB (K35) rfl rfl rfl ?_))
                refine wp_region_held_drew (S := fun w' => Blk w' (w31.heap.size) 16 N 27 ∧ Blk w' (w1.heap.size) 16 f 27 ∧ Blk w' (w47.heap.size) 16 N2 27) (by kernel_rfl) ⟨K5.drew, K3.drew, K35.drew⟩ (fun hHeld => ?_)
                refine wpAnyH_take (i := 0) (oi := { dst := some 300, op := _, type := _, pos := _, after := _, guard := _ }) (v := .agg (mk 16 N)) rfl (by kernel_rfl) (by kernel_rfl) (by kernel_rfl) (fun _ _ _ h => h) (Or.inl ⟨by rfl, fun _ h => execB (h.1) rfl rfl⟩) (by assumption) ?_
                try simp only [Act.put, List.setIfInBounds_toArray, List.set_cons_zero, List.set_cons_succ]
                refine wpAnyH_take (i := 1) (oi := { dst := some 301, op := _, type := _, pos := _, after := _, guard := _ }) (v := .agg (mk 16 f)) rfl (by kernel_rfl) (by kernel_rfl) (by kernel_rfl) (fun _ _ _ h => h) (Or.inl ⟨by rfl, fun _ h => execB (h.2.1) rfl rfl⟩) (by assumption) ?_
                try simp only [Act.put, List.setIfInBounds_toArray, List.set_cons_zero, List.set_cons_succ]
                refine wpAnyH_take (i := 2) (oi := { dst := some 302, op := _, type := _, pos := _, after := _, guard := _ }) (v := ?v1) rfl (by kernel_rfl) (by kernel_rfl) (by kernel_rfl) (fun _ _ _ h => h) (Or.inl ⟨by rfl, ?hy1⟩) (by assumption) ?rest1
                case hy1 => (intro w hSw; clear hSw; go_simp; (try with_reducible rfl))
                try simp only [Act.put, List.setIfInBounds_toArray, List.set_cons_zero, List.set_cons_succ]
                refine wpAnyH_take (i := 3) (oi := { dst := some 303, op := _, type := _, pos := _, after := _, guard := _ }) (v := ?v2) rfl (by kernel_rfl) (by kernel_rfl) (by kernel_rfl) (fun _ _ _ h => h) (Or.inl ⟨by rfl, ?hy2⟩) (by assumption) ?rest2
                case hy2 => (intro w hSw; clear hSw; go_simp; (try with_reducible rfl))
                try simp only [Act.put, List.setIfInBounds_toArray, List.set_cons_zero, List.set_cons_succ]
                refine wpAnyH_take (i := 4) (oi := { dst := some 304, op := _, type := _, pos := _, after := _, guard := _ }) (v := ?v3) rfl (by kernel_rfl) (by kernel_rfl) (by kernel_rfl) (fun _ _ _ h => h) (Or.inl ⟨by rfl, ?hy3⟩) (by assumption) ?rest3
                case hy3 => (intro w hSw; clear hSw; go_simp; (try with_reducible rfl))
                try simp only [Act.put, List.setIfInBounds_toArray, List.set_cons_zero, List.set_cons_succ]
                refine wpAnyH_ready (rs := [5]) (by kernel_rfl) (by simp) ?_
                refine AllReadyH.cons rfl (fun K hK => ?_) AllReadyH.nil
                go_simp
                refine (HAS.out _ (R1.out.below (drew_below _ 1))).mono ?_
                rintro e wh ⟨rfl, rfl⟩
                go_wp2_with fail
                refine hK.out _ _ hHeld (fun hHeld => ?_)
                clear hK K
                try simp only [Act.put, List.setIfInBounds_toArray, List.set_cons_zero, List.set_cons_succ]
                refine wpAnyH_take (i := 6) (oi := { dst := some 306, op := _, type := _, pos := _, after := _, guard := _ }) (v := ?v4) rfl (by kernel_rfl) (by kernel_rfl) (by kernel_rfl) (fun _ _ _ h => h) (Or.inl ⟨by rfl, ?hy4⟩) (by assumption) ?rest4
                case hy4 => (intro w hSw; clear hSw; go_simp; (try with_reducible rfl))
                try simp only [Act.put, List.setIfInBounds_toArray, List.set_cons_zero, List.set_cons_succ]
                refine wpAnyH_take (i := 7) (oi := { dst := some 307, op := _, type := _, pos := _, after := _, guard := _ }) (v := ?v5) rfl (by kernel_rfl) (by kernel_rfl) (by kernel_rfl) (fun _ _ _ h => h) (Or.inl ⟨by rfl, ?hy5⟩) (by assumption) ?rest5
                case hy5 => (intro w hSw; clear hSw; go_simp; (try with_reducible rfl))
                try simp only [Act.put, List.setIfInBounds_toArray, List.set_cons_zero, List.set_cons_succ]
                refine wpAnyH_take (i := 8) (oi := { dst := some 308, op := _, type := _, pos := _, after := _, guard := _ }) (v := .agg (mk 16 N2)) rfl (by kernel_rfl) (by kernel_rfl) (by kernel_rfl) (fun _ _ _ h => h) (Or.inl ⟨by rfl, fun _ h => execB (h.2.2) rfl rfl⟩) (by assumption) ?_
                try simp only [Act.put, List.setIfInBounds_toArray, List.set_cons_zero, List.set_cons_succ]
                refine wpAnyH_take (i := 9) (oi := { dst := some 309, op := _, type := _, pos := _, after := _, guard := _ }) (v := .agg (mk 16 N)) rfl (by kernel_rfl) (by kernel_rfl) (by kernel_rfl) (fun _ _ _ h => h) (Or.inl ⟨by rfl, fun _ h => execB (h.1) rfl rfl⟩) (by assumption) ?_
                try simp only [Act.put, List.setIfInBounds_toArray, List.set_cons_zero, List.set_cons_succ]
                refine wpAnyH_take (i := 10) (oi := { dst := some 310, op := _, type := _, pos := _, after := _, guard := _ }) (v := ?v6) rfl (by kernel_rfl) (by kernel_rfl) (by kernel_rfl) (fun _ _ _ h => h) (Or.inl ⟨by rfl, ?hy6⟩) (by assumption) ?rest6
                case hy6 => (intro w hSw; clear hSw; go_simp; (try with_reducible rfl))
                try simp only [Act.put, List.setIfInBounds_toArray, List.set_cons_zero, List.set_cons_succ]
                refine wpAnyH_take (i := 11) (oi := { dst := some 311, op := _, type := _, pos := _, after := _, guard := _ }) (v := ?v7) rfl (by kernel_rfl) (by kernel_rfl) (by kernel_rfl) (fun _ _ _ h => h) (Or.inl ⟨by rfl, ?hy7⟩) (by assumption) ?rest7
                case hy7 => (intro w hSw; clear hSw; go_simp; (try with_reducible rfl))
                try simp only [Act.put, List.setIfInBounds_toArray, List.set_cons_zero, List.set_cons_succ]
                refine wpAnyH_take (i := 12) (oi := { dst := some 312, op := _, type := _, pos := _, after := _, guard := _ }) (v := undef) rfl (by kernel_rfl) (by kernel_rfl) (by kernel_rfl) (fun _ _ _ h => h) (Or.inr ⟨by rfl, rfl⟩) (by assumption) ?_
                try simp only [Act.put, List.setIfInBounds_toArray, List.set_cons_zero, List.set_cons_succ]
                refine wpAnyH_take (i := 13) (oi := { dst := some 313, op := _, type := _, pos := _, after := _, guard := _ }) (v := undef) rfl (by kernel_rfl) (by kernel_rfl) (by kernel_rfl) (fun _ _ _ h => h) (Or.inr ⟨by rfl, rfl⟩) (by assumption) ?_
                try simp only [Act.put, List.setIfInBounds_toArray, List.set_cons_zero, List.set_cons_succ]
                refine wpAnyH_take (i := 14) (oi := { dst := some 314, op := _, type := _, pos := _, after := _, guard := _ }) (v := ?v8) rfl (by kernel_rfl) (by kernel_rfl) (by kernel_rfl) (fun _ _ _ h => h) (Or.inl ⟨by rfl, ?hy8⟩) (by assumption) ?rest8
                case hy8 => (intro w hSw; clear hSw; go_simp; (try with_reducible rfl))
                try simp only [Act.put, List.setIfInBounds_toArray, List.set_cons_zero, List.set_cons_succ]
                refine wpAnyH_take (i := 15) (oi := { dst := some 315, op := _, type := _, pos := _, after := _, guard := _ }) (v := ?v9) rfl (by kernel_rfl) (by kernel_rfl) (by kernel_rfl) (fun _ _ _ h => h) (Or.inl ⟨by rfl, ?hy9⟩) (by assumption) ?rest9
                case hy9 => (intro w hSw; clear hSw; go_simp; (try with_reducible rfl))
                try simp only [Act.put, List.setIfInBounds_toArray, List.set_cons_zero, List.set_cons_succ]
                refine wpAnyH_take (i := 16) (oi := { dst := some 316, op := _, type := _, pos := _, after := _, guard := _ }) (v := ?v10) rfl (by kernel_rfl) (by kernel_rfl) (by kernel_rfl) (fun _ _ _ h => h) (Or.inl ⟨by rfl, ?hy10⟩) (by assumption) ?rest10
                case hy10 => (intro w hSw; clear hSw; go_simp; (try with_reducible rfl))
                try simp only [Act.put, List.setIfInBounds_toArray, List.set_cons_zero, List.set_cons_succ]
                refine wpAnyH_take (i := 17) (oi := { dst := some 317, op := _, type := _, pos := _, after := _, guard := _ }) (v := ?v11) rfl (by kernel_rfl) (by kernel_rfl) (by kernel_rfl) (fun _ _ _ h => h) (Or.inl ⟨by rfl, ?hy11⟩) (by assumption) ?rest11
                case hy11 => (intro w hSw; clear hSw; go_simp; (try with_reducible rfl))
                try simp only [Act.put, List.setIfInBounds_toArray, List.set_cons_zero, List.set_cons_succ]
                refine wpAnyH_take (i := 18) (oi := { dst := some 318, op := _, type := _, pos := _, after := _, guard := _ }) (v := ?v12) rfl (by kernel_rfl) (by kernel_rfl) (by kernel_rfl) (fun _ _ _ h => h) (Or.inl ⟨by rfl, ?hy12⟩) (by assumption) ?rest12
                case hy12 => (intro w hSw; clear hSw; go_simp; (try with_reducible rfl))
                try simp only [Act.put, List.setIfInBounds_toArray, List.set_cons_zero, List.set_cons_succ]
                refine wpAnyH_take (i := 19) (oi := { dst := some 319, op := _, type := _, pos := _, after := _, guard := _ }) (v := ?v13) rfl (by kernel_rfl) (by kernel_rfl) (by kernel_rfl) (fun _ _ _ h => h) (Or.inl ⟨by rfl, ?hy13⟩) (by assumption) ?rest13
                case hy13 => (intro w hSw; clear hSw; go_simp; (try with_reducible rfl))
                try simp only [Act.put, List.setIfInBounds_toArray, List.set_cons_zero, List.set_cons_succ]
                refine wpAnyH_take (i := 20) (oi := { dst := some 320, op := _, type := _, pos := _, after := _, guard := _ }) (v := ?v14) rfl (by kernel_rfl) (by kernel_rfl) (by kernel_rfl) (fun _ _ _ h => h) (Or.inl ⟨by rfl, ?hy14⟩) (by assumption) ?rest14
                case hy14 => (intro w hSw; clear hSw; go_simp; (try with_reducible rfl))
                try simp only [Act.put, List.setIfInBounds_toArray, List.set_cons_zero, List.set_cons_succ]
                refine wpAnyH_take (i := 21) (oi := { dst := some 321, op := _, type := _, pos := _, after := _, guard := _ }) (v := ?v15) rfl (by kernel_rfl) (by kernel_rfl) (by kernel_rfl) (fun _ _ _ h => h) (Or.inl ⟨by rfl, ?hy15⟩) (by assumption) ?rest15
                case hy15 => (intro w hSw; clear hSw; go_simp; (try with_reducible rfl))
                try simp only [Act.put, List.setIfInBounds_toArray, List.set_cons_zero, List.set_cons_succ]
                refine wpAnyH_take (i := 22) (oi := { dst := some 322, op := _, type := _, pos := _, after := _, guard := _ }) (v := ?v16) rfl (by kernel_rfl) (by kernel_rfl) (by kernel_rfl) (fun _ _ _ h => h) (Or.inl ⟨by rfl, ?hy16⟩) (by assumption) ?rest16
                case hy16 => (intro w hSw; clear hSw; go_simp; (try with_reducible rfl))
                try simp only [Act.put, List.setIfInBounds_toArray, List.set_cons_zero, List.set_cons_succ]
                refine wpAnyH_take (i := 23) (oi := { dst := some 323, op := _, type := _, pos := _, after := _, guard := _ }) (v := ?v17) rfl (by kernel_rfl) (by kernel_rfl) (by kernel_rfl) (fun _ _ _ h => h) (Or.inl ⟨by rfl, ?hy17⟩) (by assumption) ?rest17
                case hy17 => (intro w hSw; clear hSw; go_simp; (try with_reducible rfl))
                try simp only [Act.put, List.setIfInBounds_toArray, List.set_cons_zero, List.set_cons_succ]
                refine wpAnyH_take (i := 24) (oi := { dst := some 324, op := _, type := _, pos := _, after := _, guard := _ }) (v := ?v18) rfl (by kernel_rfl) (by kernel_rfl) (by kernel_rfl) (fun _ _ _ h => h) (Or.inl ⟨by rfl, ?hy18⟩) (by assumption) ?rest18
                case hy18 => (intro w hSw; clear hSw; go_simp; (try with_reducible rfl))
                try simp only [Act.put, List.setIfInBounds_toArray, List.set_cons_zero, List.set_cons_succ]
                refine wpAnyH_take (i := 25) (oi := { dst := some 325, op := _, type := _, pos := _, after := _, guard := _ }) (v := ?v19) rfl (by kernel_rfl) (by kernel_rfl) (by kernel_rfl) (fun _ _ _ h => h) (Or.inl ⟨by rfl, ?hy19⟩) (by assumption) ?rest19
                case hy19 => (intro w hSw; clear hSw; go_simp; (try with_reducible rfl))
                try simp only [Act.put, List.setIfInBounds_toArray, List.set_cons_zero, List.set_cons_succ]
                refine wpAnyH_take (i := 26) (oi := { dst := some 326, op := _, type := _, pos := _, after := _, guard := _ }) (v := ?v20) rfl (by kernel_rfl) (by kernel_rfl) (by kernel_rfl) (fun _ _ _ h => h) (Or.inl ⟨by rfl, ?hy20⟩) (by assumption) ?rest20
                case hy20 => (intro w hSw; clear hSw; go_simp; (try with_reducible rfl))
                try simp only [Act.put, List.setIfInBounds_toArray, List.set_cons_zero, List.set_cons_succ]
                refine wpAnyH_take (i := 27) (oi := { dst := some 327, op := _, type := _, pos := _, after := _, guard := _ }) (v := undef) rfl (by kernel_rfl) (by kernel_rfl) (by kernel_rfl) (fun _ _ _ h => h) (Or.inr ⟨by rfl, rfl⟩) (by assumption) ?_
                try simp only [Act.put, List.setIfInBounds_toArray, List.set_cons_zero, List.set_cons_succ]
                refine wpAnyH_take (i := 28) (oi := { dst := some 328, op := _, type := _, pos := _, after := _, guard := _ }) (v := undef) rfl (by kernel_rfl) (by kernel_rfl) (by kernel_rfl) (fun _ _ _ h => h) (Or.inr ⟨by rfl, rfl⟩) (by assumption) ?_
                try simp only [Act.put, List.setIfInBounds_toArray, List.set_cons_zero, List.set_cons_succ]
                refine wpAnyH_take (i := 29) (oi := { dst := some 329, op := _, type := _, pos := _, after := _, guard := _ }) (v := ?v21) rfl (by kernel_rfl) (by kernel_rfl) (by kernel_rfl) (fun _ _ _ h => h) (Or.inl ⟨by rfl, ?hy21⟩) (by assumption) ?rest21
                case hy21 => (intro w hSw; clear hSw; go_simp; (try with_reducible rfl))
                try simp only [Act.put, List.setIfInBounds_toArray, List.set_cons_zero, List.set_cons_succ]
                refine wpAnyH_take (i := 30) (oi := { dst := some 330, op := _, type := _, pos := _, after := _, guard := _ }) (v := ?v22) rfl (by kernel_rfl) (by kernel_rfl) (by kernel_rfl) (fun _ _ _ h => h) (Or.inl ⟨by rfl, ?hy22⟩) (by assumption) ?rest22
                case hy22 => (intro w hSw; clear hSw; go_simp; (try with_reducible rfl))
                try simp only [Act.put, List.setIfInBounds_toArray, List.set_cons_zero, List.set_cons_succ]
                refine wpAnyH_take (i := 31) (oi := { dst := some 2, op := _, type := _, pos := _, after := _, guard := _ }) (v := ?v23) rfl (by kernel_rfl) (by kernel_rfl) (by kernel_rfl) (fun _ _ _ h => h) (Or.inl ⟨by rfl, ?hy23⟩) (by assumption) ?rest23
                case hy23 => (intro w hSw; clear hSw; go_simp; (try with_reducible rfl))
                try simp only [Act.put, List.setIfInBounds_toArray, List.set_cons_zero, List.set_cons_succ]
                refine wpAnyH_done (by kernel_rfl) ?_ _
                go_wp2_with fail
                go_ret
                exact ⟨rfl, HB.out.drew⟩
            · have d1 : decide (0 < SC) = true := by simp; omega
              have d2 : decide (0 < M) = true := by simp; omega
              clear hag hsm
              cases hA : sameB N2 N with
              | true =>
                cases hE : (MO == 0) with
                | true =>
                  as_aux_lemma =>
                    go_wp2_with (first | ((with_reducible show wpList _ _ _ (Oper.mk _ (Op.load 27 _) _ _ _ _ :: _) _ _); refine loadB (K5) rfl rfl rfl ?_) | ((with_reducible show wpList _ _ _ (Oper.mk _ (Op.load 27 _) _ _ _ (some _) :: _) _ _); refine loadgB (K5) rfl rfl rfl ?_) | ((with_reducible show wpList _ _ _ (Oper.mk _ (Op.load 27 _) _ _ _ _ :: _) _ _); refine loadB (K3) rfl rfl rfl ?_) | ((with_reducible show wpList _ _ _ (Oper.mk _ (Op.load 27 _) _ _ _ (some _) :: _) _ _); refine loadgB (K3) rfl rfl rfl ?_) | ((with_reducible show wpList _ _ _ (Oper.mk _ (Op.load 27 _) _ _ _ _ :: _) _ _); refine loadB (K35) rfl rfl rfl ?_) | ((with_reducible show wpList _ _ _ (Oper.mk _ (Op.load 27 _) _ _ _ (some _) :: _) _ _); refine loadgB (K35) rfl rfl rfl ?_))
                    refine wp_region_held_drew (S := fun w' => Blk w' (w31.heap.size) 16 N 27 ∧ Blk w' (w1.heap.size) 16 f 27 ∧ Blk w' (w47.heap.size) 16 N2 27) (by kernel_rfl) ⟨K5.drew, K3.drew, K35.drew⟩ (fun hHeld => ?_)
                    refine wpAnyH_take (i := 0) (oi := { dst := some 300, op := _, type := _, pos := _, after := _, guard := _ }) (v := .agg (mk 16 N)) rfl (by kernel_rfl) (by kernel_rfl) (by kernel_rfl) (fun _ _ _ h => h) (Or.inl ⟨by rfl, fun _ h => execB (h.1) rfl rfl⟩) (by assumption) ?_
                    try simp only [Act.put, List.setIfInBounds_toArray, List.set_cons_zero, List.set_cons_succ]
                    refine wpAnyH_take (i := 1) (oi := { dst := some 301, op := _, type := _, pos := _, after := _, guard := _ }) (v := .agg (mk 16 f)) rfl (by kernel_rfl) (by kernel_rfl) (by kernel_rfl) (fun _ _ _ h => h) (Or.inl ⟨by rfl, fun _ h => execB (h.2.1) rfl rfl⟩) (by assumption) ?_
                    try simp only [Act.put, List.setIfInBounds_toArray, List.set_cons_zero, List.set_cons_succ]
                    refine wpAnyH_take (i := 2) (oi := { dst := some 302, op := _, type := _, pos := _, after := _, guard := _ }) (v := ?v24) rfl (by kernel_rfl) (by kernel_rfl) (by kernel_rfl) (fun _ _ _ h => h) (Or.inl ⟨by rfl, ?hy24⟩) (by assumption) ?rest24
                    case hy24 => (intro w hSw; clear hSw; go_simp; (try with_reducible rfl))
                    try simp only [Act.put, List.setIfInBounds_toArray, List.set_cons_zero, List.set_cons_succ]
                    refine wpAnyH_take (i := 3) (oi := { dst := some 303, op := _, type := _, pos := _, after := _, guard := _ }) (v := ?v25) rfl (by kernel_rfl) (by kernel_rfl) (by kernel_rfl) (fun _ _ _ h => h) (Or.inl ⟨by rfl, ?hy25⟩) (by assumption) ?rest25
                    case hy25 => (intro w hSw; clear hSw; go_simp; (try with_reducible rfl))
                    try simp only [Act.put, List.setIfInBounds_toArray, List.set_cons_zero, List.set_cons_succ]
                    refine wpAnyH_take (i := 4) (oi := { dst := some 304, op := _, type := _, pos := _, after := _, guard := _ }) (v := ?v26) rfl (by kernel_rfl) (by kernel_rfl) (by kernel_rfl) (fun _ _ _ h => h) (Or.inl ⟨by rfl, ?hy26⟩) (by assumption) ?rest26
                    case hy26 => (intro w hSw; clear hSw; go_simp; (try with_reducible rfl))
                    try simp only [Act.put, List.setIfInBounds_toArray, List.set_cons_zero, List.set_cons_succ]
                    refine wpAnyH_ready (rs := [5]) (by kernel_rfl) (by simp) ?_
                    refine AllReadyH.cons rfl (fun K hK => ?_) AllReadyH.nil
                    go_simp
                    refine (HAS.out _ (R1.out.below (drew_below _ 1))).mono ?_
                    rintro e wh ⟨rfl, rfl⟩
                    go_wp2_with fail
                    refine hK.out _ _ hHeld (fun hHeld => ?_)
                    clear hK K
                    try simp only [Act.put, List.setIfInBounds_toArray, List.set_cons_zero, List.set_cons_succ]
                    refine wpAnyH_take (i := 6) (oi := { dst := some 306, op := _, type := _, pos := _, after := _, guard := _ }) (v := ?v27) rfl (by kernel_rfl) (by kernel_rfl) (by kernel_rfl) (fun _ _ _ h => h) (Or.inl ⟨by rfl, ?hy27⟩) (by assumption) ?rest27
                    case hy27 => (intro w hSw; clear hSw; go_simp; (try with_reducible rfl))
                    try simp only [Act.put, List.setIfInBounds_toArray, List.set_cons_zero, List.set_cons_succ]
                    refine wpAnyH_take (i := 7) (oi := { dst := some 307, op := _, type := _, pos := _, after := _, guard := _ }) (v := ?v28) rfl (by kernel_rfl) (by kernel_rfl) (by kernel_rfl) (fun _ _ _ h => h) (Or.inl ⟨by rfl, ?hy28⟩) (by assumption) ?rest28
                    case hy28 => (intro w hSw; clear hSw; go_simp; (try with_reducible rfl))
                    try simp only [Act.put, List.setIfInBounds_toArray, List.set_cons_zero, List.set_cons_succ]
                    refine wpAnyH_take (i := 8) (oi := { dst := some 308, op := _, type := _, pos := _, after := _, guard := _ }) (v := .agg (mk 16 N2)) rfl (by kernel_rfl) (by kernel_rfl) (by kernel_rfl) (fun _ _ _ h => h) (Or.inl ⟨by rfl, fun _ h => execB (h.2.2) rfl rfl⟩) (by assumption) ?_
                    try simp only [Act.put, List.setIfInBounds_toArray, List.set_cons_zero, List.set_cons_succ]
                    refine wpAnyH_take (i := 9) (oi := { dst := some 309, op := _, type := _, pos := _, after := _, guard := _ }) (v := .agg (mk 16 N)) rfl (by kernel_rfl) (by kernel_rfl) (by kernel_rfl) (fun _ _ _ h => h) (Or.inl ⟨by rfl, fun _ h => execB (h.1) rfl rfl⟩) (by assumption) ?_
                    try simp only [Act.put, List.setIfInBounds_toArray, List.set_cons_zero, List.set_cons_succ]
                    refine wpAnyH_take (i := 10) (oi := { dst := some 310, op := _, type := _, pos := _, after := _, guard := _ }) (v := ?v29) rfl (by kernel_rfl) (by kernel_rfl) (by kernel_rfl) (fun _ _ _ h => h) (Or.inl ⟨by rfl, ?hy29⟩) (by assumption) ?rest29
                    case hy29 => (intro w hSw; clear hSw; go_simp; (try with_reducible rfl))
                    try simp only [Act.put, List.setIfInBounds_toArray, List.set_cons_zero, List.set_cons_succ]
                    refine wpAnyH_take (i := 11) (oi := { dst := some 311, op := _, type := _, pos := _, after := _, guard := _ }) (v := ?v30) rfl (by kernel_rfl) (by kernel_rfl) (by kernel_rfl) (fun _ _ _ h => h) (Or.inl ⟨by rfl, ?hy30⟩) (by assumption) ?rest30
                    case hy30 => (intro w hSw; clear hSw; go_simp; (try with_reducible rfl))
                    try simp only [Act.put, List.setIfInBounds_toArray, List.set_cons_zero, List.set_cons_succ]
                    refine wpAnyH_take (i := 12) (oi := { dst := some 312, op := _, type := _, pos := _, after := _, guard := _ }) (v := undef) rfl (by kernel_rfl) (by kernel_rfl) (by kernel_rfl) (fun _ _ _ h => h) (Or.inr ⟨by rfl, rfl⟩) (by assumption) ?_
                    try simp only [Act.put, List.setIfInBounds_toArray, List.set_cons_zero, List.set_cons_succ]
                    refine wpAnyH_take (i := 13) (oi := { dst := some 313, op := _, type := _, pos := _, after := _, guard := _ }) (v := undef) rfl (by kernel_rfl) (by kernel_rfl) (by kernel_rfl) (fun _ _ _ h => h) (Or.inr ⟨by rfl, rfl⟩) (by assumption) ?_
                    try simp only [Act.put, List.setIfInBounds_toArray, List.set_cons_zero, List.set_cons_succ]
                    refine wpAnyH_take (i := 14) (oi := { dst := some 314, op := _, type := _, pos := _, after := _, guard := _ }) (v := ?v31) rfl (by kernel_rfl) (by kernel_rfl) (by kernel_rfl) (fun _ _ _ h => h) (Or.inl ⟨by rfl, ?hy31⟩) (by assumption) ?rest31
                    case hy31 => (intro w hSw; clear hSw; go_simp; (try with_reducible rfl))
                    try simp only [Act.put, List.setIfInBounds_toArray, List.set_cons_zero, List.set_cons_succ]
                    refine wpAnyH_take (i := 15) (oi := { dst := some 315, op := _, type := _, pos := _, after := _, guard := _ }) (v := ?v32) rfl (by kernel_rfl) (by kernel_rfl) (by kernel_rfl) (fun _ _ _ h => h) (Or.inl ⟨by rfl, ?hy32⟩) (by assumption) ?rest32
                    case hy32 => (intro w hSw; clear hSw; go_simp; (try with_reducible rfl))
                    try simp only [Act.put, List.setIfInBounds_toArray, List.set_cons_zero, List.set_cons_succ]
                    refine wpAnyH_take (i := 16) (oi := { dst := some 316, op := _, type := _, pos := _, after := _, guard := _ }) (v := ?v33) rfl (by kernel_rfl) (by kernel_rfl) (by kernel_rfl) (fun _ _ _ h => h) (Or.inl ⟨by rfl, ?hy33⟩) (by assumption) ?rest33
                    case hy33 => (intro w hSw; clear hSw; go_simp; (try with_reducible rfl))
                    try simp only [Act.put, List.setIfInBounds_toArray, List.set_cons_zero, List.set_cons_succ]
                    refine wpAnyH_take (i := 17) (oi := { dst := some 317, op := _, type := _, pos := _, after := _, guard := _ }) (v := ?v34) rfl (by kernel_rfl) (by kernel_rfl) (by kernel_rfl) (fun _ _ _ h => h) (Or.inl ⟨by rfl, ?hy34⟩) (by assumption) ?rest34
                    case hy34 => (intro w hSw; clear hSw; go_simp; (try with_reducible rfl))
                    try simp only [Act.put, List.setIfInBounds_toArray, List.set_cons_zero, List.set_cons_succ]
                    refine wpAnyH_take (i := 18) (oi := { dst := some 318, op := _, type := _, pos := _, after := _, guard := _ }) (v := ?v35) rfl (by kernel_rfl) (by kernel_rfl) (by kernel_rfl) (fun _ _ _ h => h) (Or.inl ⟨by rfl, ?hy35⟩) (by assumption) ?rest35
                    case hy35 => (intro w hSw; clear hSw; go_simp; (try with_reducible rfl))
                    try simp only [Act.put, List.setIfInBounds_toArray, List.set_cons_zero, List.set_cons_succ]
                    refine wpAnyH_take (i := 19) (oi := { dst := some 319, op := _, type := _, pos := _, after := _, guard := _ }) (v := ?v36) rfl (by kernel_rfl) (by kernel_rfl) (by kernel_rfl) (fun _ _ _ h => h) (Or.inl ⟨by rfl, ?hy36⟩) (by assumption) ?rest36
                    case hy36 => (intro w hSw; clear hSw; go_simp; (try with_reducible rfl))
                    try simp only [Act.put, List.setIfInBounds_toArray, List.set_cons_zero, List.set_cons_succ]
                    refine wpAnyH_take (i := 20) (oi := { dst := some 320, op := _, type := _, pos := _, after := _, guard := _ }) (v := ?v37) rfl (by kernel_rfl) (by kernel_rfl) (by kernel_rfl) (fun _ _ _ h => h) (Or.inl ⟨by rfl, ?hy37⟩) (by assumption) ?rest37
                    case hy37 => (intro w hSw; clear hSw; go_simp; (try with_reducible rfl))
                    try simp only [Act.put, List.setIfInBounds_toArray, List.set_cons_zero, List.set_cons_succ]
                    refine wpAnyH_take (i := 21) (oi := { dst := some 321, op := _, type := _, pos := _, after := _, guard := _ }) (v := ?v38) rfl (by kernel_rfl) (by kernel_rfl) (by kernel_rfl) (fun _ _ _ h => h) (Or.inl ⟨by rfl, ?hy38⟩) (by assumption) ?rest38
                    case hy38 => (intro w hSw; clear hSw; go_simp; (try with_reducible rfl))
                    try simp only [Act.put, List.setIfInBounds_toArray, List.set_cons_zero, List.set_cons_succ]
                    refine wpAnyH_take (i := 22) (oi := { dst := some 322, op := _, type := _, pos := _, after := _, guard := _ }) (v := ?v39) rfl (by kernel_rfl) (by kernel_rfl) (by kernel_rfl) (fun _ _ _ h => h) (Or.inl ⟨by rfl, ?hy39⟩) (by assumption) ?rest39
                    case hy39 => (intro w hSw; clear hSw; go_simp; (try with_reducible rfl))
                    try simp only [Act.put, List.setIfInBounds_toArray, List.set_cons_zero, List.set_cons_succ]
                    refine wpAnyH_take (i := 23) (oi := { dst := some 323, op := _, type := _, pos := _, after := _, guard := _ }) (v := ?v40) rfl (by kernel_rfl) (by kernel_rfl) (by kernel_rfl) (fun _ _ _ h => h) (Or.inl ⟨by rfl, ?hy40⟩) (by assumption) ?rest40
                    case hy40 => (intro w hSw; clear hSw; go_simp; (try with_reducible rfl))
                    try simp only [Act.put, List.setIfInBounds_toArray, List.set_cons_zero, List.set_cons_succ]
                    refine wpAnyH_take (i := 24) (oi := { dst := some 324, op := _, type := _, pos := _, after := _, guard := _ }) (v := ?v41) rfl (by kernel_rfl) (by kernel_rfl) (by kernel_rfl) (fun _ _ _ h => h) (Or.inl ⟨by rfl, ?hy41⟩) (by assumption) ?rest41
                    case hy41 => (intro w hSw; clear hSw; go_simp; (try with_reducible rfl))
                    try simp only [Act.put, List.setIfInBounds_toArray, List.set_cons_zero, List.set_cons_succ]
                    refine wpAnyH_take (i := 25) (oi := { dst := some 325, op := _, type := _, pos := _, after := _, guard := _ }) (v := ?v42) rfl (by kernel_rfl) (by kernel_rfl) (by kernel_rfl) (fun _ _ _ h => h) (Or.inl ⟨by rfl, ?hy42⟩) (by assumption) ?rest42
                    case hy42 => (intro w hSw; clear hSw; go_simp; (try with_reducible rfl))
                    try simp only [Act.put, List.setIfInBounds_toArray, List.set_cons_zero, List.set_cons_succ]
                    refine wpAnyH_take (i := 26) (oi := { dst := some 326, op := _, type := _, pos := _, after := _, guard := _ }) (v := ?v43) rfl (by kernel_rfl) (by kernel_rfl) (by kernel_rfl) (fun _ _ _ h => h) (Or.inl ⟨by rfl, ?hy43⟩) (by assumption) ?rest43
                    case hy43 => (intro w hSw; clear hSw; go_simp; (try with_reducible rfl))
                    try simp only [Act.put, List.setIfInBounds_toArray, List.set_cons_zero, List.set_cons_succ]
                    refine wpAnyH_take (i := 27) (oi := { dst := some 327, op := _, type := _, pos := _, after := _, guard := _ }) (v := undef) rfl (by kernel_rfl) (by kernel_rfl) (by kernel_rfl) (fun _ _ _ h => h) (Or.inr ⟨by rfl, rfl⟩) (by assumption) ?_
                    try simp only [Act.put, List.setIfInBounds_toArray, List.set_cons_zero, List.set_cons_succ]
                    refine wpAnyH_take (i := 28) (oi := { dst := some 328, op := _, type := _, pos := _, after := _, guard := _ }) (v := undef) rfl (by kernel_rfl) (by kernel_rfl) (by kernel_rfl) (fun _ _ _ h => h) (Or.inr ⟨by rfl, rfl⟩) (by assumption) ?_
                    try simp only [Act.put, List.setIfInBounds_toArray, List.set_cons_zero, List.set_cons_succ]
                    refine wpAnyH_take (i := 29) (oi := { dst := some 329, op := _, type := _, pos := _, after := _, guard := _ }) (v := ?v44) rfl (by kernel_rfl) (by kernel_rfl) (by kernel_rfl) (fun _ _ _ h => h) (Or.inl ⟨by rfl, ?hy44⟩) (by assumption) ?rest44
                    case hy44 => (intro w hSw; clear hSw; go_simp; (try with_reducible rfl))
                    try simp only [Act.put, List.setIfInBounds_toArray, List.set_cons_zero, List.set_cons_succ]
                    refine wpAnyH_take (i := 30) (oi := { dst := some 330, op := _, type := _, pos := _, after := _, guard := _ }) (v := ?v45) rfl (by kernel_rfl) (by kernel_rfl) (by kernel_rfl) (fun _ _ _ h => h) (Or.inl ⟨by rfl, ?hy45⟩) (by assumption) ?rest45
                    case hy45 => (intro w hSw; clear hSw; go_simp; (try with_reducible rfl))
                    try simp only [Act.put, List.setIfInBounds_toArray, List.set_cons_zero, List.set_cons_succ]
                    refine wpAnyH_take (i := 31) (oi := { dst := some 2, op := _, type := _, pos := _, after := _, guard := _ }) (v := ?v46) rfl (by kernel_rfl) (by kernel_rfl) (by kernel_rfl) (fun _ _ _ h => h) (Or.inl ⟨by rfl, ?hy46⟩) (by assumption) ?rest46
                    case hy46 => (intro w hSw; clear hSw; go_simp; (try with_reducible rfl))
                    try simp only [Act.put, List.setIfInBounds_toArray, List.set_cons_zero, List.set_cons_succ]
                    refine wpAnyH_done (by kernel_rfl) ?_ _
                    go_wp2_with fail
                    go_ret
                    exact ⟨rfl, HB.out.drew⟩
                | false =>
                  as_aux_lemma =>
                    go_wp2_with (first | ((with_reducible show wpList _ _ _ (Oper.mk _ (Op.load 27 _) _ _ _ _ :: _) _ _); refine loadB (K5) rfl rfl rfl ?_) | ((with_reducible show wpList _ _ _ (Oper.mk _ (Op.load 27 _) _ _ _ (some _) :: _) _ _); refine loadgB (K5) rfl rfl rfl ?_) | ((with_reducible show wpList _ _ _ (Oper.mk _ (Op.load 27 _) _ _ _ _ :: _) _ _); refine loadB (K3) rfl rfl rfl ?_) | ((with_reducible show wpList _ _ _ (Oper.mk _ (Op.load 27 _) _ _ _ (some _) :: _) _ _); refine loadgB (K3) rfl rfl rfl ?_) | ((with_reducible show wpList _ _ _ (Oper.mk _ (Op.load 27 _) _ _ _ _ :: _) _ _); refine loadB (K35) rfl rfl rfl ?_) | ((with_reducible show wpList _ _ _ (Oper.mk _ (Op.load 27 _) _ _ _ (some _) :: _) _ _); refine loadgB (K35) rfl rfl rfl ?_))
                    refine wp_region_held_drew (S := fun w' => Blk w' (w31.heap.size) 16 N 27 ∧ Blk w' (w1.heap.size) 16 f 27 ∧ Blk w' (w47.heap.size) 16 N2 27) (by kernel_rfl) ⟨K5.drew, K3.drew, K35.drew⟩ (fun hHeld => ?_)
                    refine wpAnyH_take (i := 0) (oi := { dst := some 300, op := _, type := _, pos := _, after := _, guard := _ }) (v := .agg (mk 16 N)) rfl (by kernel_rfl) (by kernel_rfl) (by kernel_rfl) (fun _ _ _ h => h) (Or.inl ⟨by rfl, fun _ h => execB (h.1) rfl rfl⟩) (by assumption) ?_
                    try simp only [Act.put, List.setIfInBounds_toArray, List.set_cons_zero, List.set_cons_succ]
                    refine wpAnyH_take (i := 1) (oi := { dst := some 301, op := _, type := _, pos := _, after := _, guard := _ }) (v := .agg (mk 16 f)) rfl (by kernel_rfl) (by kernel_rfl) (by kernel_rfl) (fun _ _ _ h => h) (Or.inl ⟨by rfl, fun _ h => execB (h.2.1) rfl rfl⟩) (by assumption) ?_
                    try simp only [Act.put, List.setIfInBounds_toArray, List.set_cons_zero, List.set_cons_succ]
                    refine wpAnyH_take (i := 2) (oi := { dst := some 302, op := _, type := _, pos := _, after := _, guard := _ }) (v := ?v47) rfl (by kernel_rfl) (by kernel_rfl) (by kernel_rfl) (fun _ _ _ h => h) (Or.inl ⟨by rfl, ?hy47⟩) (by assumption) ?rest47
                    case hy47 => (intro w hSw; clear hSw; go_simp; (try with_reducible rfl))
                    try simp only [Act.put, List.setIfInBounds_toArray, List.set_cons_zero, List.set_cons_succ]
                    refine wpAnyH_take (i := 3) (oi := { dst := some 303, op := _, type := _, pos := _, after := _, guard := _ }) (v := ?v48) rfl (by kernel_rfl) (by kernel_rfl) (by kernel_rfl) (fun _ _ _ h => h) (Or.inl ⟨by rfl, ?hy48⟩) (by assumption) ?rest48
                    case hy48 => (intro w hSw; clear hSw; go_simp; (try with_reducible rfl))
                    try simp only [Act.put, List.setIfInBounds_toArray, List.set_cons_zero, List.set_cons_succ]
                    refine wpAnyH_take (i := 4) (oi := { dst := some 304, op := _, type := _, pos := _, after := _, guard := _ }) (v := ?v49) rfl (by kernel_rfl) (by kernel_rfl) (by kernel_rfl) (fun _ _ _ h => h) (Or.inl ⟨by rfl, ?hy49⟩) (by assumption) ?rest49
                    case hy49 => (intro w hSw; clear hSw; go_simp; (try with_reducible rfl))
                    try simp only [Act.put, List.setIfInBounds_toArray, List.set_cons_zero, List.set_cons_succ]
                    refine wpAnyH_ready (rs := [5]) (by kernel_rfl) (by simp) ?_
                    refine AllReadyH.cons rfl (fun K hK => ?_) AllReadyH.nil
                    go_simp
                    refine (HAS.out _ (R1.out.below (drew_below _ 1))).mono ?_
                    rintro e wh ⟨rfl, rfl⟩
                    go_wp2_with fail
                    refine hK.out _ _ hHeld (fun hHeld => ?_)
                    clear hK K
                    try simp only [Act.put, List.setIfInBounds_toArray, List.set_cons_zero, List.set_cons_succ]
                    refine wpAnyH_take (i := 6) (oi := { dst := some 306, op := _, type := _, pos := _, after := _, guard := _ }) (v := ?v50) rfl (by kernel_rfl) (by kernel_rfl) (by kernel_rfl) (fun _ _ _ h => h) (Or.inl ⟨by rfl, ?hy50⟩) (by assumption) ?rest50
                    case hy50 => (intro w hSw; clear hSw; go_simp; (try with_reducible rfl))
                    try simp only [Act.put, List.setIfInBounds_toArray, List.set_cons_zero, List.set_cons_succ]
                    refine wpAnyH_take (i := 7) (oi := { dst := some 307, op := _, type := _, pos := _, after := _, guard := _ }) (v := ?v51) rfl (by kernel_rfl) (by kernel_rfl) (by kernel_rfl) (fun _ _ _ h => h) (Or.inl ⟨by rfl, ?hy51⟩) (by assumption) ?rest51
                    case hy51 => (intro w hSw; clear hSw; go_simp; (try with_reducible rfl))
                    try simp only [Act.put, List.setIfInBounds_toArray, List.set_cons_zero, List.set_cons_succ]
                    refine wpAnyH_take (i := 8) (oi := { dst := some 308, op := _, type := _, pos := _, after := _, guard := _ }) (v := .agg (mk 16 N2)) rfl (by kernel_rfl) (by kernel_rfl) (by kernel_rfl) (fun _ _ _ h => h) (Or.inl ⟨by rfl, fun _ h => execB (h.2.2) rfl rfl⟩) (by assumption) ?_
                    try simp only [Act.put, List.setIfInBounds_toArray, List.set_cons_zero, List.set_cons_succ]
                    refine wpAnyH_take (i := 9) (oi := { dst := some 309, op := _, type := _, pos := _, after := _, guard := _ }) (v := .agg (mk 16 N)) rfl (by kernel_rfl) (by kernel_rfl) (by kernel_rfl) (fun _ _ _ h => h) (Or.inl ⟨by rfl, fun _ h => execB (h.1) rfl rfl⟩) (by assumption) ?_
                    try simp only [Act.put, List.setIfInBounds_toArray, List.set_cons_zero, List.set_cons_succ]
                    refine wpAnyH_take (i := 10) (oi := { dst := some 310, op := _, type := _, pos := _, after := _, guard := _ }) (v := ?v52) rfl (by kernel_rfl) (by kernel_rfl) (by kernel_rfl) (fun _ _ _ h => h) (Or.inl ⟨by rfl, ?hy52⟩) (by assumption) ?rest52
                    case hy52 => (intro w hSw; clear hSw; go_simp; (try with_reducible rfl))
                    try simp only [Act.put, List.setIfInBounds_toArray, List.set_cons_zero, List.set_cons_succ]
                    refine wpAnyH_take (i := 11) (oi := { dst := some 311, op := _, type := _, pos := _, after := _, guard := _ }) (v := ?v53) rfl (by kernel_rfl) (by kernel_rfl) (by kernel_rfl) (fun _ _ _ h => h) (Or.inl ⟨by rfl, ?hy53⟩) (by assumption) ?rest53
                    case hy53 => (intro w hSw; clear hSw; go_simp; (try with_reducible rfl))
                    try simp only [Act.put, List.setIfInBounds_toArray, List.set_cons_zero, List.set_cons_succ]
                    refine wpAnyH_take (i := 12) (oi := { dst := some 312, op := _, type := _, pos := _, after := _, guard := _ }) (v := undef) rfl (by kernel_rfl) (by kernel_rfl) (by kernel_rfl) (fun _ _ _ h => h) (Or.inr ⟨by rfl, rfl⟩) (by assumption) ?_
                    try simp only [Act.put, List.setIfInBounds_toArray, List.set_cons_zero, List.set_cons_succ]
                    refine wpAnyH_take (i := 13) (oi := { dst := some 313, op := _, type := _, pos := _, after := _, guard := _ }) (v := undef) rfl (by kernel_rfl) (by kernel_rfl) (by kernel_rfl) (fun _ _ _ h => h) (Or.inr ⟨by rfl, rfl⟩) (by assumption) ?_
                    try simp only [Act.put, List.setIfInBounds_toArray, List.set_cons_zero, List.set_cons_succ]
                    refine wpAnyH_take (i := 14) (oi := { dst := some 314, op := _, type := _, pos := _, after := _, guard := _ }) (v := ?v54) rfl (by kernel_rfl) (by kernel_rfl) (by kernel_rfl) (fun _ _ _ h => h) (Or.inl ⟨by rfl, ?hy54⟩) (by assumption) ?rest54
                    case hy54 => (intro w hSw; clear hSw; go_simp; (try with_reducible rfl))
                    try simp only [Act.put, List.setIfInBounds_toArray, List.set_cons_zero, List.set_cons_succ]
                    refine wpAnyH_take (i := 15) (oi := { dst := some 315, op := _, type := _, pos := _, after := _, guard := _ }) (v := ?v55) rfl (by kernel_rfl) (by kernel_rfl) (by kernel_rfl) (fun _ _ _ h => h) (Or.inl ⟨by rfl, ?hy55⟩) (by assumption) ?rest55
                    case hy55 => (intro w hSw; clear hSw; go_simp; (try with_reducible rfl))
                    try simp only [Act.put, List.setIfInBounds_toArray, List.set_cons_zero, List.set_cons_succ]
                    refine wpAnyH_take (i := 16) (oi := { dst := some 316, op := _, type := _, pos := _, after := _, guard := _ }) (v := ?v56) rfl (by kernel_rfl) (by kernel_rfl) (by kernel_rfl) (fun _ _ _ h => h) (Or.inl ⟨by rfl, ?hy56⟩) (by assumption) ?rest56
                    case hy56 => (intro w hSw; clear hSw; go_simp; (try with_reducible rfl))
                    try simp only [Act.put, List.setIfInBounds_toArray, List.set_cons_zero, List.set_cons_succ]
                    refine wpAnyH_take (i := 17) (oi := { dst := some 317, op := _, type := _, pos := _, after := _, guard := _ }) (v := ?v57) rfl (by kernel_rfl) (by kernel_rfl) (by kernel_rfl) (fun _ _ _ h => h) (Or.inl ⟨by rfl, ?hy57⟩) (by assumption) ?rest57
                    case hy57 => (intro w hSw; clear hSw; go_simp; (try with_reducible rfl))
                    try simp only [Act.put, List.setIfInBounds_toArray, List.set_cons_zero, List.set_cons_succ]
                    refine wpAnyH_take (i := 18) (oi := { dst := some 318, op := _, type := _, pos := _, after := _, guard := _ }) (v := ?v58) rfl (by kernel_rfl) (by kernel_rfl) (by kernel_rfl) (fun _ _ _ h => h) (Or.inl ⟨by rfl, ?hy58⟩) (by assumption) ?rest58
                    case hy58 => (intro w hSw; clear hSw; go_simp; (try with_reducible rfl))
                    try simp only [Act.put, List.setIfInBounds_toArray, List.set_cons_zero, List.set_cons_succ]
                    refine wpAnyH_take (i := 19) (oi := { dst := some 319, op := _, type := _, pos := _, after := _, guard := _ }) (v := ?v59) rfl (by kernel_rfl) (by kernel_rfl) (by kernel_rfl) (fun _ _ _ h => h) (Or.inl ⟨by rfl, ?hy59⟩) (by assumption) ?rest59
                    case hy59 => (intro w hSw; clear hSw; go_simp; (try with_reducible rfl))
                    try simp only [Act.put, List.setIfInBounds_toArray, List.set_cons_zero, List.set_cons_succ]
                    refine wpAnyH_take (i := 20) (oi := { dst := some 320, op := _, type := _, pos := _, after := _, guard := _ }) (v := ?v60) rfl (by kernel_rfl) (by kernel_rfl) (by kernel_rfl) (fun _ _ _ h => h) (Or.inl ⟨by rfl, ?hy60⟩) (by assumption) ?rest60
                    case hy60 => (intro w hSw; clear hSw; go_simp; (try with_reducible rfl))
                    try simp only [Act.put, List.setIfInBounds_toArray, List.set_cons_zero, List.set_cons_succ]
                    refine wpAnyH_take (i := 21) (oi := { dst := some 321, op := _, type := _, pos := _, after := _, guard := _ }) (v := ?v61) rfl (by kernel_rfl) (by kernel_rfl) (by kernel_rfl) (fun _ _ _ h => h) (Or.inl ⟨by rfl, ?hy61⟩) (by assumption) ?rest61
                    case hy61 => (intro w hSw; clear hSw; go_simp; (try with_reducible rfl))
                    try simp only [Act.put, List.setIfInBounds_toArray, List.set_cons_zero, List.set_cons_succ]
                    refine wpAnyH_take (i := 22) (oi := { dst := some 322, op := _, type := _, pos := _, after := _, guard := _ }) (v := ?v62) rfl (by kernel_rfl) (by kernel_rfl) (by kernel_rfl) (fun _ _ _ h => h) (Or.inl ⟨by rfl, ?hy62⟩) (by assumption) ?rest62
                    case hy62 => (intro w hSw; clear hSw; go_simp; (try with_reducible rfl))
                    try simp only [Act.put, List.setIfInBounds_toArray, List.set_cons_zero, List.set_cons_succ]
                    refine wpAnyH_take (i := 23) (oi := { dst := some 323, op := _, type := _, pos := _, after := _, guard := _ }) (v := ?v63) rfl (by kernel_rfl) (by kernel_rfl) (by kernel_rfl) (fun _ _ _ h => h) (Or.inl ⟨by rfl, ?hy63⟩) (by assumption) ?rest63
                    case hy63 => (intro w hSw; clear hSw; go_simp; (try with_reducible rfl))
                    try simp only [Act.put, List.setIfInBounds_toArray, List.set_cons_zero, List.set_cons_succ]
                    refine wpAnyH_take (i := 24) (oi := { dst := some 324, op := _, type := _, pos := _, after := _, guard := _ }) (v := ?v64) rfl (by kernel_rfl) (by kernel_rfl) (by kernel_rfl) (fun _ _ _ h => h) (Or.inl ⟨by rfl, ?hy64⟩) (by assumption) ?rest64
                    case hy64 => (intro w hSw; clear hSw; go_simp; (try with_reducible rfl))
                    try simp only [Act.put, List.setIfInBounds_toArray, List.set_cons_zero, List.set_cons_succ]
                    refine wpAnyH_take (i := 25) (oi := { dst := some 325, op := _, type := _, pos := _, after := _, guard := _ }) (v := ?v65) rfl (by kernel_rfl) (by kernel_rfl) (by kernel_rfl) (fun _ _ _ h => h) (Or.inl ⟨by rfl, ?hy65⟩) (by assumption) ?rest65
                    case hy65 => (intro w hSw; clear hSw; go_simp; (try with_reducible rfl))
                    try simp only [Act.put, List.setIfInBounds_toArray, List.set_cons_zero, List.set_cons_succ]
                    refine wpAnyH_take (i := 26) (oi := { dst := some 326, op := _, type := _, pos := _, after := _, guard := _ }) (v := ?v66) rfl (by kernel_rfl) (by kernel_rfl) (by kernel_rfl) (fun _ _ _ h => h) (Or.inl ⟨by rfl, ?hy66⟩) (by assumption) ?rest66
                    case hy66 => (intro w hSw; clear hSw; go_simp; (try with_reducible rfl))
                    try simp only [Act.put, List.setIfInBounds_toArray, List.set_cons_zero, List.set_cons_succ]
                    refine wpAnyH_take (i := 27) (oi := { dst := some 327, op := _, type := _, pos := _, after := _, guard := _ }) (v := ?v67) rfl (by kernel_rfl) (by kernel_rfl) (by kernel_rfl) (fun _ _ _ h => h) (Or.inl ⟨by rfl, ?hy67⟩) (by assumption) ?rest67
                    case hy67 => (intro w hSw; clear hSw; go_simp; (try with_reducible rfl))
                    try simp only [Act.put, List.setIfInBounds_toArray, List.set_cons_zero, List.set_cons_succ]
                    refine wpAnyH_take (i := 28) (oi := { dst := some 328, op := _, type := _, pos := _, after := _, guard := _ }) (v := ?v68) rfl (by kernel_rfl) (by kernel_rfl) (by kernel_rfl) (fun _ _ _ h => h) (Or.inl ⟨by rfl, ?hy68⟩) (by assumption) ?rest68
                    case hy68 => (intro w hSw; clear hSw; go_simp; (try with_reducible rfl))
                    try simp only [Act.put, List.setIfInBounds_toArray, List.set_cons_zero, List.set_cons_succ]
                    refine wpAnyH_take (i := 29) (oi := { dst := some 329, op := _, type := _, pos := _, after := _, guard := _ }) (v := ?v69) rfl (by kernel_rfl) (by kernel_rfl) (by kernel_rfl) (fun _ _ _ h => h) (Or.inl ⟨by rfl, ?hy69⟩) (by assumption) ?rest69
                    case hy69 => (intro w hSw; clear hSw; go_simp; (try with_reducible rfl))
                    try simp only [Act.put, List.setIfInBounds_toArray, List.set_cons_zero, List.set_cons_succ]
                    refine wpAnyH_take (i := 30) (oi := { dst := some 330, op := _, type := _, pos := _, after := _, guard := _ }) (v := ?v70) rfl (by kernel_rfl) (by kernel_rfl) (by kernel_rfl) (fun _ _ _ h => h) (Or.inl ⟨by rfl, ?hy70⟩) (by assumption) ?rest70
                    case hy70 => (intro w hSw; clear hSw; go_simp; (try with_reducible rfl))
                    try simp only [Act.put, List.setIfInBounds_toArray, List.set_cons_zero, List.set_cons_succ]
                    refine wpAnyH_take (i := 31) (oi := { dst := some 2, op := _, type := _, pos := _, after := _, guard := _ }) (v := ?v71) rfl (by kernel_rfl) (by kernel_rfl) (by kernel_rfl) (fun _ _ _ h => h) (Or.inl ⟨by rfl, ?hy71⟩) (by assumption) ?rest71
                    case hy71 => (intro w hSw; clear hSw; go_simp; (try with_reducible rfl))
                    try simp only [Act.put, List.setIfInBounds_toArray, List.set_cons_zero, List.set_cons_succ]
                    refine wpAnyH_done (by kernel_rfl) ?_ _
                    go_wp2_with fail
                    go_ret
                    exact ⟨rfl, HB.out.drew⟩
              | false =>
                cases hE : (MO == 0) with
                | true =>
                  as_aux_lemma =>
                    go_wp2_with (first | ((with_reducible show wpList _ _ _ (Oper.mk _ (Op.load 27 _) _ _ _ _ :: _) _ _); refine loadB (K5) rfl rfl rfl ?_) | ((with_reducible show wpList _ _ _ (Oper.mk _ (Op.load 27 _) _ _ _ (some _) :: _) _ _); refine loadgB (K5) rfl rfl rfl ?_) | ((with_reducible show wpList _ _ _ (Oper.mk _ (Op.load 27 _) _ _ _ _ :: _) _ _); refine loadB (K3) rfl rfl rfl ?_) | ((with_reducible show wpList _ _ _ (Oper.mk _ (Op.load 27 _) _ _ _ (some _) :: _) _ _); refine loadgB (K3) rfl rfl rfl ?_) | ((with_reducible show wpList _ _ _ (Oper.mk _ (Op.load 27 _) _ _ _ _ :: _) _ _); refine loadB (K35) rfl rfl rfl ?_) | ((with_reducible show wpList _ _ _ (Oper.mk _ (Op.load 27 _) _ _ _ (some _) :: _) _ _); refine loadgB (K35) rfl rfl rfl ?_))
                    refine wp_region_held_drew (S := fun w' => Blk w' (w31.heap.size) 16 N 27 ∧ Blk w' (w1.heap.size) 16 f 27 ∧ Blk w' (w47.heap.size) 16 N2 27) (by kernel_rfl) ⟨K5.drew, K3.drew, K35.drew⟩ (fun hHeld => ?_)
                    refine wpAnyH_take (i := 0) (oi := { dst := some 300, op := _, type := _, pos := _, after := _, guard := _ }) (v := .agg (mk 16 N)) rfl (by kernel_rfl) (by kernel_rfl) (by kernel_rfl) (fun _ _ _ h => h) (Or.inl ⟨by rfl, fun _ h => execB (h.1) rfl rfl⟩) (by assumption) ?_
                    try simp only [Act.put, List.setIfInBounds_toArray, List.set_cons_zero, List.set_cons_succ]
                    refine wpAnyH_take (i := 1) (oi := { dst := some 301, op := _, type := _, pos := _, after := _, guard := _ }) (v := .agg (mk 16 f)) rfl (by kernel_rfl) (by kernel_rfl) (by kernel_rfl) (fun _ _ _ h => h) (Or.inl ⟨by rfl, fun _ h => execB (h.2.1) rfl rfl⟩) (by assumption) ?_
                    try simp only [Act.put, List.setIfInBounds_toArray, List.set_cons_zero, List.set_cons_succ]
                    refine wpAnyH_take (i := 2) (oi := { dst := some 302, op := _, type := _, pos := _, after := _, guard := _ }) (v := ?v72) rfl (by kernel_rfl) (by kernel_rfl) (by kernel_rfl) (fun _ _ _ h => h) (Or.inl ⟨by rfl, ?hy72⟩) (by assumption) ?rest72
                    case hy72 => (intro w hSw; clear hSw; go_simp; (try with_reducible rfl))
                    try simp only [Act.put, List.setIfInBounds_toArray, List.set_cons_zero, List.set_cons_succ]
                    refine wpAnyH_take (i := 3) (oi := { dst := some 303, op := _, type := _, pos := _, after := _, guard := _ }) (v := ?v73) rfl (by kernel_rfl) (by kernel_rfl) (by kernel_rfl) (fun _ _ _ h => h) (Or.inl ⟨by rfl, ?hy73⟩) (by assumption) ?rest73
                    case hy73 => (intro w hSw; clear hSw; go_simp; (try with_reducible rfl))
                    try simp only [Act.put, List.setIfInBounds_toArray, List.set_cons_zero, List.set_cons_succ]
                    refine wpAnyH_take (i := 4) (oi := { dst := some 304, op := _, type := _, pos := _, after := _, guard := _ }) (v := ?v74) rfl (by kernel_rfl) (by kernel_rfl) (by kernel_rfl) (fun _ _ _ h => h) (Or.inl ⟨by rfl, ?hy74⟩) (by assumption) ?rest74
                    case hy74 => (intro w hSw; clear hSw; go_simp; (try with_reducible rfl))
                    try simp only [Act.put, List.setIfInBounds_toArray, List.set_cons_zero, List.set_cons_succ]
                    refine wpAnyH_ready (rs := [5]) (by kernel_rfl) (by simp) ?_
                    refine AllReadyH.cons rfl (fun K hK => ?_) AllReadyH.nil
                    go_simp
                    refine (HAS.out _ (R1.out.below (drew_below _ 1))).mono ?_
                    rintro e wh ⟨rfl, rfl⟩
                    go_wp2_with fail
                    refine hK.out _ _ hHeld (fun hHeld => ?_)
                    clear hK K
                    try simp only [Act.put, List.setIfInBounds_toArray, List.set_cons_zero, List.set_cons_succ]
                    refine wpAnyH_take (i := 6) (oi := { dst := some 306, op := _, type := _, pos := _, after := _, guard := _ }) (v := ?v75) rfl (by kernel_rfl) (by kernel_rfl) (by kernel_rfl) (fun _ _ _ h => h) (Or.inl ⟨by rfl, ?hy75⟩) (by assumption) ?rest75
                    case hy75 => (intro w hSw; clear hSw; go_simp; (try with_reducible rfl))
                    try simp only [Act.put, List.setIfInBounds_toArray, List.set_cons_zero, List.set_cons_succ]
                    refine wpAnyH_take (i := 7) (oi := { dst := some 307, op := _, type := _, pos := _, after := _, guard := _ }) (v := ?v76) rfl (by kernel_rfl) (by kernel_rfl) (by kernel_rfl) (fun _ _ _ h => h) (Or.inl ⟨by rfl, ?hy76⟩) (by assumption) ?rest76
                    case hy76 => (intro w hSw; clear hSw; go_simp; (try with_reducible rfl))
                    try simp only [Act.put, List.setIfInBounds_toArray, List.set_cons_zero, List.set_cons_succ]
                    refine wpAnyH_take (i := 8) (oi := { dst := some 308, op := _, type := _, pos := _, after := _, guard := _ }) (v := .agg (mk 16 N2)) rfl (by kernel_rfl) (by kernel_rfl) (by kernel_rfl) (fun _ _ _ h => h) (Or.inl ⟨by rfl, fun _ h => execB (h.2.2) rfl rfl⟩) (by assumption) ?_
                    try simp only [Act.put, List.setIfInBounds_toArray, List.set_cons_zero, List.set_cons_succ]
                    refine wpAnyH_take (i := 9) (oi := { dst := some 309, op := _, type := _, pos := _, after := _, guard := _ }) (v := .agg (mk 16 N)) rfl (by kernel_rfl) (by kernel_rfl) (by kernel_rfl) (fun _ _ _ h => h) (Or.inl ⟨by rfl, fun _ h => execB (h.1) rfl rfl⟩) (by assumption) ?_
                    try simp only [Act.put, List.setIfInBounds_toArray, List.set_cons_zero, List.set_cons_succ]
                    refine wpAnyH_take (i := 10) (oi := { dst := some 310, op := _, type := _, pos := _, after := _, guard := _ }) (v := ?v77) rfl (by kernel_rfl) (by kernel_rfl) (by kernel_rfl) (fun _ _ _ h => h) (Or.inl ⟨by rfl, ?hy77⟩) (by assumption) ?rest77
                    case hy77 => (intro w hSw; clear hSw; go_simp; (try with_reducible rfl))
                    try simp only [Act.put, List.setIfInBounds_toArray, List.set_cons_zero, List.set_cons_succ]
                    refine wpAnyH_take (i := 11) (oi := { dst := some 311, op := _, type := _, pos := _, after := _, guard := _ }) (v := ?v78) rfl (by kernel_rfl) (by kernel_rfl) (by kernel_rfl) (fun _ _ _ h => h) (Or.inl ⟨by rfl, ?hy78⟩) (by assumption) ?rest78
                    case hy78 => (intro w hSw; clear hSw; go_simp; (try with_reducible rfl))
                    try simp only [Act.put, List.setIfInBounds_toArray, List.set_cons_zero, List.set_cons_succ]
                    refine wpAnyH_take (i := 12) (oi := { dst := some 312, op := _, type := _, pos := _, after := _, guard := _ }) (v := ?v79) rfl (by kernel_rfl) (by kernel_rfl) (by kernel_rfl) (fun _ _ _ h => h) (Or.inl ⟨by rfl, ?hy79⟩) (by assumption) ?rest79
                    case hy79 => (intro w hSw; clear hSw; go_simp; (try with_reducible rfl))
                    try simp only [Act.put, List.setIfInBounds_toArray, List.set_cons_zero, List.set_cons_succ]
                    refine wpAnyH_take (i := 13) (oi := { dst := some 313, op := _, type := _, pos := _, after := _, guard := _ }) (v := ?v80) rfl (by kernel_rfl) (by kernel_rfl) (by kernel_rfl) (fun _ _ _ h => h) (Or.inl ⟨by rfl, ?hy80⟩) (by assumption) ?rest80
                    case hy80 => (intro w hSw; clear hSw; go_simp; (try with_reducible rfl))
                    try simp only [Act.put, List.setIfInBounds_toArray, List.set_cons_zero, List.set_cons_succ]
                    refine wpAnyH_take (i := 14) (oi := { dst := some 314, op := _, type := _, pos := _, after := _, guard := _ }) (v := ?v81) rfl (by kernel_rfl) (by kernel_rfl) (by kernel_rfl) (fun _ _ _ h => h) (Or.inl ⟨by rfl, ?hy81⟩) (by assumption) ?rest81
                    case hy81 => (intro w hSw; clear hSw; go_simp; (try with_reducible rfl))
                    try simp only [Act.put, List.setIfInBounds_toArray, List.set_cons_zero, List.set_cons_succ]
                    refine wpAnyH_take (i := 15) (oi := { dst := some 315, op := _, type := _, pos := _, after := _, guard := _ }) (v := ?v82) rfl (by kernel_rfl) (by kernel_rfl) (by kernel_rfl) (fun _ _ _ h => h) (Or.inl ⟨by rfl, ?hy82⟩) (by assumption) ?rest82
                    case hy82 => (intro w hSw; clear hSw; go_simp; (try with_reducible rfl))
                    try simp only [Act.put, List.setIfInBounds_toArray, List.set_cons_zero, List.set_cons_succ]
                    refine wpAnyH_take (i := 16) (oi := { dst := some 316, op := _, type := _, pos := _, after := _, guard := _ }) (v := ?v83) rfl (by kernel_rfl) (by kernel_rfl) (by kernel_rfl) (fun _ _ _ h => h) (Or.inl ⟨by rfl, ?hy83⟩) (by assumption) ?rest83
                    case hy83 => (intro w hSw; clear hSw; go_simp; (try with_reducible rfl))
                    try simp only [Act.put, List.setIfInBounds_toArray, List.set_cons_zero, List.set_cons_succ]
                    refine wpAnyH_take (i := 17) (oi := { dst := some 317, op := _, type := _, pos := _, after := _, guard := _ }) (v := ?v84) rfl (by kernel_rfl) (by kernel_rfl) (by kernel_rfl) (fun _ _ _ h => h) (Or.inl ⟨by rfl, ?hy84⟩) (by assumption) ?rest84
                    case hy84 => (intro w hSw; clear hSw; go_simp; (try with_reducible rfl))
                    try simp only [Act.put, List.setIfInBounds_toArray, List.set_cons_zero, List.set_cons_succ]
                    refine wpAnyH_take (i := 18) (oi := { dst := some 318, op := _, type := _, pos := _, after := _, guard := _ }) (v := ?v85) rfl (by kernel_rfl) (by kernel_rfl) (by kernel_rfl) (fun _ _ _ h => h) (Or.inl ⟨by rfl, ?hy85⟩) (by assumption) ?rest85
                    case hy85 => (intro w hSw; clear hSw; go_simp; (try with_reducible rfl))
                    try simp only [Act.put, List.setIfInBounds_toArray, List.set_cons_zero, List.set_cons_succ]
                    refine wpAnyH_take (i := 19) (oi := { dst := some 319, op := _, type := _, pos := _, after := _, guard := _ }) (v := ?v86) rfl (by kernel_rfl) (by kernel_rfl) (by kernel_rfl) (fun _ _ _ h => h) (Or.inl ⟨by rfl, ?hy86⟩) (by assumption) ?rest86
                    case hy86 => (intro w hSw; clear hSw; go_simp; (try with_reducible rfl))
                    try simp only [Act.put, List.setIfInBounds_toArray, List.set_cons_zero, List.set_cons_succ]
                    refine wpAnyH_take (i := 20) (oi := { dst := some 320, op := _, type := _, pos := _, after := _, guard := _ }) (v := ?v87) rfl (by kernel_rfl) (by kernel_rfl) (by kernel_rfl) (fun _ _ _ h => h) (Or.inl ⟨by rfl, ?hy87⟩) (by assumption) ?rest87
                    case hy87 => (intro w hSw; clear hSw; go_simp; (try with_reducible rfl))
                    try simp only [Act.put, List.setIfInBounds_toArray, List.set_cons_zero, List.set_cons_succ]
                    refine wpAnyH_take (i := 21) (oi := { dst := some 321, op := _, type := _, pos := _, after := _, guard := _ }) (v := ?v88) rfl (by kernel_rfl) (by kernel_rfl) (by kernel_rfl) (fun _ _ _ h => h) (Or.inl ⟨by rfl, ?hy88⟩) (by assumption) ?rest88
                    case hy88 => (intro w hSw; clear hSw; go_simp; (try with_reducible rfl))
                    try simp only [Act.put, List.setIfInBounds_toArray, List.set_cons_zero, List.set_cons_succ]
                    refine wpAnyH_take (i := 22) (oi := { dst := some 322, op := _, type := _, pos := _, after := _, guard := _ }) (v := ?v89) rfl (by kernel_rfl) (by kernel_rfl) (by kernel_rfl) (fun _ _ _ h => h) (Or.inl ⟨by rfl, ?hy89⟩) (by assumption) ?rest89
                    case hy89 => (intro w hSw; clear hSw; go_simp; (try with_reducible rfl))
                    try simp only [Act.put, List.setIfInBounds_toArray, List.set_cons_zero, List.set_cons_succ]
                    refine wpAnyH_take (i := 23) (oi := { dst := some 323, op := _, type := _, pos := _, after := _, guard := _ }) (v := ?v90) rfl (by kernel_rfl) (by kernel_rfl) (by kernel_rfl) (fun _ _ _ h => h) (Or.inl ⟨by rfl, ?hy90⟩) (by assumption) ?rest90
                    case hy90 => (intro w hSw; clear hSw; go_simp; (try with_reducible rfl))
                    try simp only [Act.put, List.setIfInBounds_toArray, List.set_cons_zero, List.set_cons_succ]
                    refine wpAnyH_take (i := 24) (oi := { dst := some 324, op := _, type := _, pos := _, after := _, guard := _ }) (v := ?v91) rfl (by kernel_rfl) (by kernel_rfl) (by kernel_rfl) (fun _ _ _ h => h) (Or.inl ⟨by rfl, ?hy91⟩) (by assumption) ?rest91
                    case hy91 => (intro w hSw; clear hSw; go_simp; (try with_reducible rfl))
                    try simp only [Act.put, List.setIfInBounds_toArray, List.set_cons_zero, List.set_cons_succ]
                    refine wpAnyH_take (i := 25) (oi := { dst := some 325, op := _, type := _, pos := _, after := _, guard := _ }) (v := ?v92) rfl (by kernel_rfl) (by kernel_rfl) (by kernel_rfl) (fun _ _ _ h => h) (Or.inl ⟨by rfl, ?hy92⟩) (by assumption) ?rest92
                    case hy92 => (intro w hSw; clear hSw; go_simp; (try with_reducible rfl))
                    try simp only [Act.put, List.setIfInBounds_toArray, List.set_cons_zero, List.set_cons_succ]
                    refine wpAnyH_take (i := 26) (oi := { dst := some 326, op := _, type := _, pos := _, after := _, guard := _ }) (v := ?v93) rfl (by kernel_rfl) (by kernel_rfl) (by kernel_rfl) (fun _ _ _ h => h) (Or.inl ⟨by rfl, ?hy93⟩) (by assumption) ?rest93
                    case hy93 => (intro w hSw; clear hSw; go_simp; (try with_reducible rfl))
                    try simp only [Act.put, List.setIfInBounds_toArray, List.set_cons_zero, List.set_cons_succ]
                    refine wpAnyH_take (i := 27) (oi := { dst := some 327, op := _, type := _, pos := _, after := _, guard := _ }) (v := undef) rfl (by kernel_rfl) (by kernel_rfl) (by kernel_rfl) (fun _ _ _ h => h) (Or.inr ⟨by rfl, rfl⟩) (by assumption) ?_
                    try simp only [Act.put, List.setIfInBounds_toArray, List.set_cons_zero, List.set_cons_succ]
                    refine wpAnyH_take (i := 28) (oi := { dst := some 328, op := _, type := _, pos := _, after := _, guard := _ }) (v := undef) rfl (by kernel_rfl) (by kernel_rfl) (by kernel_rfl) (fun _ _ _ h => h) (Or.inr ⟨by rfl, rfl⟩) (by assumption) ?_
                    try simp only [Act.put, List.setIfInBounds_toArray, List.set_cons_zero, List.set_cons_succ]
                    refine wpAnyH_take (i := 29) (oi := { dst := some 329, op := _, type := _, pos := _, after := _, guard := _ }) (v := ?v94) rfl (by kernel_rfl) (by kernel_rfl) (by kernel_rfl) (fun _ _ _ h => h) (Or.inl ⟨by rfl, ?hy94⟩) (by assumption) ?rest94
                    case hy94 => (intro w hSw; clear hSw; go_simp; (try with_reducible rfl))
                    try simp only [Act.put, List.setIfInBounds_toArray, List.set_cons_zero, List.set_cons_succ]
                    refine wpAnyH_take (i := 30) (oi := { dst := some 330, op := _, type := _, pos := _, after := _, guard := _ }) (v := ?v95) rfl (by kernel_rfl) (by kernel_rfl) (by kernel_rfl) (fun _ _ _ h => h) (Or.inl ⟨by rfl, ?hy95⟩) (by assumption) ?rest95
                    case hy95 => (intro w hSw; clear hSw; go_simp; (try with_reducible rfl))
                    try simp only [Act.put, List.setIfInBounds_toArray, List.set_cons_zero, List.set_cons_succ]
                    refine wpAnyH_take (i := 31) (oi := { dst := some 2, op := _, type := _, pos := _, after := _, guard := _ }) (v := ?v96) rfl (by kernel_rfl) (by kernel_rfl) (by kernel_rfl) (fun _ _ _ h => h) (Or.inl ⟨by rfl, ?hy96⟩) (by assumption) ?rest96
                    case hy96 => (intro w hSw; clear hSw; go_simp; (try with_reducible rfl))
                    try simp only [Act.put, List.setIfInBounds_toArray, List.set_cons_zero, List.set_cons_succ]
                    refine wpAnyH_done (by kernel_rfl) ?_ _
                    go_wp2_with fail
                    go_ret
                    exact ⟨rfl, HB.out.drew⟩
                | false =>
                  as_aux_lemma =>
                    go_wp2_with (first | ((with_reducible show wpList _ _ _ (Oper.mk _ (Op.load 27 _) _ _ _ _ :: _) _ _); refine loadB (K5) rfl rfl rfl ?_) | ((with_reducible show wpList _ _ _ (Oper.mk _ (Op.load 27 _) _ _ _ (some _) :: _) _ _); refine loadgB (K5) rfl rfl rfl ?_) | ((with_reducible show wpList _ _ _ (Oper.mk _ (Op.load 27 _) _ _ _ _ :: _) _ _); refine loadB (K3) rfl rfl rfl ?_) | ((with_reducible show wpList _ _ _ (Oper.mk _ (Op.load 27 _) _ _ _ (some _) :: _) _ _); refine loadgB (K3) rfl rfl rfl ?_) | ((with_reducible show wpList _ _ _ (Oper.mk _ (Op.load 27 _) _ _ _ _ :: _) _ _); refine loadB (K35) rfl rfl rfl ?_) | ((with_reducible show wpList _ _ _ (Oper.mk _ (Op.load 27 _) _ _ _ (some _) :: _) _ _); refine loadgB (K35) rfl rfl rfl ?_))
                    refine wp_region_held_drew (S := fun w' => Blk w' (w31.heap.size) 16 N 27 ∧ Blk w' (w1.heap.size) 16 f 27 ∧ Blk w' (w47.heap.size) 16 N2 27) (by kernel_rfl) ⟨K5.drew, K3.drew, K35.drew⟩ (fun hHeld => ?_)
                    refine wpAnyH_take (i := 0) (oi := { dst := some 300, op := _, type := _, pos := _, after := _, guard := _ }) (v := .agg (mk 16 N)) rfl (by kernel_rfl) (by kernel_rfl) (by kernel_rfl) (fun _ _ _ h => h) (Or.inl ⟨by rfl, fun _ h => execB (h.1) rfl rfl⟩) (by assumption) ?_
                    try simp only [Act.put, List.setIfInBounds_toArray, List.set_cons_zero, List.set_cons_succ]
                    refine wpAnyH_take (i := 1) (oi := { dst := some 301, op := _, type := _, pos := _, after := _, guard := _ }) (v := .agg (mk 16 f)) rfl (by kernel_rfl) (by kernel_rfl) (by kernel_rfl) (fun _ _ _ h => h) (Or.inl ⟨by rfl, fun _ h => execB (h.2.1) rfl rfl⟩) (by assumption) ?_
                    try simp only [Act.put, List.setIfInBounds_toArray, List.set_cons_zero, List.set_cons_succ]
                    refine wpAnyH_take (i := 2) (oi := { dst := some 302, op := _, type := _, pos := _, after := _, guard := _ }) (v := ?v97) rfl (by kernel_rfl) (by kernel_rfl) (by kernel_rfl) (fun _ _ _ h => h) (Or.inl ⟨by rfl, ?hy97⟩) (by assumption) ?rest97
                    case hy97 => (intro w hSw; clear hSw; go_simp; (try with_reducible rfl))
                    try simp only [Act.put, List.setIfInBounds_toArray, List.set_cons_zero, List.set_cons_succ]
                    refine wpAnyH_take (i := 3) (oi := { dst := some 303, op := _, type := _, pos := _, after := _, guard := _ }) (v := ?v98) rfl (by kernel_rfl) (by kernel_rfl) (by kernel_rfl) (fun _ _ _ h => h) (Or.inl ⟨by rfl, ?hy98⟩) (by assumption) ?rest98
                    case hy98 => (intro w hSw; clear hSw; go_simp; (try with_reducible rfl))
                    try simp only [Act.put, List.setIfInBounds_toArray, List.set_cons_zero, List.set_cons_succ]
                    refine wpAnyH_take (i := 4) (oi := { dst := some 304, op := _, type := _, pos := _, after := _, guard := _ }) (v := ?v99) rfl (by kernel_rfl) (by kernel_rfl) (by kernel_rfl) (fun _ _ _ h => h) (Or.inl ⟨by rfl, ?hy99⟩) (by assumption) ?rest99
                    case hy99 => (intro w hSw; clear hSw; go_simp; (try with_reducible rfl))
                    try simp only [Act.put, List.setIfInBounds_toArray, List.set_cons_zero, List.set_cons_succ]
                    refine wpAnyH_ready (rs := [5]) (by kernel_rfl) (by simp) ?_
                    refine AllReadyH.cons rfl (fun K hK => ?_) AllReadyH.nil
                    go_simp
                    refine (HAS.out _ (R1.out.below (drew_below _ 1))).mono ?_
                    rintro e wh ⟨rfl, rfl⟩
                    go_wp2_with fail
                    refine hK.out _ _ hHeld (fun hHeld => ?_)
                    clear hK K
                    try simp only [Act.put, List.setIfInBounds_toArray, List.set_cons_zero, List.set_cons_succ]
                    refine wpAnyH_take (i := 6) (oi := { dst := some 306, op := _, type := _, pos := _, after := _, guard := _ }) (v := ?v100) rfl (by kernel_rfl) (by kernel_rfl) (by kernel_rfl) (fun _ _ _ h => h) (Or.inl ⟨by rfl, ?hy100⟩) (by assumption) ?rest100
                    case hy100 => (intro w hSw; clear hSw; go_simp; (try with_reducible rfl))
                    try simp only [Act.put, List.setIfInBounds_toArray, List.set_cons_zero, List.set_cons_succ]
                    refine wpAnyH_take (i := 7) (oi := { dst := some 307, op := _, type := _, pos := _, after := _, guard := _ }) (v := ?v101) rfl (by kernel_rfl) (by kernel_rfl) (by kernel_rfl) (fun _ _ _ h => h) (Or.inl ⟨by rfl, ?hy101⟩) (by assumption) ?rest101
                    case hy101 => (intro w hSw; clear hSw; go_simp; (try with_reducible rfl))
                    try simp only [Act.put, List.setIfInBounds_toArray, List.set_cons_zero, List.set_cons_succ]
                    refine wpAnyH_take (i := 8) (oi := { dst := some 308, op := _, type := _, pos := _, after := _, guard := _ }) (v := .agg (mk 16 N2)) rfl (by kernel_rfl) (by kernel_rfl) (by kernel_rfl) (fun _ _ _ h => h) (Or.inl ⟨by rfl, fun _ h => execB (h.2.2) rfl rfl⟩) (by assumption) ?_
                    try simp only [Act.put, List.setIfInBounds_toArray, List.set_cons_zero, List.set_cons_succ]
                    refine wpAnyH_take (i := 9) (oi := { dst := some 309, op := _, type := _, pos := _, after := _, guard := _ }) (v := .agg (mk 16 N)) rfl (by kernel_rfl) (by kernel_rfl) (by kernel_rfl) (fun _ _ _ h => h) (Or.inl ⟨by rfl, fun _ h => execB (h.1) rfl rfl⟩) (by assumption) ?_
                    try simp only [Act.put, List.setIfInBounds_toArray, List.set_cons_zero, List.set_cons_succ]
                    refine wpAnyH_take (i := 10) (oi := { dst := some 310, op := _, type := _, pos := _, after := _, guard := _ }) (v := ?v102) rfl (by kernel_rfl) (by kernel_rfl) (by kernel_rfl) (fun _ _ _ h => h) (Or.inl ⟨by rfl, ?hy102⟩) (by assumption) ?rest102
                    case hy102 => (intro w hSw; clear hSw; go_simp; (try with_reducible rfl))
                    try simp only [Act.put, List.setIfInBounds_toArray, List.set_cons_zero, List.set_cons_succ]
                    refine wpAnyH_take (i := 11) (oi := { dst := some 311, op := _, type := _, pos := _, after := _, guard := _ }) (v := ?v103) rfl (by kernel_rfl) (by kernel_rfl) (by kernel_rfl) (fun _ _ _ h => h) (Or.inl ⟨by rfl, ?hy103⟩) (by assumption) ?rest103
                    case hy103 => (intro w hSw; clear hSw; go_simp; (try with_reducible rfl))
                    try simp only [Act.put, List.setIfInBounds_toArray, List.set_cons_zero, List.set_cons_succ]
                    refine wpAnyH_take (i := 12) (oi := { dst := some 312, op := _, type := _, pos := _, after := _, guard := _ }) (v := ?v104) rfl (by kernel_rfl) (by kernel_rfl) (by kernel_rfl) (fun _ _ _ h => h) (Or.inl ⟨by rfl, ?hy104⟩) (by assumption) ?rest104
                    case hy104 => (intro w hSw; clear hSw; go_simp; (try with_reducible rfl))
                    try simp only [Act.put, List.setIfInBounds_toArray, List.set_cons_zero, List.set_cons_succ]
                    refine wpAnyH_take (i := 13) (oi := { dst := some 313, op := _, type := _, pos := _, after := _, guard := _ }) (v := ?v105) rfl (by kernel_rfl) (by kernel_rfl) (by kernel_rfl) (fun _ _ _ h => h) (Or.inl ⟨by rfl, ?hy105⟩) (by assumption) ?rest105
                    case hy105 => (intro w hSw; clear hSw; go_simp; (try with_reducible rfl))
                    try simp only [Act.put, List.setIfInBounds_toArray, List.set_cons_zero, List.set_cons_succ]
                    refine wpAnyH_take (i := 14) (oi := { dst := some 314, op := _, type := _, pos := _, after := _, guard := _ }) (v := ?v106) rfl (by kernel_rfl) (by kernel_rfl) (by kernel_rfl) (fun _ _ _ h => h) (Or.inl ⟨by rfl, ?hy106⟩) (by assumption) ?rest106
                    case hy106 => (intro w hSw; clear hSw; go_simp; (try with_reducible rfl))
                    try simp only [Act.put, List.setIfInBounds_toArray, List.set_cons_zero, List.set_cons_succ]
                    refine wpAnyH_take (i := 15) (oi := { dst := some 315, op := _, type := _, pos := _, after := _, guard := _ }) (v := ?v107) rfl (by kernel_rfl) (by kernel_rfl) (by kernel_rfl) (fun _ _ _ h => h) (Or.inl ⟨by rfl, ?hy107⟩) (by assumption) ?rest107
                    case hy107 => (intro w hSw; clear hSw; go_simp; (try with_reducible rfl))
                    try simp only [Act.put, List.setIfInBounds_toArray, List.set_cons_zero, List.set_cons_succ]
                    refine wpAnyH_take (i := 16) (oi := { dst := some 316, op := _, type := _, pos := _, after := _, guard := _ }) (v := ?v108) rfl (by kernel_rfl) (by kernel_rfl) (by kernel_rfl) (fun _ _ _ h => h) (Or.inl ⟨by rfl, ?hy108⟩) (by assumption) ?rest108
                    case hy108 => (intro w hSw; clear hSw; go_simp; (try with_reducible rfl))
                    try simp only [Act.put, List.setIfInBounds_toArray, List.set_cons_zero, List.set_cons_succ]
                    refine wpAnyH_take (i := 17) (oi := { dst := some 317, op := _, type := _, pos := _, after := _, guard := _ }) (v := ?v109) rfl (by kernel_rfl) (by kernel_rfl) (by kernel_rfl) (fun _ _ _ h => h) (Or.inl ⟨by rfl, ?hy109⟩) (by assumption) ?rest109
                    case hy109 => (intro w hSw; clear hSw; go_simp; (try with_reducible rfl))
                    try simp only [Act.put, List.setIfInBounds_toArray, List.set_cons_zero, List.set_cons_succ]
                    refine wpAnyH_take (i := 18) (oi := { dst := some 318, op := _, type := _, pos := _, after := _, guard := _ }) (v := ?v110) rfl (by kernel_rfl) (by kernel_rfl) (by kernel_rfl) (fun _ _ _ h => h) (Or.inl ⟨by rfl, ?hy110⟩) (by assumption) ?rest110
                    case hy110 => (intro w hSw; clear hSw; go_simp; (try with_reducible rfl))
                    try simp only [Act.put, List.setIfInBounds_toArray, List.set_cons_zero, List.set_cons_succ]
                    refine wpAnyH_take (i := 19) (oi := { dst := some 319, op := _, type := _, pos := _, after := _, guard := _ }) (v := ?v111) rfl (by kernel_rfl) (by kernel_rfl) (by kernel_rfl) (fun _ _ _ h => h) (Or.inl ⟨by rfl, ?hy111⟩) (by assumption) ?rest111
                    case hy111 => (intro w hSw; clear hSw; go_simp; (try with_reducible rfl))
                    try simp only [Act.put, List.setIfInBounds_toArray, List.set_cons_zero, List.set_cons_succ]
                    refine wpAnyH_take (i := 20) (oi := { dst := some 320, op := _, type := _, pos := _, after := _, guard := _ }) (v := ?v112) rfl (by kernel_rfl) (by kernel_rfl) (by kernel_rfl) (fun _ _ _ h => h) (Or.inl ⟨by rfl, ?hy112⟩) (by assumption) ?rest112
                    case hy112 => (intro w hSw; clear hSw; go_simp; (try with_reducible rfl))
                    try simp only [Act.put, List.setIfInBounds_toArray, List.set_cons_zero, List.set_cons_succ]
                    refine wpAnyH_take (i := 21) (oi := { dst := some 321, op := _, type := _, pos := _, after := _, guard := _ }) (v := ?v113) rfl (by kernel_rfl) (by kernel_rfl) (by kernel_rfl) (fun _ _ _ h => h) (Or.inl ⟨by rfl, ?hy113⟩) (by assumption) ?rest113
                    case hy113 => (intro w hSw; clear hSw; go_simp; (try with_reducible rfl))
                    try simp only [Act.put, List.setIfInBounds_toArray, List.set_cons_zero, List.set_cons_succ]
                    refine wpAnyH_take (i := 22) (oi := { dst := some 322, op := _, type := _, pos := _, after := _, guard := _ }) (v := ?v114) rfl (by kernel_rfl) (by kernel_rfl) (by kernel_rfl) (fun _ _ _ h => h) (Or.inl ⟨by rfl, ?hy114⟩) (by assumption) ?rest114
                    case hy114 => (intro w hSw; clear hSw; go_simp; (try with_reducible rfl))
                    try simp only [Act.put, List.setIfInBounds_toArray, List.set_cons_zero, List.set_cons_succ]
                    refine wpAnyH_take (i := 23) (oi := { dst := some 323, op := _, type := _, pos := _, after := _, guard := _ }) (v := ?v115) rfl (by kernel_rfl) (by kernel_rfl) (by kernel_rfl) (fun _ _ _ h => h) (Or.inl ⟨by rfl, ?hy115⟩) (by assumption) ?rest115
                    case hy115 => (intro w hSw; clear hSw; go_simp; (try with_reducible rfl))
                    try simp only [Act.put, List.setIfInBounds_toArray, List.set_cons_zero, List.set_cons_succ]
                    refine wpAnyH_take (i := 24) (oi := { dst := some 324, op := _, type := _, pos := _, after := _, guard := _ }) (v := ?v116) rfl (by kernel_rfl) (by kernel_rfl) (by kernel_rfl) (fun _ _ _ h => h) (Or.inl ⟨by rfl, ?hy116⟩) (by assumption) ?rest116
                    case hy116 => (intro w hSw; clear hSw; go_simp; (try with_reducible rfl))
                    try simp only [Act.put, List.setIfInBounds_toArray, List.set_cons_zero, List.set_cons_succ]
                    refine wpAnyH_take (i := 25) (oi := { dst := some 325, op := _, type := _, pos := _, after := _, guard := _ }) (v := ?v117) rfl (by kernel_rfl) (by kernel_rfl) (by kernel_rfl) (fun _ _ _ h => h) (Or.inl ⟨by rfl, ?hy117⟩) (by assumption) ?rest117
                    case hy117 => (intro w hSw; clear hSw; go_simp; (try with_reducible rfl))
                    try simp only [Act.put, List.setIfInBounds_toArray, List.set_cons_zero, List.set_cons_succ]
                    refine wpAnyH_take (i := 26) (oi := { dst := some 326, op := _, type := _, pos := _, after := _, guard := _ }) (v := ?v118) rfl (by kernel_rfl) (by kernel_rfl) (by kernel_rfl) (fun _ _ _ h => h) (Or.inl ⟨by rfl, ?hy118⟩) (by assumption) ?rest118
                    case hy118 => (intro w hSw; clear hSw; go_simp; (try with_reducible rfl))
                    try simp only [Act.put, List.setIfInBounds_toArray, List.set_cons_zero, List.set_cons_succ]
                    refine wpAnyH_take (i := 27) (oi := { dst := some 327, op := _, type := _, pos := _, after := _, guard := _ }) (v := ?v119) rfl (by kernel_rfl) (by kernel_rfl) (by kernel_rfl) (fun _ _ _ h => h) (Or.inl ⟨by rfl, ?hy119⟩) (by assumption) ?rest119
                    case hy119 => (intro w hSw; clear hSw; go_simp; (try with_reducible rfl))
                    try simp only [Act.put, List.setIfInBounds_toArray, List.set_cons_zero, List.set_cons_succ]
                    refine wpAnyH_take (i := 28) (oi := { dst := some 328, op := _, type := _, pos := _, after := _, guard := _ }) (v := ?v120) rfl (by kernel_rfl) (by kernel_rfl) (by kernel_rfl) (fun _ _ _ h => h) (Or.inl ⟨by rfl, ?hy120⟩) (by assumption) ?rest120
                    case hy120 => (intro w hSw; clear hSw; go_simp; (try with_reducible rfl))
                    try simp only [Act.put, List.setIfInBounds_toArray, List.set_cons_zero, List.set_cons_succ]
                    refine wpAnyH_take (i := 29) (oi := { dst := some 329, op := _, type := _, pos := _, after := _, guard := _ }) (v := ?v121) rfl (by kernel_rfl) (by kernel_rfl) (by kernel_rfl) (fun _ _ _ h => h) (Or.inl ⟨by rfl, ?hy121⟩) (by assumption) ?rest121
                    case hy121 => (intro w hSw; clear hSw; go_simp; (try with_reducible rfl))
                    try simp only [Act.put, List.setIfInBounds_toArray, List.set_cons_zero, List.set_cons_succ]
                    refine wpAnyH_take (i := 30) (oi := { dst := some 330, op := _, type := _, pos := _, after := _, guard := _ }) (v := ?v122) rfl (by kernel_rfl) (by kernel_rfl) (by kernel_rfl) (fun _ _ _ h => h) (Or.inl ⟨by rfl, ?hy122⟩) (by assumption) ?rest122
                    case hy122 => (intro w hSw; clear hSw; go_simp; (try with_reducible rfl))
                    try simp only [Act.put, List.setIfInBounds_toArray, List.set_cons_zero, List.set_cons_succ]
                    refine wpAnyH_take (i := 31) (oi := { dst := some 2, op := _, type := _, pos := _, after := _, guard := _ }) (v := ?v123) rfl (by kernel_rfl) (by kernel_rfl) (by kernel_rfl) (fun _ _ _ h => h) (Or.inl ⟨by rfl, ?hy123⟩) (by assumption) ?rest123
                    case hy123 => (intro w hSw; clear hSw; go_simp; (try with_reducible rfl))
                    try simp only [Act.put, List.setIfInBounds_toArray, List.set_cons_zero, List.set_cons_succ]
                    refine wpAnyH_done (by kernel_rfl) ?_ _
                    go_wp2_with fail
                    go_ret
                    exact ⟨rfl, HB.out.drew⟩
      · as_aux_lemma =>
          have hVO : vdO f = true := vdO_yes hV
          have hSO : slideRO f d = false := decide_eq_false (fun h => hd h.2)
          obtain ⟨N, hN⟩ : ∃ F, F = slideRB f d := ⟨_, rfl⟩
          obtain ⟨SC, hSC⟩ : ∃ F, F = slideRS f d := ⟨_, rfl⟩
          obtain ⟨M, hM⟩ : ∃ F, F = slideRM f d := ⟨_, rfl⟩
          obtain ⟨OV, hOV⟩ : ∃ F, F = overR f := ⟨_, rfl⟩
          obtain ⟨SU, hSU⟩ : ∃ F, F = sumR f := ⟨_, rfl⟩
          obtain ⟨PA, hPA⟩ : ∃ F, F = pairsR f := ⟨_, rfl⟩
          have iSL : Hid (∀ W, Calls Try.prog 38 #[.agg (mk 16 f), .int .i64 d] W fun e w' => e = .returned (.tuple #[.agg (mk 16 N), .int .i64 SC, .bool false]) ∧ Below W.heap.size W w') := by show ∀ W, _; rw [hN, hSC, ← hSO]; exact implSlide_any f d
          have iMG : Hid (∀ W, Calls Try.prog 65 #[.agg (mk 16 f), .int .i64 d] W fun e w' => e = .returned (.tuple #[.int .i64 M, .bool false]) ∧ Below W.heap.size W w') := by show ∀ W, _; rw [hM, ← hSO]; exact implMergers_any f d
          have iOV : Hid (∀ W, Calls Try.prog 63 #[.agg (mk 16 f)] W fun e w' => e = .returned (.tuple #[.bool OV, .bool true]) ∧ Below W.heap.size W w') := by show ∀ W, _; rw [hOV, ← hVO]; exact implOver_any f
          have iSU : Hid (∀ W, Calls Try.prog 36 #[.agg (mk 16 f)] W fun e w' => e = .returned (.tuple #[.int .i64 SU, .bool true]) ∧ Below W.heap.size W w') := by show ∀ W, _; rw [hSU, ← hVO]; exact implSum_any f
          have iPA : Hid (∀ W, Calls Try.prog 37 #[.agg (mk 16 f)] W fun e w' => e = .returned (.tuple #[.int .i64 PA, .bool true]) ∧ Below W.heap.size W w') := by show ∀ W, _; rw [hPA, ← hVO]; exact implPairs_any f
          have sSL : Hid (∀ W, Calls Try.prog 59 #[.agg (mk 16 f), .int .i64 d] W fun e w' => e = .returned (.tuple #[.agg (mk 16 N), .int .i64 SC, .bool false]) ∧ Below W.heap.size W w') := by show ∀ W, _; rw [hN, hSC, ← hSO]; exact specSlide_any f d
          have sMG : Hid (∀ W, Calls Try.prog 66 #[.agg (mk 16 f), .int .i64 d] W fun e w' => e = .returned (.tuple #[.int .i64 M, .bool false]) ∧ Below W.heap.size W w') := by show ∀ W, _; rw [hM, ← hSO]; exact specMergers_any f d
          have sOV : Hid (∀ W, Calls Try.prog 64 #[.agg (mk 16 f)] W fun e w' => e = .returned (.tuple #[.bool OV, .bool true]) ∧ Below W.heap.size W w') := by show ∀ W, _; rw [hOV, ← hVO]; exact specOver_any f
          have sSU : Hid (∀ W, Calls Try.prog 67 #[.agg (mk 16 f)] W fun e w' => e = .returned (.tuple #[.int .i64 SU, .bool true]) ∧ Below W.heap.size W w') := by show ∀ W, _; rw [hSU, ← hVO]; exact specSum_any f
          have sPA : Hid (∀ W, Calls Try.prog 68 #[.agg (mk 16 f)] W fun e w' => e = .returned (.tuple #[.int .i64 PA, .bool true]) ∧ Below W.heap.size W w') := by show ∀ W, _; rw [hPA, ← hVO]; exact specPairs_any f
          have iIB : Hid (∀ W, Calls Try.prog 61 #[.agg (mk 16 f)] W fun e w' => e = .returned (.bool true) ∧ Below W.heap.size W w') := by intro W; exact implBoard_yes f W hV
          obtain ⟨n, hn⟩ : ∃ n, n = (movR f).length := ⟨_, rfl⟩
          obtain ⟨h, hh⟩ : ∃ h : Nat → Int, h = fun i => (movR f).getD i 0 := ⟨_, rfl⟩
          have iMV : Hid (∀ W, Calls Try.prog 55 #[.agg (mk 16 f)] W (MovPost n h true W)) := fun W => mov_post hn hh hVO W (implMoves_any f W)
          have sMV : Hid (∀ W, Calls Try.prog 60 #[.agg (mk 16 f)] W (MovPost n h true W)) := fun W => mov_post hn hh hVO W (specMoves_any f W)
          have hn4 : n ≤ 4 := by rw [hn]; exact mov_len f
          have hOL : OV = ((n : Int) == 0) := by rw [hOV, hn]; exact over_len hV
          subst hOL
          obtain ⟨ne, hne⟩ : ∃ k, k = cellN f := ⟨_, rfl⟩
          have hov : n = 0 ↔ ne = 16 ∨ (ne = 0 ∧ PA = 0) := by rw [hn, movR_yes hV, noMv_iff, over_iff hV, hne, (cell_yes hV).2, hPA, pairsR_yes hV]
          have hne16 : ne ≤ 16 := by rw [hne]; exact cellN_le f
          have iEC : Hid (∀ W, Calls Try.prog 69 #[.agg (mk 16 f)] W (CelPost ne true W)) := fun W => cel_post f hne.symm hVO W
          have HOV := Lib.hid hov
          clear hov
          clear hN hSC hM hOV hSU hPA hSO hh hn hV hVO hne hd
          have sN : sameB N N = true := sameB_iff.2 fun _ _ => rfl
          have iE := fun (F G : Nat → Int) (W : World) => eqB 9996 F G W
          go_wp2_with (first | ((with_reducible show wpList _ _ _ (Oper.mk _ (Op.load 27 _) _ _ _ _ :: _) _ _); refine loadB (K3) rfl rfl rfl ?_) | ((with_reducible show wpList _ _ _ (Oper.mk _ (Op.load 27 _) _ _ _ (some _) :: _) _ _); refine loadgB (K3) rfl rfl rfl ?_))
          generalize w1.alloc (.cells (mk 16 f) 27) = w1a at *
          refine (iSL.out _).mono ?_
          rintro e w16 ⟨rfl, hb⟩
          have K3 := K3.below hb K3.lt
          have HB : Hid (Below w.heap.size w w16) := HB.out.trans (hb.mono HB.out.size)
          clear hb
          have K3 := K3.alloc (.cells (mk 16 N) 27)
          have K5 := Blk.new w16 16 N 27
          have HB : Hid (Below w.heap.size w (w16.alloc (.cells (mk 16 N) 27))) := HB.out.alloc HB.out.size _
          go_wp2_with (first | ((with_reducible show wpList _ _ _ (Oper.mk _ (Op.load 27 _) _ _ _ _ :: _) _ _); refine loadB (K3) rfl rfl rfl ?_) | ((with_reducible show wpList _ _ _ (Oper.mk _ (Op.load 27 _) _ _ _ (some _) :: _) _ _); refine loadgB (K3) rfl rfl rfl ?_))
          generalize w16.alloc (.cells (mk 16 N) 27) = w16a at *
          refine (sSL.out _).mono ?_
          rintro e w17 ⟨rfl, hb⟩
          have K3 := K3.below hb K3.lt
          have K5 := K5.below hb K5.lt
          have HB : Hid (Below w.heap.size w w17) := HB.out.trans (hb.mono HB.out.size)
          clear hb
          have K3 := K3.alloc (.cells (mk 16 N) 27)
          have K5 := K5.alloc (.cells (mk 16 N) 27)
          have K8 := Blk.new w17 16 N 27
          have HB : Hid (Below w.heap.size w (w17.alloc (.cells (mk 16 N) 27))) := HB.out.alloc HB.out.size _
          go_wp2_with (first | ((with_reducible show wpList _ _ _ (Oper.mk _ (Op.load 27 _) _ _ _ _ :: _) _ _); refine loadB (K5) rfl rfl rfl ?_) | ((with_reducible show wpList _ _ _ (Oper.mk _ (Op.load 27 _) _ _ _ (some _) :: _) _ _); refine loadgB (K5) rfl rfl rfl ?_) | ((with_reducible show wpList _ _ _ (Oper.mk _ (Op.load 27 _) _ _ _ _ :: _) _ _); refine loadB (K8) rfl rfl rfl ?_) | ((with_reducible show wpList _ _ _ (Oper.mk _ (Op.load 27 _) _ _ _ (some _) :: _) _ _); refine loadgB (K8) rfl rfl rfl ?_) | ((with_reducible show wpList _ _ _ (Oper.mk _ (Op.load 27 _) _ _ _ _ :: _) _ _); refine loadB (K3) rfl rfl rfl ?_) | ((with_reducible show wpList _ _ _ (Oper.mk _ (Op.load 27 _) _ _ _ (some _) :: _) _ _); refine loadgB (K3) rfl rfl rfl ?_))
          generalize w17.alloc (.cells (mk 16 N) 27) = w17a at *
          refine (iMV.out _).mono ?_
          rintro e w18 ⟨g1, c1, rfl, hr1, hb⟩
          have K3 := K3.below hb K3.lt
          have K5 := K5.below hb K5.lt
          have K8 := K8.below hb K8.lt
          have HB : Hid (Below w.heap.size w w18) := HB.out.trans (hb.mono HB.out.size)
          have R1 := Lib.hid hr1
          clear hr1
          clear hb
          clear K8
          go_wp2_with (first | ((with_reducible show wpList _ _ _ (Oper.mk _ (Op.load 27 _) _ _ _ _ :: _) _ _); refine loadB (K3) rfl rfl rfl ?_) | ((with_reducible show wpList _ _ _ (Oper.mk _ (Op.load 27 _) _ _ _ (some _) :: _) _ _); refine loadgB (K3) rfl rfl rfl ?_))
          refine (sMV.out _).mono ?_
          rintro e w19 ⟨g2, c2, rfl, hr2, hb⟩
          have K3 := K3.below hb K3.lt
          have K5 := K5.below hb K5.lt
          have R1 := Lib.hid (R1.out.below hb)
          have HB : Hid (Below w.heap.size w w19) := HB.out.trans (hb.mono HB.out.size)
          have R2 := Lib.hid hr2
          clear hr2
          clear hb
          go_wp2_with (first | ((with_reducible show wpList _ _ _ (Oper.mk _ (Op.load 27 _) _ _ _ _ :: _) _ _); refine loadB (K3) rfl rfl rfl ?_) | ((with_reducible show wpList _ _ _ (Oper.mk _ (Op.load 27 _) _ _ _ (some _) :: _) _ _); refine loadgB (K3) rfl rfl rfl ?_))
          refine (iIB.out _).mono ?_
          rintro e w20 ⟨rfl, hb⟩
          have K3 := K3.below hb K3.lt
          have K5 := K5.below hb K5.lt
          have R1 := Lib.hid (R1.out.below hb)
          have R2 := Lib.hid (R2.out.below hb)
          have HB : Hid (Below w.heap.size w w20) := HB.out.trans (hb.mono HB.out.size)
          clear hb
          go_wp2_with fail
          refine (rInts_yes _ _ n h _ R1.out R2.out (by omega)).mono ?_
          rintro e w21 ⟨rfl, k, rfl⟩
          have hb := drew_below w20 k
          have K3 := K3.below hb K3.lt
          have K5 := K5.below hb K5.lt
          have R1 := Lib.hid (R1.out.below hb)
          have HB : Hid (Below w.heap.size w (w20.drewN k)) := HB.out.trans (hb.mono HB.out.size)
          clear hb R2
          go_wp2_with (first | ((with_reducible show wpList _ _ _ (Oper.mk _ (Op.load 27 _) _ _ _ _ :: _) _ _); refine loadB (K3) rfl rfl rfl ?_) | ((with_reducible show wpList _ _ _ (Oper.mk _ (Op.load 27 _) _ _ _ (some _) :: _) _ _); refine loadgB (K3) rfl rfl rfl ?_))
          generalize w20.drewN k = w21d at *
          refine (iOV.out _).mono ?_
          rintro e w22 ⟨rfl, hb⟩
          have K3 := K3.below hb K3.lt
          have K5 := K5.below hb K5.lt
          have R1 := Lib.hid (R1.out.below hb)
          have HB : Hid (Below w.heap.size w w22) := HB.out.trans (hb.mono HB.out.size)
          clear hb
          go_wp2_with (first | ((with_reducible show wpList _ _ _ (Oper.mk _ (Op.load 27 _) _ _ _ _ :: _) _ _); refine loadB (K3) rfl rfl rfl ?_) | ((with_reducible show wpList _ _ _ (Oper.mk _ (Op.load 27 _) _ _ _ (some _) :: _) _ _); refine loadgB (K3) rfl rfl rfl ?_))
          refine (sOV.out _).mono ?_
          rintro e w23 ⟨rfl, hb⟩
          have K3 := K3.below hb K3.lt
          have K5 := K5.below hb K5.lt
          have R1 := Lib.hid (R1.out.below hb)
          have HB : Hid (Below w.heap.size w w23) := HB.out.trans (hb.mono HB.out.size)
          clear hb
          go_wp2_with (first | ((with_reducible show wpList _ _ _ (Oper.mk _ (Op.load 27 _) _ _ _ _ :: _) _ _); refine loadB (K3) rfl rfl rfl ?_) | ((with_reducible show wpList _ _ _ (Oper.mk _ (Op.load 27 _) _ _ _ (some _) :: _) _ _); refine loadgB (K3) rfl rfl rfl ?_))
          refine (iMG.out _).mono ?_
          rintro e w24 ⟨rfl, hb⟩
          have K3 := K3.below hb K3.lt
          have K5 := K5.below hb K5.lt
          have R1 := Lib.hid (R1.out.below hb)
          have HB : Hid (Below w.heap.size w w24) := HB.out.trans (hb.mono HB.out.size)
          clear hb
          go_wp2_with (first | ((with_reducible show wpList _ _ _ (Oper.mk _ (Op.load 27 _) _ _ _ _ :: _) _ _); refine loadB (K3) rfl rfl rfl ?_) | ((with_reducible show wpList _ _ _ (Oper.mk _ (Op.load 27 _) _ _ _ (some _) :: _) _ _); refine loadgB (K3) rfl rfl rfl ?_))
          refine (sMG.out _).mono ?_
          rintro e w25 ⟨rfl, hb⟩
          have K3 := K3.below hb K3.lt
          have K5 := K5.below hb K5.lt
          have R1 := Lib.hid (R1.out.below hb)
          have HB : Hid (Below w.heap.size w w25) := HB.out.trans (hb.mono HB.out.size)
          clear hb
          go_wp2_with (first | ((with_reducible show wpList _ _ _ (Oper.mk _ (Op.load 27 _) _ _ _ _ :: _) _ _); refine loadB (K3) rfl rfl rfl ?_) | ((with_reducible show wpList _ _ _ (Oper.mk _ (Op.load 27 _) _ _ _ (some _) :: _) _ _); refine loadgB (K3) rfl rfl rfl ?_))
          refine (iSU.out _).mono ?_
          rintro e w26 ⟨rfl, hb⟩
          have K3 := K3.below hb K3.lt
          have K5 := K5.below hb K5.lt
          have R1 := Lib.hid (R1.out.below hb)
          have HB : Hid (Below w.heap.size w w26) := HB.out.trans (hb.mono HB.out.size)
          clear hb
          go_wp2_with (first | ((with_reducible show wpList _ _ _ (Oper.mk _ (Op.load 27 _) _ _ _ _ :: _) _ _); refine loadB (K3) rfl rfl rfl ?_) | ((with_reducible show wpList _ _ _ (Oper.mk _ (Op.load 27 _) _ _ _ (some _) :: _) _ _); refine loadgB (K3) rfl rfl rfl ?_))
          refine (sSU.out _).mono ?_
          rintro e w27 ⟨rfl, hb⟩
          have K3 := K3.below hb K3.lt
          have K5 := K5.below hb K5.lt
          have R1 := Lib.hid (R1.out.below hb)
          have HB : Hid (Below w.heap.size w w27) := HB.out.trans (hb.mono HB.out.size)
          clear hb
          go_wp2_with (first | ((with_reducible show wpList _ _ _ (Oper.mk _ (Op.load 27 _) _ _ _ _ :: _) _ _); refine loadB (K3) rfl rfl rfl ?_) | ((with_reducible show wpList _ _ _ (Oper.mk _ (Op.load 27 _) _ _ _ (some _) :: _) _ _); refine loadgB (K3) rfl rfl rfl ?_))
          refine (iPA.out _).mono ?_
          rintro e w28 ⟨rfl, hb⟩
          have K3 := K3.below hb K3.lt
          have K5 := K5.below hb K5.lt
          have R1 := Lib.hid (R1.out.below hb)
          have HB : Hid (Below w.heap.size w w28) := HB.out.trans (hb.mono HB.out.size)
          clear hb
          go_wp2_with (first | ((with_reducible show wpList _ _ _ (Oper.mk _ (Op.load 27 _) _ _ _ _ :: _) _ _); refine loadB (K3) rfl rfl rfl ?_) | ((with_reducible show wpList _ _ _ (Oper.mk _ (Op.load 27 _) _ _ _ (some _) :: _) _ _); refine loadgB (K3) rfl rfl rfl ?_))
          refine (sPA.out _).mono ?_
          rintro e w29 ⟨rfl, hb⟩
          have K3 := K3.below hb K3.lt
          have K5 := K5.below hb K5.lt
          have R1 := Lib.hid (R1.out.below hb)
          have HB : Hid (Below w.heap.size w w29) := HB.out.trans (hb.mono HB.out.size)
          clear hb
          go_wp2_with (first | ((with_reducible show wpList _ _ _ (Oper.mk _ (Op.load 27 _) _ _ _ _ :: _) _ _); refine loadB (K3) rfl rfl rfl ?_) | ((with_reducible show wpList _ _ _ (Oper.mk _ (Op.load 27 _) _ _ _ (some _) :: _) _ _); refine loadgB (K3) rfl rfl rfl ?_))
          refine (iEC.out _).mono ?_
          rintro e w30 ⟨g3, c3, rfl, hb⟩
          have K3 := K3.below hb K3.lt
          have K5 := K5.below hb K5.lt
          have R1 := Lib.hid (R1.out.below hb)
          have HB : Hid (Below w.heap.size w w30) := HB.out.trans (hb.mono HB.out.size)
          clear hb
          have hov := HOV.out
          clear HOV
          by_cases h16 : ne = 16
          · have q16 : ((ne : Int) == 16) = true := by simp [h16]
            have qn : ((n : Int) == 0) = true := by simp [hov.2 (.inl h16)]
            clear hov h16
            go_wp2_with fail
            go_ret
            exact ⟨rfl, HB.out⟩
          · have q16 : ((ne : Int) == 16) = false := by simp; omega
            by_cases h0 : ne = 0
            · have q0 : ((ne : Int) == 0) = true := by simp [h0]
              by_cases hp : PA = 0
              · have qp : (PA == 0) = true := by simp [hp]
                have qn : ((n : Int) == 0) = true := by simp [hov.2 (.inr ⟨h0, hp⟩)]
                clear hov hp h0 h16
                go_wp2_with fail
                go_ret
                exact ⟨rfl, HB.out⟩
              · have qp : (PA == 0) = false := by simpa using hp
                have qn : ((n : Int) == 0) = false := by simp; omega
                clear hov hp h0 h16
                go_wp2_with fail
                go_ret
                exact ⟨rfl, HB.out⟩
            · have q0 : ((ne : Int) == 0) = false := by simpa using h0
              have qn : ((n : Int) == 0) = false := by simp; omega
              clear hov h0 h16
              go_wp2_with fail
              go_ret
              exact ⟨rfl, HB.out⟩
    · as_aux_lemma =>
        have hVO : vdO f = false := vdO_no hV
        have hSO : slideRO f d = false := decide_eq_false (fun h => hV h.1)
        obtain ⟨N, hN⟩ : ∃ F, F = slideRB f d := ⟨_, rfl⟩
        obtain ⟨SC, hSC⟩ : ∃ F, F = slideRS f d := ⟨_, rfl⟩
        obtain ⟨M, hM⟩ : ∃ F, F = slideRM f d := ⟨_, rfl⟩
        obtain ⟨OV, hOV⟩ : ∃ F, F = overR f := ⟨_, rfl⟩
        obtain ⟨SU, hSU⟩ : ∃ F, F = sumR f := ⟨_, rfl⟩
        obtain ⟨PA, hPA⟩ : ∃ F, F = pairsR f := ⟨_, rfl⟩
        have iSL : Hid (∀ W, Calls Try.prog 38 #[.agg (mk 16 f), .int .i64 d] W fun e w' => e = .returned (.tuple #[.agg (mk 16 N), .int .i64 SC, .bool false]) ∧ Below W.heap.size W w') := by show ∀ W, _; rw [hN, hSC, ← hSO]; exact implSlide_any f d
        have iMG : Hid (∀ W, Calls Try.prog 65 #[.agg (mk 16 f), .int .i64 d] W fun e w' => e = .returned (.tuple #[.int .i64 M, .bool false]) ∧ Below W.heap.size W w') := by show ∀ W, _; rw [hM, ← hSO]; exact implMergers_any f d
        have iOV : Hid (∀ W, Calls Try.prog 63 #[.agg (mk 16 f)] W fun e w' => e = .returned (.tuple #[.bool OV, .bool false]) ∧ Below W.heap.size W w') := by show ∀ W, _; rw [hOV, ← hVO]; exact implOver_any f
        have iSU : Hid (∀ W, Calls Try.prog 36 #[.agg (mk 16 f)] W fun e w' => e = .returned (.tuple #[.int .i64 SU, .bool false]) ∧ Below W.heap.size W w') := by show ∀ W, _; rw [hSU, ← hVO]; exact implSum_any f
        have iPA : Hid (∀ W, Calls Try.prog 37 #[.agg (mk 16 f)] W fun e w' => e = .returned (.tuple #[.int .i64 PA, .bool false]) ∧ Below W.heap.size W w') := by show ∀ W, _; rw [hPA, ← hVO]; exact implPairs_any f
        have sSL : Hid (∀ W, Calls Try.prog 59 #[.agg (mk 16 f), .int .i64 d] W fun e w' => e = .returned (.tuple #[.agg (mk 16 N), .int .i64 SC, .bool false]) ∧ Below W.heap.size W w') := by show ∀ W, _; rw [hN, hSC, ← hSO]; exact specSlide_any f d
        have sMG : Hid (∀ W, Calls Try.prog 66 #[.agg (mk 16 f), .int .i64 d] W fun e w' => e = .returned (.tuple #[.int .i64 M, .bool false]) ∧ Below W.heap.size W w') := by show ∀ W, _; rw [hM, ← hSO]; exact specMergers_any f d
        have sOV : Hid (∀ W, Calls Try.prog 64 #[.agg (mk 16 f)] W fun e w' => e = .returned (.tuple #[.bool OV, .bool false]) ∧ Below W.heap.size W w') := by show ∀ W, _; rw [hOV, ← hVO]; exact specOver_any f
        have sSU : Hid (∀ W, Calls Try.prog 67 #[.agg (mk 16 f)] W fun e w' => e = .returned (.tuple #[.int .i64 SU, .bool false]) ∧ Below W.heap.size W w') := by show ∀ W, _; rw [hSU, ← hVO]; exact specSum_any f
        have sPA : Hid (∀ W, Calls Try.prog 68 #[.agg (mk 16 f)] W fun e w' => e = .returned (.tuple #[.int .i64 PA, .bool false]) ∧ Below W.heap.size W w') := by show ∀ W, _; rw [hPA, ← hVO]; exact specPairs_any f
        have iIB : Hid (∀ W, Calls Try.prog 61 #[.agg (mk 16 f)] W fun e w' => e = .returned (.bool false) ∧ Below W.heap.size W w') := by intro W; exact implBoard_no f W hV
        obtain ⟨n, hn⟩ : ∃ n, n = (movR f).length := ⟨_, rfl⟩
        obtain ⟨h, hh⟩ : ∃ h : Nat → Int, h = fun i => (movR f).getD i 0 := ⟨_, rfl⟩
        have iMV : Hid (∀ W, Calls Try.prog 55 #[.agg (mk 16 f)] W (MovPost n h false W)) := fun W => mov_post hn hh hVO W (implMoves_any f W)
        have sMV : Hid (∀ W, Calls Try.prog 60 #[.agg (mk 16 f)] W (MovPost n h false W)) := fun W => mov_post hn hh hVO W (specMoves_any f W)
        have hn4 : n ≤ 4 := by rw [hn]; exact mov_len f
        clear hN hSC hM hOV hSU hPA hSO hh hn hV hVO
        have sN : sameB N N = true := sameB_iff.2 fun _ _ => rfl
        have iE := fun (F G : Nat → Int) (W : World) => eqB 9996 F G W
        go_wp2_with (first | ((with_reducible show wpList _ _ _ (Oper.mk _ (Op.load 27 _) _ _ _ _ :: _) _ _); refine loadB (K3) rfl rfl rfl ?_) | ((with_reducible show wpList _ _ _ (Oper.mk _ (Op.load 27 _) _ _ _ (some _) :: _) _ _); refine loadgB (K3) rfl rfl rfl ?_))
        generalize w1.alloc (.cells (mk 16 f) 27) = w1a at *
        refine (iSL.out _).mono ?_
        rintro e w2 ⟨rfl, hb⟩
        have K3 := K3.below hb K3.lt
        have HB : Hid (Below w.heap.size w w2) := HB.out.trans (hb.mono HB.out.size)
        clear hb
        have K3 := K3.alloc (.cells (mk 16 N) 27)
        have K5 := Blk.new w2 16 N 27
        have HB : Hid (Below w.heap.size w (w2.alloc (.cells (mk 16 N) 27))) := HB.out.alloc HB.out.size _
        go_wp2_with (first | ((with_reducible show wpList _ _ _ (Oper.mk _ (Op.load 27 _) _ _ _ _ :: _) _ _); refine loadB (K3) rfl rfl rfl ?_) | ((with_reducible show wpList _ _ _ (Oper.mk _ (Op.load 27 _) _ _ _ (some _) :: _) _ _); refine loadgB (K3) rfl rfl rfl ?_))
        generalize w2.alloc (.cells (mk 16 N) 27) = w2a at *
        refine (sSL.out _).mono ?_
        rintro e w3 ⟨rfl, hb⟩
        have K3 := K3.below hb K3.lt
        have K5 := K5.below hb K5.lt
        have HB : Hid (Below w.heap.size w w3) := HB.out.trans (hb.mono HB.out.size)
        clear hb
        have K3 := K3.alloc (.cells (mk 16 N) 27)
        have K5 := K5.alloc (.cells (mk 16 N) 27)
        have K8 := Blk.new w3 16 N 27
        have HB : Hid (Below w.heap.size w (w3.alloc (.cells (mk 16 N) 27))) := HB.out.alloc HB.out.size _
        go_wp2_with (first | ((with_reducible show wpList _ _ _ (Oper.mk _ (Op.load 27 _) _ _ _ _ :: _) _ _); refine loadB (K5) rfl rfl rfl ?_) | ((with_reducible show wpList _ _ _ (Oper.mk _ (Op.load 27 _) _ _ _ (some _) :: _) _ _); refine loadgB (K5) rfl rfl rfl ?_) | ((with_reducible show wpList _ _ _ (Oper.mk _ (Op.load 27 _) _ _ _ _ :: _) _ _); refine loadB (K8) rfl rfl rfl ?_) | ((with_reducible show wpList _ _ _ (Oper.mk _ (Op.load 27 _) _ _ _ (some _) :: _) _ _); refine loadgB (K8) rfl rfl rfl ?_) | ((with_reducible show wpList _ _ _ (Oper.mk _ (Op.load 27 _) _ _ _ _ :: _) _ _); refine loadB (K3) rfl rfl rfl ?_) | ((with_reducible show wpList _ _ _ (Oper.mk _ (Op.load 27 _) _ _ _ (some _) :: _) _ _); refine loadgB (K3) rfl rfl rfl ?_))
        generalize w3.alloc (.cells (mk 16 N) 27) = w3a at *
        refine (iMV.out _).mono ?_
        rintro e w4 ⟨g1, c1, rfl, hr1, hb⟩
        have K3 := K3.below hb K3.lt
        have K5 := K5.below hb K5.lt
        have K8 := K8.below hb K8.lt
        have HB : Hid (Below w.heap.size w w4) := HB.out.trans (hb.mono HB.out.size)
        have R1 := Lib.hid hr1
        clear hr1
        clear hb
        clear K8
        go_wp2_with (first | ((with_reducible show wpList _ _ _ (Oper.mk _ (Op.load 27 _) _ _ _ _ :: _) _ _); refine loadB (K3) rfl rfl rfl ?_) | ((with_reducible show wpList _ _ _ (Oper.mk _ (Op.load 27 _) _ _ _ (some _) :: _) _ _); refine loadgB (K3) rfl rfl rfl ?_))
        refine (sMV.out _).mono ?_
        rintro e w5 ⟨g2, c2, rfl, hr2, hb⟩
        have K3 := K3.below hb K3.lt
        have K5 := K5.below hb K5.lt
        have R1 := Lib.hid (R1.out.below hb)
        have HB : Hid (Below w.heap.size w w5) := HB.out.trans (hb.mono HB.out.size)
        have R2 := Lib.hid hr2
        clear hr2
        clear hb
        go_wp2_with (first | ((with_reducible show wpList _ _ _ (Oper.mk _ (Op.load 27 _) _ _ _ _ :: _) _ _); refine loadB (K3) rfl rfl rfl ?_) | ((with_reducible show wpList _ _ _ (Oper.mk _ (Op.load 27 _) _ _ _ (some _) :: _) _ _); refine loadgB (K3) rfl rfl rfl ?_))
        refine (iIB.out _).mono ?_
        rintro e w6 ⟨rfl, hb⟩
        have K3 := K3.below hb K3.lt
        have K5 := K5.below hb K5.lt
        have R1 := Lib.hid (R1.out.below hb)
        have R2 := Lib.hid (R2.out.below hb)
        have HB : Hid (Below w.heap.size w w6) := HB.out.trans (hb.mono HB.out.size)
        clear hb
        go_wp2_with fail
        refine (rInts_yes _ _ n h _ R1.out R2.out (by omega)).mono ?_
        rintro e w7 ⟨rfl, k, rfl⟩
        have hb := drew_below w6 k
        have K3 := K3.below hb K3.lt
        have K5 := K5.below hb K5.lt
        have R1 := Lib.hid (R1.out.below hb)
        have HB : Hid (Below w.heap.size w (w6.drewN k)) := HB.out.trans (hb.mono HB.out.size)
        clear hb R2
        go_wp2_with (first | ((with_reducible show wpList _ _ _ (Oper.mk _ (Op.load 27 _) _ _ _ _ :: _) _ _); refine loadB (K3) rfl rfl rfl ?_) | ((with_reducible show wpList _ _ _ (Oper.mk _ (Op.load 27 _) _ _ _ (some _) :: _) _ _); refine loadgB (K3) rfl rfl rfl ?_))
        generalize w6.drewN k = w7d at *
        refine (iOV.out _).mono ?_
        rintro e w8 ⟨rfl, hb⟩
        have K3 := K3.below hb K3.lt
        have K5 := K5.below hb K5.lt
        have R1 := Lib.hid (R1.out.below hb)
        have HB : Hid (Below w.heap.size w w8) := HB.out.trans (hb.mono HB.out.size)
        clear hb
        go_wp2_with (first | ((with_reducible show wpList _ _ _ (Oper.mk _ (Op.load 27 _) _ _ _ _ :: _) _ _); refine loadB (K3) rfl rfl rfl ?_) | ((with_reducible show wpList _ _ _ (Oper.mk _ (Op.load 27 _) _ _ _ (some _) :: _) _ _); refine loadgB (K3) rfl rfl rfl ?_))
        refine (sOV.out _).mono ?_
        rintro e w9 ⟨rfl, hb⟩
        have K3 := K3.below hb K3.lt
        have K5 := K5.below hb K5.lt
        have R1 := Lib.hid (R1.out.below hb)
        have HB : Hid (Below w.heap.size w w9) := HB.out.trans (hb.mono HB.out.size)
        clear hb
        go_wp2_with (first | ((with_reducible show wpList _ _ _ (Oper.mk _ (Op.load 27 _) _ _ _ _ :: _) _ _); refine loadB (K3) rfl rfl rfl ?_) | ((with_reducible show wpList _ _ _ (Oper.mk _ (Op.load 27 _) _ _ _ (some _) :: _) _ _); refine loadgB (K3) rfl rfl rfl ?_))
        refine (iMG.out _).mono ?_
        rintro e w10 ⟨rfl, hb⟩
        have K3 := K3.below hb K3.lt
        have K5 := K5.below hb K5.lt
        have R1 := Lib.hid (R1.out.below hb)
        have HB : Hid (Below w.heap.size w w10) := HB.out.trans (hb.mono HB.out.size)
        clear hb
        go_wp2_with (first | ((with_reducible show wpList _ _ _ (Oper.mk _ (Op.load 27 _) _ _ _ _ :: _) _ _); refine loadB (K3) rfl rfl rfl ?_) | ((with_reducible show wpList _ _ _ (Oper.mk _ (Op.load 27 _) _ _ _ (some _) :: _) _ _); refine loadgB (K3) rfl rfl rfl ?_))
        refine (sMG.out _).mono ?_
        rintro e w11 ⟨rfl, hb⟩
        have K3 := K3.below hb K3.lt
        have K5 := K5.below hb K5.lt
        have R1 := Lib.hid (R1.out.below hb)
        have HB : Hid (Below w.heap.size w w11) := HB.out.trans (hb.mono HB.out.size)
        clear hb
        go_wp2_with (first | ((with_reducible show wpList _ _ _ (Oper.mk _ (Op.load 27 _) _ _ _ _ :: _) _ _); refine loadB (K3) rfl rfl rfl ?_) | ((with_reducible show wpList _ _ _ (Oper.mk _ (Op.load 27 _) _ _ _ (some _) :: _) _ _); refine loadgB (K3) rfl rfl rfl ?_))
        refine (iSU.out _).mono ?_
        rintro e w12 ⟨rfl, hb⟩
        have K3 := K3.below hb K3.lt
        have K5 := K5.below hb K5.lt
        have R1 := Lib.hid (R1.out.below hb)
        have HB : Hid (Below w.heap.size w w12) := HB.out.trans (hb.mono HB.out.size)
        clear hb
        go_wp2_with (first | ((with_reducible show wpList _ _ _ (Oper.mk _ (Op.load 27 _) _ _ _ _ :: _) _ _); refine loadB (K3) rfl rfl rfl ?_) | ((with_reducible show wpList _ _ _ (Oper.mk _ (Op.load 27 _) _ _ _ (some _) :: _) _ _); refine loadgB (K3) rfl rfl rfl ?_))
        refine (sSU.out _).mono ?_
        rintro e w13 ⟨rfl, hb⟩
        have K3 := K3.below hb K3.lt
        have K5 := K5.below hb K5.lt
        have R1 := Lib.hid (R1.out.below hb)
        have HB : Hid (Below w.heap.size w w13) := HB.out.trans (hb.mono HB.out.size)
        clear hb
        go_wp2_with (first | ((with_reducible show wpList _ _ _ (Oper.mk _ (Op.load 27 _) _ _ _ _ :: _) _ _); refine loadB (K3) rfl rfl rfl ?_) | ((with_reducible show wpList _ _ _ (Oper.mk _ (Op.load 27 _) _ _ _ (some _) :: _) _ _); refine loadgB (K3) rfl rfl rfl ?_))
        refine (iPA.out _).mono ?_
        rintro e w14 ⟨rfl, hb⟩
        have K3 := K3.below hb K3.lt
        have K5 := K5.below hb K5.lt
        have R1 := Lib.hid (R1.out.below hb)
        have HB : Hid (Below w.heap.size w w14) := HB.out.trans (hb.mono HB.out.size)
        clear hb
        go_wp2_with (first | ((with_reducible show wpList _ _ _ (Oper.mk _ (Op.load 27 _) _ _ _ _ :: _) _ _); refine loadB (K3) rfl rfl rfl ?_) | ((with_reducible show wpList _ _ _ (Oper.mk _ (Op.load 27 _) _ _ _ (some _) :: _) _ _); refine loadgB (K3) rfl rfl rfl ?_))
        refine (sPA.out _).mono ?_
        rintro e w15 ⟨rfl, hb⟩
        have K3 := K3.below hb K3.lt
        have K5 := K5.below hb K5.lt
        have R1 := Lib.hid (R1.out.below hb)
        have HB : Hid (Below w.heap.size w w15) := HB.out.trans (hb.mono HB.out.size)
        clear hb
        go_wp2_with fail
        go_ret
        exact ⟨rfl, HB.out⟩
  · have dl : decide ((65536 : Int) < (len0 : Int)) = true := by simp; omega
    go_enter Try.func5, Try.ntmps5
    go_wp2_with fail
    refine (rBig_any a0 len0 cap0 _).mono ?_
    rintro e w' ⟨rfl, rfl⟩
    rw [dl]
    go_wp2_with fail
    go_ret
    exact ⟨rfl, HB.out⟩

noncomputable def laidWorld (os : Os) : World := World.holding Try.prog os ⟨#[], #[], []⟩
theorem laid_met (os : Os) : laidMet Try.prog Rows.fnSlidesKeepRow.laid ((laidWorld os).forCall (fun _ _ => 0) ⟨#[], #[.slice none 0 0], []⟩).memory := laidMet_of_run' 8 (by kernel_rfl) (by kernel_rfl)
theorem reads (os : Os) {H : Type} (enc : TypeId × Value → H) : ∃ places, DataW.whole enc Try.prog ((laidWorld os).forCall (fun _ _ => 0) ⟨#[], #[.slice none 0 0], []⟩).memory Try.f5.params.toList Rows.fnSlidesKeepSpec.vars false #[.slice none 0 0].toList 8 = some ([.nil], [], places) :=
  ⟨[], by kernel_rfl⟩
set_option linter.unusedVariables false in
set_option maxRecDepth 100000 in
theorem lifted (os : Os) (started : os.Started) (H : Type) (enc : TypeId × Value → H) (F : Stop.Interp) :
    ReturnsInHanded {} Try.checked os 5 .any ((OpenSpec.ofChange Rows.fnSlidesKeepSpec).preRow enc Try.prog Try.f5 Rows.fnSlidesKeepRow.domain false Rows.fnSlidesKeepRow.laid) (((OpenSpec.ofChange Rows.fnSlidesKeepSpec).at F).post enc Try.prog Try.f5 false true false false) := by
  obtain ⟨places, hx⟩ := reads os enc
  refine returnsInHanded_of_row (C := Try.checked) (s := (OpenSpec.ofChange Rows.fnSlidesKeepSpec)) own started (by kernel_rfl) Try.func5
    (witness_row_at (enc := enc) (C := Try.checked) false (laidWorld os) #[.slice none 0 0] rfl (by kernel_rfl) (by kernel_rfl) (by kernel_rfl)
      (OpenSpec.preRow_of_cond 8 hx (by kernel_rfl) (fun k hk => by cases hk) (by kernel_rfl) (laid_met os))) ?_
  intro W base args ds gs before hval0 hW _ hcond hsz hL hsh _
  have hval : ∀ (j : Nat) t v, Try.f5.params[j]? = some t → args[j]? = some v → Value.okWide Try.prog W .any base t v := hval0
  have hW' := hW
  obtain ⟨p, q, hA0, hV, rfl, hfz, hnd⟩ := hW
  have hA : DataW.TrodAll enc Try.prog W 0 (fun _ => true) true Try.f5.params.toList args.toList ds p := hA0
  rw [Try.params5] at hA hval
  obtain ⟨v0, vs0, d0, ds0, p0, q0, hargs, rfl, rfl, h0, r0⟩ := trodAll_cons hA
  obtain ⟨rfl, rfl, rfl⟩ := trodAll_nil r0
  obtain rfl : args = #[v0] := by cases args; simp_all
  obtain ⟨rfl, rfl⟩ := trodVars_none hV
  obtain ⟨a0, len0, cap0, rfl⟩ := okWide_slice Try.underlying22 (hval 0 22 v0 rfl rfl)
  have k0 := h0
  have lt0 : ∀ x ∈ p0, x.block < W.heap.size := by obtain ⟨m, hm⟩ := k0; exact DataW.trod_lt m _ _ _ hm
  obtain ⟨z0, w0⟩ : ∃ zs, IsRow .u8 W a0 len0 cap0 zs := by
    obtain ⟨fuel, hf⟩ := h0
    rcases open_ints Try.underlying22 Try.underlying5 (by kernel_rfl) hf with ⟨hcs, _⟩ | ⟨x, l, c, zs, hcs, _, hl, hm, hz, _, hcell, hwz⟩
    · simp [Value.cells] at hcs; obtain ⟨rfl, rfl, rfl⟩ := hcs; exact ⟨[], .inl ⟨rfl, rfl, rfl, rfl⟩⟩
    · simp [Value.cells] at hcs; obtain ⟨rfl, rfl, rfl⟩ := hcs; exact ⟨zs, .inr ⟨_, rfl, hl, hm, by simpa using hz, hcell, hwz⟩⟩
  clear hA0 hval0
  have hwalk : Calls Try.prog 5 #[.slice a0 len0 cap0] W fun e w' => e = .returned (.bool true) ∧ Below W.heap.size W w' := walk W hsh a0 len0 cap0 z0 w0
  refine hwalk.mono fun e W' ⟨he, bel⟩ => ?_
  subst he
  exact ⟨_, rfl, _, _, _, [], _, [], hW', trodAll_mk1 (shut_bool Try.underlying4 _), (trodAll_cons_mk (Below.trod laidOut (by kernel_rfl) (of_decide_eq_true (by kernel_rfl)) k0 bel lt0) trodAll_mk0), rfl, bel.frame _, fun h => by cases h⟩
theorem closed : joinedFacts Try.pinned.checked.prog 5 Try.f5 ((OpenSpec.ofChange Rows.fnSlidesKeepSpec)).bare Rows.fnSlidesKeepRow = true := by
  unfold joinedFacts
  repeat' with_reducible refine and_mk ?_ ?_
  case refine_1.refine_1.refine_1.refine_1.refine_1.refine_1.refine_2 => exact enters
  case refine_1.refine_1.refine_1.refine_1.refine_1.refine_2 => exact (show (Rows.fnSlidesKeepRow.lifted == Try.prog.liftsFinal) = true by rw [final_no]; rfl)
  case refine_1.refine_1.refine_1.refine_1.refine_2 => exact (show (Try.prog.make == some Rows.fnSlidesKeepRow.make) = true by rw [make_cut]; rfl)
  case refine_1.refine_1.refine_1.refine_1.refine_1.refine_1.refine_1.refine_1.refine_1.refine_1.refine_1.refine_1.refine_1.refine_1.refine_1.refine_1.refine_1.refine_1.refine_1.refine_1.refine_1.refine_1.refine_1.refine_1.refine_1.refine_1.refine_1.refine_1.refine_1.refine_1.refine_2 => exact laidOut
  case refine_1.refine_1.refine_1.refine_1.refine_1.refine_1.refine_1.refine_1.refine_1.refine_1.refine_1.refine_1.refine_1.refine_1.refine_1.refine_1.refine_1.refine_1.refine_1.refine_1.refine_1.refine_1.refine_1.refine_1.refine_1.refine_1.refine_1.refine_1.refine_1.refine_2 => exact maps_rowed
  case refine_1.refine_1.refine_1.refine_1.refine_1.refine_1.refine_1.refine_2 => exact stops_heard
  all_goals (as_aux_lemma => kernel_rfl)
theorem proved : Rows.FnSlidesKeepSaid :=
  OpenClaim.holds_of_cond 5 Try.f5 rfl rfl rfl rfl rfl rfl rfl ⟨rfl, rfl, rfl, rfl, rfl⟩ rfl rfl rfl rfl rfl (by kernel_rfl) Try.func5 closed
    (of_decide_eq_true (by kernel_rfl)) (by unfold Func.isWrapper; first | (rw [if_pos (by decide +kernel)]; kernel_rfl) | (rw [if_neg (by decide +kernel)]; exact ⟨rfl, rfl⟩))
    (fun os started H enc _ F => by rw [OpenClaim.pre_eq_preRow]; exact lifted os started H enc F)
#print axioms proved
end Go.Proofs.Ytffonncbmddjgaa.fnSlidesKeep
