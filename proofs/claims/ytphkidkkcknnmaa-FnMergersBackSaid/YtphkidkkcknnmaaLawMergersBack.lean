/-
  Proved: for every code, the law FnMergersBack returns true, and the code reads as it did. No condition.
-/
import Derived.Test.YtphkidkkcknnmaaDrawMade
import Derived.Test.YtphkidkkcknnmaaSpecMerge
import Derived.Test.YtphkidkkcknnmaaImplMg
import Derived.Test.YtphkidkkcknnmaaBackA
import Derived.Test.YtphkidkkcknnmaaRowsMo
import Derived.Test.YtphkidkkcknnmaaImplSlideBoard
import Derived.Test.YtphkidkkcknnmaaCellA
import Derived.Test.YtphkidkkcknnmaaBaseA
import Derived.Test.YtphkidkkcknnmaaClosed
namespace Go.Proofs.Ytphkidkkcknnmaa.Plain
theorem must_in {f : Nat → Int} {d : Int} (h : MbOk f d) (i : Nat) (hi : i < mmN false f d) : ∃ j, j < mmN true f d ∧ ∀ c, c < 2 → (mmL true f d).getD (j * 2 + c) 0 = (mmL false f d).getD (i * 2 + c) 0 := by
  obtain ⟨a1, a2⟩ := mm_yes false h
  obtain ⟨b1, b2⟩ := mm_yes true h
  rw [a2] at hi
  rw [a1, b1, b2]
  obtain ⟨k, hk, ho, e0, e1⟩ := ce_at _ 16 i hi
  obtain ⟨j, hj, f0, f1⟩ := ce_has _ 16 k hk (must_can h hk ho)
  refine ⟨j, hj, fun c hc => ?_⟩
  rw [List.getD_eq_getElem?_getD, List.getD_eq_getElem?_getD]
  rcases (by omega : c = 0 ∨ c = 1) with rfl | rfl
  · rw [Nat.add_zero, Nat.add_zero, e0, f0]
  · rw [e1, f1]
end Go.Proofs.Ytphkidkkcknnmaa.Plain
namespace Go.Proofs.Ytphkidkkcknnmaa.fnMergersBack
open Go.ChangeShapes Go.WideShapes Go.ChangeAt Go.RowKit Plain
attribute [local go_sem] store_new
set_option linter.unusedSimpArgs false
set_option linter.unusedVariables false
theorem crow_list {w : World} {b g c n : Nat} {L : List Int} (ho : OwnsCells w b (.slice (some ⟨g, 0, none⟩) n c) n L) (hl : L.length = n * 2) : CRow w (.slice (some ⟨g, 0, none⟩) n c) n (fun i => L.getD i 0) := by
  unfold OwnsCells at ho
  rw [ints_mk, hl] at ho
  exact CRow.of_own ho
theorem execAC {o : Oper} {ev : Operand → Value} {w : World} {b n off : Nat} {f : Nat → Int} {x : Operand} (hg : CAt w b n f) (hm : off + 2 ≤ n) (ho : o.op = .load 63 x) (hx : ev x = .pointer (some ⟨b, off, none⟩)) :
    (execOp ev o).run Try.prog w = .ok (.value (.agg (mk 2 (fun i => f (off + i))))) w := exec_load_at _ x ho hx hg hm Try.underlying63 rfl sizeC
/-- Some of the first k cells is the cell m. -/
def inC (hC : Nat → Int) (m : Nat → Int) (k : Nat) : Bool := (List.range k).any fun j => sameC (fun c => hC (j * 2 + c)) m
theorem inC_step (hC m : Nat → Int) (k : Nat) : inC hC m (k + 1) = (inC hC m k || sameC (fun c => hC (k * 2 + c)) m) := by
  unfold inC; rw [List.range_succ, List.any_append]; simp
theorem inC_has {hC m : Nat → Int} {n j : Nat} (hj : j < n) (h : ∀ c, c < 2 → hC (j * 2 + c) = m c) : inC hC m n = true := by
  unfold inC
  rw [List.any_eq_true]
  exact ⟨j, List.mem_range.2 hj, by simp only [sameC, List.all_eq_true, List.mem_range]; exact fun c hc => by rw [h c hc]; simp⟩

set_option maxHeartbeats 16000000 in
set_option maxRecDepth 100000 in
theorem walk (w : World) (_ : w.ShapedOpen Try.prog) (a0 : Option Addr) (len0 cap0 : Nat) (z0 : List Int) (hr : IsRow .u8 w a0 len0 cap0 z0) :
    Calls Try.prog 13 #[.slice a0 len0 cap0] w fun e w' => e = .returned (.bool true) ∧ Below w.heap.size w w' := by
  have z16 := zero16
  have HR := Lib.hid hr
  have HB : Hid (Below w.heap.size w w) := Below.refl w.heap.size w
  clear hr
  by_cases hl : len0 ≤ 65536
  · have dl : decide ((65536 : Int) < (len0 : Int)) = false := by simp; omega
    go_enter Try.func13, Try.ntmps13
    go_wp2_with fail
    refine (rBig_any a0 len0 cap0 _).mono ?_
    rintro e w' ⟨rfl, rfl⟩
    rw [dl]
    clear dl
    go_wp2_with fail
    refine (drawMustMerge_any a0 len0 cap0 _ hl (HR.out.code)).mono ?_
    rintro e w1 ⟨f, d, rfl, hb⟩
    have HBw : Hid (Below w.heap.size w w1) := hb
    have HR1 := Lib.hid (HR.out.code.later hb)
    have K3 := Blk.new w1 16 f 28
    replace HB : Hid (Below w.heap.size w (w1.alloc (.cells (mk 16 f) 28))) := HBw.out.alloc HBw.out.size _
    clear hb HBw
    obtain ⟨nM, hnM⟩ : ∃ F, F = mmN false f d := ⟨_, rfl⟩
    obtain ⟨hM, hhM⟩ : ∃ F, F = fun i => (mmL false f d).getD i 0 := ⟨_, rfl⟩
    obtain ⟨nC, hnC⟩ : ∃ F, F = mmN true f d := ⟨_, rfl⟩
    obtain ⟨hC, hhC⟩ : ∃ F, F = fun i => (mmL true f d).getD i 0 := ⟨_, rfl⟩
    obtain ⟨O, hOO⟩ : ∃ F, F = mbO f d := ⟨_, rfl⟩
    obtain ⟨N, hNN⟩ : ∃ F, F = mbR f d := ⟨_, rfl⟩
    obtain ⟨nE, hnE0⟩ : ∃ F, F = empN f 16 := ⟨_, rfl⟩
    have iMM : Hid (∀ W, Calls Try.prog 35 #[.agg (mk 16 f), .int .i64 d] W fun e w' => ∃ g c, e = .returned (.tuple #[.slice (some ⟨g, 0, none⟩) nM c, .bool O]) ∧ CRow w' (.slice (some ⟨g, 0, none⟩) nM c) nM hM ∧ Below W.heap.size W w') := by
      show ∀ W, _; intro W; rw [hnM, hhM, hOO]; exact (implMustMerge_any f d W).mono fun e w' ⟨g, c, r1, r2, r3⟩ => ⟨g, c, r1, crow_list r2 (mm_len false f d), r3⟩
    have sMM : Hid (∀ W, Calls Try.prog 34 #[.agg (mk 16 f), .int .i64 d] W fun e w' => ∃ g c, e = .returned (.tuple #[.slice (some ⟨g, 0, none⟩) nM c, .bool O]) ∧ CRow w' (.slice (some ⟨g, 0, none⟩) nM c) nM hM ∧ Below W.heap.size W w') := by
      show ∀ W, _; intro W; rw [hnM, hhM, hOO]; exact (specMustMerge_any f d W).mono fun e w' ⟨g, c, r1, r2, r3⟩ => ⟨g, c, r1, crow_list r2 (mm_len false f d), r3⟩
    have iCM : Hid (∀ W, Calls Try.prog 37 #[.agg (mk 16 f), .int .i64 d] W fun e w' => ∃ g c, e = .returned (.tuple #[.slice (some ⟨g, 0, none⟩) nC c, .bool O]) ∧ CRow w' (.slice (some ⟨g, 0, none⟩) nC c) nC hC ∧ Below W.heap.size W w') := by
      show ∀ W, _; intro W; rw [hnC, hhC, hOO]; exact (implCanMerge_any f d W).mono fun e w' ⟨g, c, r1, r2, r3⟩ => ⟨g, c, r1, crow_list r2 (mm_len true f d), r3⟩
    have sCM : Hid (∀ W, Calls Try.prog 36 #[.agg (mk 16 f), .int .i64 d] W fun e w' => ∃ g c, e = .returned (.tuple #[.slice (some ⟨g, 0, none⟩) nC c, .bool O]) ∧ CRow w' (.slice (some ⟨g, 0, none⟩) nC c) nC hC ∧ Below W.heap.size W w') := by
      show ∀ W, _; intro W; rw [hnC, hhC, hOO]; exact (specCanMerge_any f d W).mono fun e w' ⟨g, c, r1, r2, r3⟩ => ⟨g, c, r1, crow_list r2 (mm_len true f d), r3⟩
    have iMB : Hid (∀ W, Calls Try.prog 33 #[.agg (mk 16 f), .int .i64 d] W fun e w' => e = .returned (.tuple #[.int .i64 N, .bool O]) ∧ Below W.heap.size W w') := by show ∀ W, _; rw [hNN, hOO]; exact implMostB_any f d
    have sMB : Hid (∀ W, Calls Try.prog 32 #[.agg (mk 16 f), .int .i64 d] W fun e w' => e = .returned (.tuple #[.int .i64 N, .bool O]) ∧ Below W.heap.size W w') := by show ∀ W, _; rw [hNN, hOO]; exact specMostB_any f d
    have HNM : Hid (nM ≤ 16) := by show _ ≤ _; rw [hnM]; exact mmN_le false f d
    have HNC : Hid (nC ≤ 16) := by show _ ≤ _; rw [hnC]; exact mmN_le true f d
    have HTR : Hid (O = true → (∀ W, Calls Try.prog 51 #[.agg (mk 16 f)] W fun e w' => ∃ g c, e = .returned (.tuple #[.slice (some ⟨g, 0, none⟩) nE c, .bool true]) ∧ Below W.heap.size W w') ∧ nE ≤ 16 ∧ 16 - (nE : Int) + (nM : Int) ≤ N ∧ N ≤ 16 - (nE : Int) + (nC : Int) ∧ True ∧ ∀ i, i < nM → ∃ j, j < nC ∧ ∀ c, c < 2 → hC (j * 2 + c) = hM (i * 2 + c)) := fun hO => by
      have h : MbOk f d := of_decide_eq_true (hOO.symm.trans hO)
      have hb := mb_between h
      refine ⟨fun W => ?_, by rw [hnE0]; exact empN_le f 16, by rw [hNN, hnM, hnE0]; exact hb.2, by rw [hNN, hnC, hnE0]; exact hb.1, trivial, fun i hi => ?_⟩
      · have := implCells_any f W
        rw [(cell_yes h.1.1).2, vdO_yes h.1.1, ← hnE0] at this
        exact this.mono fun e w' ⟨g, c, r1, _, r3⟩ => ⟨g, c, r1, r3⟩
      · rw [hnM] at hi
        obtain ⟨j, hj, hc⟩ := must_in h i hi
        exact ⟨j, by rw [hnC]; exact hj, fun c hcc => by rw [hhC, hhM]; exact hc c hcc⟩
    clear hnM hhM hnC hhC hOO hNN hnE0
    go_wp2_with ((with_reducible show wpList _ _ _ (Oper.mk _ (Op.load 28 _) _ _ _ _ :: _) _ _); refine loadB (K3) rfl rfl rfl ?_)
    refine (iMM.out _).mono ?_
    rintro e w2 ⟨gm, cm, rfl, hm, hb⟩
    replace K3 := K3.below hb K3.lt
    replace HB : Hid (Below w.heap.size w w2) := HB.out.trans (hb.mono HB.out.size)
    have RM := Lib.hid hm
    replace HR1 := Lib.hid (HR1.out.later (((Below.refl _ w1).alloc (Nat.le_refl _) (.cells (mk 16 f) 28)).trans (hb.mono (by simp))))
    clear hb hm
    go_wp2_with ((with_reducible show wpList _ _ _ (Oper.mk _ (Op.load 28 _) _ _ _ _ :: _) _ _); refine loadB (K3) rfl rfl rfl ?_)
    refine (sMM.out _).mono ?_
    rintro e w3 ⟨gm2, cm2, rfl, hm, hb⟩
    replace K3 := K3.below hb K3.lt
    replace HB : Hid (Below w.heap.size w w3) := HB.out.trans (hb.mono HB.out.size)
    replace RM := Lib.hid (RM.out.below hb)
    replace HR1 := Lib.hid (HR1.out.later hb)
    clear hb
    go_wp2_with fail
    refine (rCells_yes _ _ nM hM _ RM.out hm (by have := HNM.out; omega)).mono ?_
    rintro e w4 ⟨rfl, kd, rfl⟩
    replace K3 : Blk (w3.drewN kd) _ 16 f 28 := K3
    replace RM : Hid (CRow (w3.drewN kd) (.slice (some ⟨gm, 0, none⟩) nM cm) nM hM) := RM.out
    replace HB : Hid (Below w.heap.size w (w3.drewN kd)) := below_drewN HB.out kd
    replace HR1 := Lib.hid (HR1.out.later (below_drewN (Below.refl _ w3) kd))
    clear hm
    generalize w3.drewN kd = w4 at *
    go_wp2_with ((with_reducible show wpList _ _ _ (Oper.mk _ (Op.load 28 _) _ _ _ _ :: _) _ _); refine loadB (K3) rfl rfl rfl ?_)
    refine (iCM.out _).mono ?_
    rintro e w5 ⟨gc, cc, rfl, hc, hb⟩
    replace K3 := K3.below hb K3.lt
    replace HB : Hid (Below w.heap.size w w5) := HB.out.trans (hb.mono HB.out.size)
    replace RM := Lib.hid (RM.out.below hb)
    replace HR1 := Lib.hid (HR1.out.later hb)
    have RC := Lib.hid hc
    clear hb hc
    go_wp2_with ((with_reducible show wpList _ _ _ (Oper.mk _ (Op.load 28 _) _ _ _ _ :: _) _ _); refine loadB (K3) rfl rfl rfl ?_)
    refine (sCM.out _).mono ?_
    rintro e w6 ⟨gc2, cc2, rfl, hc, hb⟩
    replace K3 := K3.below hb K3.lt
    replace HB : Hid (Below w.heap.size w w6) := HB.out.trans (hb.mono HB.out.size)
    replace RM := Lib.hid (RM.out.below hb)
    replace RC := Lib.hid (RC.out.below hb)
    replace HR1 := Lib.hid (HR1.out.later hb)
    clear hb
    go_wp2_with fail
    refine (rCells_yes _ _ nC hC _ RC.out hc (by have := HNC.out; omega)).mono ?_
    rintro e w7 ⟨rfl, kd, rfl⟩
    replace K3 : Blk (w6.drewN kd) _ 16 f 28 := K3
    replace RM : Hid (CRow (w6.drewN kd) (.slice (some ⟨gm, 0, none⟩) nM cm) nM hM) := RM.out
    replace RC : Hid (CRow (w6.drewN kd) (.slice (some ⟨gc, 0, none⟩) nC cc) nC hC) := RC.out
    replace HB : Hid (Below w.heap.size w (w6.drewN kd)) := below_drewN HB.out kd
    replace HR1 := Lib.hid (HR1.out.later (below_drewN (Below.refl _ w6) kd))
    clear hc
    generalize w6.drewN kd = w7 at *
    go_wp2_with ((with_reducible show wpList _ _ _ (Oper.mk _ (Op.load 28 _) _ _ _ _ :: _) _ _); refine loadB (K3) rfl rfl rfl ?_)
    refine (iMB.out _).mono ?_
    rintro e w8 ⟨rfl, hb⟩
    replace K3 := K3.below hb K3.lt
    replace HB : Hid (Below w.heap.size w w8) := HB.out.trans (hb.mono HB.out.size)
    replace RM := Lib.hid (RM.out.below hb)
    replace RC := Lib.hid (RC.out.below hb)
    replace HR1 := Lib.hid (HR1.out.later hb)
    clear hb
    go_wp2_with ((with_reducible show wpList _ _ _ (Oper.mk _ (Op.load 28 _) _ _ _ _ :: _) _ _); refine loadB (K3) rfl rfl rfl ?_)
    refine (sMB.out _).mono ?_
    rintro e w9 ⟨rfl, hb⟩
    replace K3 := K3.below hb K3.lt
    replace HB : Hid (Below w.heap.size w w9) := HB.out.trans (hb.mono HB.out.size)
    replace RM := Lib.hid (RM.out.below hb)
    replace RC := Lib.hid (RC.out.below hb)
    replace HR1 := Lib.hid (HR1.out.later hb)
    clear hb iMM sMM iCM sCM iMB sMB
    go_wp2_with fail
    refine (drawSlideBoard_any a0 len0 cap0 _ hl HR1.out).mono ?_
    rintro e w10 ⟨c, x, rfl, hb⟩
    replace K3 := (K3.below hb K3.lt).alloc (.cells (mk 16 c) 28)
    have K17 := Blk.new w10 16 c 28
    replace HB : Hid (Below w.heap.size w w10) := HB.out.trans (hb.mono HB.out.size)
    replace HB : Hid (Below w.heap.size w (w10.alloc (.cells (mk 16 c) 28))) := HB.out.alloc HB.out.size _
    replace RM := Lib.hid ((RM.out.below hb).below ((Below.refl _ w10).alloc (Nat.le_refl _) (.cells (mk 16 c) 28)))
    replace RC := Lib.hid ((RC.out.below hb).below ((Below.refl _ w10).alloc (Nat.le_refl _) (.cells (mk 16 c) 28)))
    clear hb HR1
    have iSB : Hid (∀ W, Calls Try.prog 50 #[.agg (mk 16 c), .int .i64 x] W fun e w' => e = .returned (.tuple #[.agg (mk 16 (slideRB c x)), .int .i64 (slideRS c x), .bool (slideRO c x)]) ∧ Below W.heap.size W w') := implSlide_any c x
    have iN := neqB
    have iNE : ∀ (f g : Nat → Int) (w : World), (Op.equalIn 10000 28 (.agg (mk 16 f)) (.agg (mk 16 g))).run Try.prog w = .ok (sameB f g) w := eqB 9996
    by_cases hS : SlideOk c x ∧ isMv c x.toNat = true
    · as_aux_lemma =>
        obtain ⟨⟨hV, hd⟩, hmv⟩ := hS
        obtain ⟨k, rfl⟩ := Int.eq_ofNat_of_zero_le hd.1
        rw [Int.toNat_natCast] at hmv
        have hk4 : k < 4 := by omega
        obtain ⟨y1, y2, _⟩ := slide_yes (f := c) (d := (k : Int)) ⟨hV, hd⟩
        rw [y1, y2, Int.toNat_natCast] at iSB
        have hsm : sameB (slideB c k) c = false := by rw [isMv_not, hmv]; rfl
        obtain ⟨hok, hc1⟩ := move_mb hV hk4 hmv
        have hmost := move_most hV hk4 hmv
        obtain ⟨S, hSS⟩ : ∃ F, F = slideRS c (k : Int) := ⟨_, rfl⟩
        rw [← hSS] at iSB
        obtain ⟨CB, hCB⟩ : ∃ F, F = cbR (slideB c k) (k : Int) := ⟨_, rfl⟩
        obtain ⟨MB, hMB⟩ : ∃ F, F = mbR (slideB c k) (k : Int) := ⟨_, rfl⟩
        obtain ⟨nX, hnX⟩ : ∃ F, F = empN c 16 := ⟨_, rfl⟩
        rw [← hCB] at hc1
        rw [← hMB, ← hnX] at hmost
        have iCB : Hid (∀ W, Calls Try.prog 16 #[.agg (mk 16 (slideB c k)), .int .i64 (k : Int)] W fun e w' => e = .returned (.tuple #[.int .i64 CB, .bool true]) ∧ Below W.heap.size W w') := by
          show ∀ W, _; intro W; rw [hCB, ← (slide_yes hok.1).1]; exact implCountB_any _ _ W
        have iMB : Hid (∀ W, Calls Try.prog 33 #[.agg (mk 16 (slideB c k)), .int .i64 (k : Int)] W fun e w' => e = .returned (.tuple #[.int .i64 MB, .bool true]) ∧ Below W.heap.size W w') := by
          show ∀ W, _; intro W; rw [hMB, ← (mb_yes hok).1]; exact implMostB_any _ _ W
        have iEC : Hid (∀ W, Calls Try.prog 51 #[.agg (mk 16 c)] W fun e w' => ∃ g q, e = .returned (.tuple #[.slice (some ⟨g, 0, none⟩) nX q, .bool true]) ∧ Below W.heap.size W w') := by
          show ∀ W, _; intro W
          have := implCells_any c W
          rw [(cell_yes hV).2, vdO_yes hV, ← hnX] at this
          exact this.mono fun e w' ⟨g, q, r1, _, r3⟩ => ⟨g, q, r1, r3⟩
        have hnx : nX ≤ 16 := by rw [hnX]; exact empN_le c 16
        clear hV hd hmv hok y1 y2 hSS hCB hMB hnX
        generalize slideB c k = nx at *
        go_wp2_with ((with_reducible show wpList _ _ _ (Oper.mk _ (Op.load 28 _) _ _ _ _ :: _) _ _); refine loadB (K17) rfl rfl rfl ?_)
        refine (iSB.out _).mono ?_
        rintro e w11 ⟨rfl, hb⟩
        replace K3 := (K3.below hb K3.lt).alloc (.cells (mk 16 nx) 28)
        replace K17 := (K17.below hb K17.lt).alloc (.cells (mk 16 nx) 28)
        have K19 := Blk.new w11 16 nx 28
        replace HB : Hid (Below w.heap.size w w11) := HB.out.trans (hb.mono HB.out.size)
        replace HB : Hid (Below w.heap.size w (w11.alloc (.cells (mk 16 nx) 28))) := HB.out.alloc HB.out.size _
        replace RM := Lib.hid ((RM.out.below hb).below ((Below.refl _ w11).alloc (Nat.le_refl _) (.cells (mk 16 nx) 28)))
        replace RC := Lib.hid ((RC.out.below hb).below ((Below.refl _ w11).alloc (Nat.le_refl _) (.cells (mk 16 nx) 28)))
        clear hb iSB
        go_wp2_with (first | ((with_reducible show wpList _ _ _ (Oper.mk _ (Op.load 28 _) _ _ _ _ :: _) _ _); refine loadB (K19) rfl rfl rfl ?_) | ((with_reducible show wpList _ _ _ (Oper.mk _ (Op.load 28 _) _ _ _ (some _) :: _) _ _); refine loadgB (K19) rfl rfl rfl ?_) | ((with_reducible show wpList _ _ _ (Oper.mk _ (Op.load 28 _) _ _ _ _ :: _) _ _); refine loadB (K17) rfl rfl rfl ?_) | ((with_reducible show wpList _ _ _ (Oper.mk _ (Op.load 28 _) _ _ _ (some _) :: _) _ _); refine loadgB (K17) rfl rfl rfl ?_))
        clear iN iNE hsm
        refine (iCB.out _).mono ?_
        rintro e w12 ⟨rfl, hb⟩
        replace K3 := K3.below hb K3.lt
        replace K17 := K17.below hb K17.lt
        replace K19 := K19.below hb K19.lt
        replace HB : Hid (Below w.heap.size w w12) := HB.out.trans (hb.mono HB.out.size)
        replace RM := Lib.hid (RM.out.below hb)
        replace RC := Lib.hid (RC.out.below hb)
        have p1 : ¬ (CB < 1) := by omega
        clear hb iCB
        go_wp2_with (first | ((with_reducible show wpList _ _ _ (Oper.mk _ (Op.load 28 _) _ _ _ _ :: _) _ _); refine loadB (K19) rfl rfl rfl ?_) | ((with_reducible show wpList _ _ _ (Oper.mk _ (Op.load 28 _) _ _ _ _ :: _) _ _); refine loadB (K17) rfl rfl rfl ?_))
        clear p1
        refine (iMB.out _).mono ?_
        rintro e w13 ⟨rfl, hb⟩
        replace K3 := K3.below hb K3.lt
        replace K17 := K17.below hb K17.lt
        replace HB : Hid (Below w.heap.size w w13) := HB.out.trans (hb.mono HB.out.size)
        replace RM := Lib.hid (RM.out.below hb)
        replace RC := Lib.hid (RC.out.below hb)
        clear hb iMB K19
        go_wp2_with ((with_reducible show wpList _ _ _ (Oper.mk _ (Op.load 28 _) _ _ _ _ :: _) _ _); refine loadB (K17) rfl rfl rfl ?_)
        refine (iEC.out _).mono ?_
        rintro e w14 ⟨g26, c26, rfl, hb⟩
        replace K3 := K3.below hb K3.lt
        replace HB : Hid (Below w.heap.size w w14) := HB.out.trans (hb.mono HB.out.size)
        replace RM := Lib.hid (RM.out.below hb)
        replace RC := Lib.hid (RC.out.below hb)
        have w16 : IntKind.i64.wrap (16 - (nX : Int)) = 16 - (nX : Int) := IntWalk.i64_in _ (by omega)
        have p1 : ¬ (MB < 16 - (nX : Int)) := by omega
        clear hb iEC K17
        cases hO : O with
        | false =>
          subst hO
          go_wp2_with (first |  fail)
          go_ret
          exact ⟨rfl, HB.out⟩
        | true =>
          obtain ⟨hE, hnE, q1, q2, q3, hIN⟩ := HTR.out hO
          have HIN := Lib.hid hIN
          have HE := Lib.hid hE
          subst hO
          clear hIN hE
          go_wp2_with (first |  ((with_reducible show wpList _ _ _ (Oper.mk _ (Op.load 28 _) _ _ _ _ :: _) _ _); refine loadB (K3) rfl rfl rfl ?_) | ((with_reducible show wpList _ _ _ (Oper.mk _ (Op.load 28 _) _ _ _ (some _) :: _) _ _); refine loadgB (K3) rfl rfl rfl ?_))
          skip
          refine (HE.out _).mono ?_
          rintro e w30 ⟨g28, c28, rfl, hb⟩
          have HB : Hid (Below w.heap.size w w30) := HB.out.trans (hb.mono HB.out.size)
          have RM : Hid (CRow w30 (.slice (some ⟨gm, 0, none⟩) nM cm) nM hM) := RM.out.below hb
          have RC : Hid (CRow w30 (.slice (some ⟨gc, 0, none⟩) nC cc) nC hC) := RC.out.below hb
          clear hb
          have w16 : IntKind.i64.wrap (16 - (nE : Int)) = 16 - (nE : Int) := IntWalk.i64_in _ (by omega)
          have wC : IntKind.i64.wrap (16 - (nE : Int) + (nC : Int)) = 16 - (nE : Int) + (nC : Int) := IntWalk.i64_in _ (by have := HNC.out; omega)
          have wM : IntKind.i64.wrap (16 - (nE : Int) + (nM : Int)) = 16 - (nE : Int) + (nM : Int) := IntWalk.i64_in _ (by have := HNM.out; omega)
          have p1 : ¬ (N < 16 - (nE : Int)) := by omega
          have p2 : ¬ (16 - (nE : Int) + (nC : Int) < N) := by omega
          have p3 : ¬ (N < 16 - (nE : Int) + (nM : Int)) := by omega
          obtain ⟨_, _, e1, _, CM⟩ := RM.out
          cases e1
          obtain ⟨_, _, e1, _, CC⟩ := RC.out
          cases e1
          clear K3 RM RC q1 q2 q3
          go_wp2_with fail
          clear w16 wC wM p1 p2 p3
          go_loopg [30] nM (fun gi s30 wr => ∃ i : Nat, i + gi = nM ∧ s30 = .int .i64 i ∧ CAt wr gm (nM * 2) hM ∧ CAt wr gc (nC * 2) hC ∧ Hid (Below w.heap.size w wr))
          case atStart => exact ⟨0, by omega, rfl, CM, CC, HB⟩
          case round =>
            clear CM CC HB
            obtain ⟨i, hig, rfl, CM, CC, HB⟩ := hrel
            cases gk with
            | zero =>
              have hi : ¬ ((i : Int) < (nM : Int)) := by omega
              obtain rfl : i = nM := by omega
              go_wp2_with fail
              go_ret
              exact ⟨rfl, HB.out⟩
            | succ q1 =>
              have hi : (i : Int) < (nM : Int) := by omega
              have hi0 : (0 : Int) ≤ (i : Int) := by omega
              have hi9 : i < nM := by omega
              obtain ⟨j0, hj0, hjc⟩ := HIN.out i hi9
              have HI := Lib.hid (inC_has (m := fun c => hM (i * 2 + c)) hj0 hjc)
              have HIS := Lib.hid (fun k => inC_step hC (fun c => hM (i * 2 + c)) k)
              have HI0 : Hid (inC hC (fun c => hM (i * 2 + c)) 0 = false) := rfl
              have hnm := HNM.out
              clear hjc
              go_wp2_with fail
              go_loopg [31, 32] nC (fun gk s31 s32 wx => ∃ k : Nat, k + gk = nC ∧ s32 = .int .i64 k ∧ s31 = .bool (inC hC (fun c => hM (i * 2 + c)) k) ∧ CAt wx gm (nM * 2) hM ∧ CAt wx gc (nC * 2) hC ∧ Hid (Below w.heap.size w wx))
              case atStart => exact ⟨0, by omega, rfl, rfl, CM, CC, HB⟩
              case round =>
                clear CM CC HB
                obtain ⟨k, hkg, rfl, rfl, CM, CC, HB⟩ := hrel
                cases gk with
                | zero =>
                  have hk : ¬ ((k : Int) < (nC : Int)) := by omega
                  obtain rfl : k = nC := by omega
                  rw [HI.out]
                  go_wp2_with fail
                  go_roundg q1
                  case rel => exact ⟨i + 1, by omega, by go_num, CM, CC, HB⟩
                  case measure => omega
                | succ q2 =>
                  have hk : (k : Int) < (nC : Int) := by omega
                  have hk0 : (0 : Int) ≤ (k : Int) := by omega
                  have hnc := HNC.out
                  have HS := Lib.hid (HIS.out k)
                  have iE : ∀ (w : World), (Op.equalIn 10000 63 (.agg (mk 2 fun j => hC (k * 2 + j))) (.agg (mk 2 fun j => hM (i * 2 + j)))).run Try.prog w = .ok (sameC (fun j => hC (k * 2 + j)) (fun j => hM (i * 2 + j))) w := fun w => eqC2 9998 _ _ w
                  generalize sameC (fun c => hC (k * 2 + c)) (fun c => hM (i * 2 + c)) = sm at *
                  cases hI : inC hC (fun c => hM (i * 2 + c)) k with
                  | true =>
                    have HS2 : Hid (inC hC (fun c => hM (i * 2 + c)) (k + 1) = true) := by show _ = _; rw [HS.out, hI]; rfl
                    clear hI
                    go_wp2_with fail
                    refine wp_region_held_drew (S := fun W => CAt W gc (nC * 2) hC ∧ CAt W gm (nM * 2) hM) (by kernel_rfl) (⟨CC.drew, CM.drew⟩) (fun hHeld => ?_)
                    refine wpAnyH_take (i := 0) (oi := { dst := some 214, op := _, type := _, pos := _, after := _, guard := _ }) (v := .bool true) rfl (by kernel_rfl) (by kernel_rfl) (by kernel_rfl) (fun _ _ _ h => h) (Or.inl ⟨by rfl, by intro w hSw; clear hSw; go_simp; (try with_reducible rfl)⟩) (by assumption) ?_
                    try simp only [Act.put, List.setIfInBounds_toArray, List.set_cons_zero, List.set_cons_succ]
                    refine wpAnyH_take (i := 1) (oi := { dst := some 215, op := _, type := _, pos := _, after := _, guard := _ }) (v := .bool true) rfl (by kernel_rfl) (by kernel_rfl) (by kernel_rfl) (fun _ _ _ h => h) (Or.inl ⟨by rfl, by intro w hSw; clear hSw; go_simp; (try with_reducible rfl)⟩) (by assumption) ?_
                    try simp only [Act.put, List.setIfInBounds_toArray, List.set_cons_zero, List.set_cons_succ]
                    refine wpAnyH_take (i := 2) (oi := { dst := some 216, op := _, type := _, pos := _, after := _, guard := _ }) (v := undef) rfl (by kernel_rfl) (by kernel_rfl) (by kernel_rfl) (fun _ _ _ h => h) (Or.inr ⟨by rfl, rfl⟩) (by assumption) ?_
                    try simp only [Act.put, List.setIfInBounds_toArray, List.set_cons_zero, List.set_cons_succ]
                    refine wpAnyH_take (i := 3) (oi := { dst := some 217, op := _, type := _, pos := _, after := _, guard := _ }) (v := undef) rfl (by kernel_rfl) (by kernel_rfl) (by kernel_rfl) (fun _ _ _ h => h) (Or.inr ⟨by rfl, rfl⟩) (by assumption) ?_
                    try simp only [Act.put, List.setIfInBounds_toArray, List.set_cons_zero, List.set_cons_succ]
                    refine wpAnyH_take (i := 4) (oi := { dst := some 218, op := _, type := _, pos := _, after := _, guard := _ }) (v := undef) rfl (by kernel_rfl) (by kernel_rfl) (by kernel_rfl) (fun _ _ _ h => h) (Or.inr ⟨by rfl, rfl⟩) (by assumption) ?_
                    try simp only [Act.put, List.setIfInBounds_toArray, List.set_cons_zero, List.set_cons_succ]
                    refine wpAnyH_take (i := 5) (oi := { dst := some 219, op := _, type := _, pos := _, after := _, guard := _ }) (v := undef) rfl (by kernel_rfl) (by kernel_rfl) (by kernel_rfl) (fun _ _ _ h => h) (Or.inr ⟨by rfl, rfl⟩) (by assumption) ?_
                    try simp only [Act.put, List.setIfInBounds_toArray, List.set_cons_zero, List.set_cons_succ]
                    refine wpAnyH_take (i := 6) (oi := { dst := some 220, op := _, type := _, pos := _, after := _, guard := _ }) (v := undef) rfl (by kernel_rfl) (by kernel_rfl) (by kernel_rfl) (fun _ _ _ h => h) (Or.inr ⟨by rfl, rfl⟩) (by assumption) ?_
                    try simp only [Act.put, List.setIfInBounds_toArray, List.set_cons_zero, List.set_cons_succ]
                    refine wpAnyH_take (i := 7) (oi := { dst := some 221, op := _, type := _, pos := _, after := _, guard := _ }) (v := undef) rfl (by kernel_rfl) (by kernel_rfl) (by kernel_rfl) (fun _ _ _ h => h) (Or.inr ⟨by rfl, rfl⟩) (by assumption) ?_
                    try simp only [Act.put, List.setIfInBounds_toArray, List.set_cons_zero, List.set_cons_succ]
                    refine wpAnyH_take (i := 8) (oi := { dst := some 222, op := _, type := _, pos := _, after := _, guard := _ }) (v := undef) rfl (by kernel_rfl) (by kernel_rfl) (by kernel_rfl) (fun _ _ _ h => h) (Or.inr ⟨by rfl, rfl⟩) (by assumption) ?_
                    try simp only [Act.put, List.setIfInBounds_toArray, List.set_cons_zero, List.set_cons_succ]
                    refine wpAnyH_take (i := 9) (oi := { dst := some 223, op := _, type := _, pos := _, after := _, guard := _ }) (v := undef) rfl (by kernel_rfl) (by kernel_rfl) (by kernel_rfl) (fun _ _ _ h => h) (Or.inr ⟨by rfl, rfl⟩) (by assumption) ?_
                    try simp only [Act.put, List.setIfInBounds_toArray, List.set_cons_zero, List.set_cons_succ]
                    refine wpAnyH_take (i := 10) (oi := { dst := some 224, op := _, type := _, pos := _, after := _, guard := _ }) (v := undef) rfl (by kernel_rfl) (by kernel_rfl) (by kernel_rfl) (fun _ _ _ h => h) (Or.inr ⟨by rfl, rfl⟩) (by assumption) ?_
                    try simp only [Act.put, List.setIfInBounds_toArray, List.set_cons_zero, List.set_cons_succ]
                    refine wpAnyH_take (i := 11) (oi := { dst := some 225, op := _, type := _, pos := _, after := _, guard := _ }) (v := .bool true) rfl (by kernel_rfl) (by kernel_rfl) (by kernel_rfl) (fun _ _ _ h => h) (Or.inl ⟨by rfl, by intro w hSw; clear hSw; go_simp; (try with_reducible rfl)⟩) (by assumption) ?_
                    try simp only [Act.put, List.setIfInBounds_toArray, List.set_cons_zero, List.set_cons_succ]
                    refine wpAnyH_take (i := 12) (oi := { dst := some 31, op := _, type := _, pos := _, after := _, guard := _ }) (v := .bool true) rfl (by kernel_rfl) (by kernel_rfl) (by kernel_rfl) (fun _ _ _ h => h) (Or.inl ⟨by rfl, by intro w hSw; clear hSw; go_simp; (try with_reducible rfl)⟩) (by assumption) ?_
                    try simp only [Act.put, List.setIfInBounds_toArray, List.set_cons_zero, List.set_cons_succ]
                    refine wpAnyH_done (by kernel_rfl) ?_ _
                    clear hHeld
                    go_wp2_with fail
                    go_roundg q2
                    case rel => exact ⟨k + 1, by omega, by go_num, by rw [HS2.out], CM.drew, CC.drew, HB.out.drew⟩
                    case measure => omega
                  | false =>
                    have HS2 : Hid (inC hC (fun c => hM (i * 2 + c)) (k + 1) = sm) := by show _ = _; rw [HS.out, hI]; rfl
                    clear hI
                    go_wp2_with fail
                    refine wp_region_held_drew (S := fun W => CAt W gc (nC * 2) hC ∧ CAt W gm (nM * 2) hM) (by kernel_rfl) (⟨CC.drew, CM.drew⟩) (fun hHeld => ?_)
                    refine wpAnyH_take (i := 0) (oi := { dst := some 214, op := _, type := _, pos := _, after := _, guard := _ }) (v := .bool false) rfl (by kernel_rfl) (by kernel_rfl) (by kernel_rfl) (fun _ _ _ h => h) (Or.inl ⟨by rfl, by intro w hSw; clear hSw; go_simp; (try with_reducible rfl)⟩) (by assumption) ?_
                    try simp only [Act.put, List.setIfInBounds_toArray, List.set_cons_zero, List.set_cons_succ]
                    refine wpAnyH_take (i := 1) (oi := { dst := some 215, op := _, type := _, pos := _, after := _, guard := _ }) (v := .bool false) rfl (by kernel_rfl) (by kernel_rfl) (by kernel_rfl) (fun _ _ _ h => h) (Or.inl ⟨by rfl, by intro w hSw; clear hSw; go_simp; (try with_reducible rfl)⟩) (by assumption) ?_
                    try simp only [Act.put, List.setIfInBounds_toArray, List.set_cons_zero, List.set_cons_succ]
                    refine wpAnyH_take (i := 2) (oi := { dst := some 216, op := _, type := _, pos := _, after := _, guard := _ }) (v := .slice (some ⟨gc, 0, none⟩) nC cc) rfl (by kernel_rfl) (by kernel_rfl) (by kernel_rfl) (fun _ _ _ h => h) (Or.inl ⟨by rfl, by intro w hSw; clear hSw; go_simp; (try with_reducible rfl)⟩) (by assumption) ?_
                    try simp only [Act.put, List.setIfInBounds_toArray, List.set_cons_zero, List.set_cons_succ]
                    refine wpAnyH_take (i := 3) (oi := { dst := some 217, op := _, type := _, pos := _, after := _, guard := _ }) (v := .int .i64 (k : Int)) rfl (by kernel_rfl) (by kernel_rfl) (by kernel_rfl) (fun _ _ _ h => h) (Or.inl ⟨by rfl, by intro w hSw; clear hSw; go_simp; (try with_reducible rfl)⟩) (by assumption) ?_
                    try simp only [Act.put, List.setIfInBounds_toArray, List.set_cons_zero, List.set_cons_succ]
                    refine wpAnyH_take (i := 4) (oi := { dst := some 218, op := _, type := _, pos := _, after := _, guard := _ }) (v := .pointer (some ⟨gc, k * 2, none⟩)) rfl (by kernel_rfl) (by kernel_rfl) (by kernel_rfl) (fun _ _ _ h => h) (Or.inl ⟨by rfl, by intro w hSw; clear hSw; go_simp; (try with_reducible rfl)⟩) (by assumption) ?_
                    try simp only [Act.put, List.setIfInBounds_toArray, List.set_cons_zero, List.set_cons_succ]
                    refine wpAnyH_take (i := 5) (oi := { dst := some 219, op := _, type := _, pos := _, after := _, guard := _ }) (v := .agg (mk 2 fun j => hC (k * 2 + j))) rfl (by kernel_rfl) (by kernel_rfl) (by kernel_rfl) (fun _ _ _ h => h) (Or.inl ⟨by rfl, fun _ p => execAC p.1 (by omega) rfl rfl⟩) (by assumption) ?_
                    try simp only [Act.put, List.setIfInBounds_toArray, List.set_cons_zero, List.set_cons_succ]
                    refine wpAnyH_take (i := 6) (oi := { dst := some 220, op := _, type := _, pos := _, after := _, guard := _ }) (v := .slice (some ⟨gm, 0, none⟩) nM cm) rfl (by kernel_rfl) (by kernel_rfl) (by kernel_rfl) (fun _ _ _ h => h) (Or.inl ⟨by rfl, by intro w hSw; clear hSw; go_simp; (try with_reducible rfl)⟩) (by assumption) ?_
                    try simp only [Act.put, List.setIfInBounds_toArray, List.set_cons_zero, List.set_cons_succ]
                    refine wpAnyH_take (i := 7) (oi := { dst := some 221, op := _, type := _, pos := _, after := _, guard := _ }) (v := .int .i64 (i : Int)) rfl (by kernel_rfl) (by kernel_rfl) (by kernel_rfl) (fun _ _ _ h => h) (Or.inl ⟨by rfl, by intro w hSw; clear hSw; go_simp; (try with_reducible rfl)⟩) (by assumption) ?_
                    try simp only [Act.put, List.setIfInBounds_toArray, List.set_cons_zero, List.set_cons_succ]
                    refine wpAnyH_take (i := 8) (oi := { dst := some 222, op := _, type := _, pos := _, after := _, guard := _ }) (v := .pointer (some ⟨gm, i * 2, none⟩)) rfl (by kernel_rfl) (by kernel_rfl) (by kernel_rfl) (fun _ _ _ h => h) (Or.inl ⟨by rfl, by intro w hSw; clear hSw; go_simp; (try with_reducible rfl)⟩) (by assumption) ?_
                    try simp only [Act.put, List.setIfInBounds_toArray, List.set_cons_zero, List.set_cons_succ]
                    refine wpAnyH_take (i := 9) (oi := { dst := some 223, op := _, type := _, pos := _, after := _, guard := _ }) (v := .agg (mk 2 fun j => hM (i * 2 + j))) rfl (by kernel_rfl) (by kernel_rfl) (by kernel_rfl) (fun _ _ _ h => h) (Or.inl ⟨by rfl, fun _ p => execAC p.2 (by omega) rfl rfl⟩) (by assumption) ?_
                    try simp only [Act.put, List.setIfInBounds_toArray, List.set_cons_zero, List.set_cons_succ]
                    refine wpAnyH_take (i := 10) (oi := { dst := some 224, op := _, type := _, pos := _, after := _, guard := _ }) (v := .bool sm) rfl (by kernel_rfl) (by kernel_rfl) (by kernel_rfl) (fun _ _ _ h => h) (Or.inl ⟨by rfl, by intro W hSw; clear hSw; have iE2 := iE W; go_simp⟩) (by assumption) ?_
                    try simp only [Act.put, List.setIfInBounds_toArray, List.set_cons_zero, List.set_cons_succ]
                    refine wpAnyH_take (i := 11) (oi := { dst := some 225, op := _, type := _, pos := _, after := _, guard := _ }) (v := .bool sm) rfl (by kernel_rfl) (by kernel_rfl) (by kernel_rfl) (fun _ _ _ h => h) (Or.inl ⟨by rfl, by intro w hSw; clear hSw; go_simp; (try with_reducible rfl)⟩) (by assumption) ?_
                    try simp only [Act.put, List.setIfInBounds_toArray, List.set_cons_zero, List.set_cons_succ]
                    refine wpAnyH_take (i := 12) (oi := { dst := some 31, op := _, type := _, pos := _, after := _, guard := _ }) (v := .bool sm) rfl (by kernel_rfl) (by kernel_rfl) (by kernel_rfl) (fun _ _ _ h => h) (Or.inl ⟨by rfl, by intro w hSw; clear hSw; go_simp; (try with_reducible rfl)⟩) (by assumption) ?_
                    try simp only [Act.put, List.setIfInBounds_toArray, List.set_cons_zero, List.set_cons_succ]
                    refine wpAnyH_done (by kernel_rfl) ?_ _
                    clear hHeld
                    go_wp2_with fail
                    go_roundg q2
                    case rel => exact ⟨k + 1, by omega, by go_num, by rw [HS2.out], CM.drew, CC.drew, HB.out.drew⟩
                    case measure => omega
    · as_aux_lemma =>
        have hq : (slideRO c x && !sameB (slideRB c x) c) = false := by
          by_cases hS1 : SlideOk c x
          · obtain ⟨y1, y2, _⟩ := slide_yes hS1
            rw [y1, y2, isMv_not, Bool.not_not, Bool.true_and]
            cases hm : isMv c x.toNat with
            | true => exact absurd ⟨hS1, hm⟩ hS
            | false => rfl
          · rw [(slide_no hS1).1]; rfl
        generalize slideRB c x = nx at *
        generalize slideRS c x = S at *
        generalize slideRO c x = SO at *
        clear hS
        go_wp2_with ((with_reducible show wpList _ _ _ (Oper.mk _ (Op.load 28 _) _ _ _ _ :: _) _ _); refine loadB (K17) rfl rfl rfl ?_)
        refine (iSB.out _).mono ?_
        rintro e w11 ⟨rfl, hb⟩
        replace K3 := (K3.below hb K3.lt).alloc (.cells (mk 16 nx) 28)
        replace K17 := (K17.below hb K17.lt).alloc (.cells (mk 16 nx) 28)
        have K19 := Blk.new w11 16 nx 28
        replace HB : Hid (Below w.heap.size w w11) := HB.out.trans (hb.mono HB.out.size)
        replace HB : Hid (Below w.heap.size w (w11.alloc (.cells (mk 16 nx) 28))) := HB.out.alloc HB.out.size _
        replace RM := Lib.hid ((RM.out.below hb).below ((Below.refl _ w11).alloc (Nat.le_refl _) (.cells (mk 16 nx) 28)))
        replace RC := Lib.hid ((RC.out.below hb).below ((Below.refl _ w11).alloc (Nat.le_refl _) (.cells (mk 16 nx) 28)))
        clear hb iSB
        cases SO with
        | false =>
          clear K17 K19 iN iNE hq
          cases hO : O with
          | false =>
            subst hO
            go_wp2_with (first |  fail)
            go_ret
            exact ⟨rfl, HB.out⟩
          | true =>
            obtain ⟨hE, hnE, q1, q2, q3, hIN⟩ := HTR.out hO
            have HIN := Lib.hid hIN
            have HE := Lib.hid hE
            subst hO
            clear hIN hE
            go_wp2_with (first |  ((with_reducible show wpList _ _ _ (Oper.mk _ (Op.load 28 _) _ _ _ _ :: _) _ _); refine loadB (K3) rfl rfl rfl ?_) | ((with_reducible show wpList _ _ _ (Oper.mk _ (Op.load 28 _) _ _ _ (some _) :: _) _ _); refine loadgB (K3) rfl rfl rfl ?_))
            skip
            refine (HE.out _).mono ?_
            rintro e w30 ⟨g28, c28, rfl, hb⟩
            have HB : Hid (Below w.heap.size w w30) := HB.out.trans (hb.mono HB.out.size)
            have RM : Hid (CRow w30 (.slice (some ⟨gm, 0, none⟩) nM cm) nM hM) := RM.out.below hb
            have RC : Hid (CRow w30 (.slice (some ⟨gc, 0, none⟩) nC cc) nC hC) := RC.out.below hb
            clear hb
            have w16 : IntKind.i64.wrap (16 - (nE : Int)) = 16 - (nE : Int) := IntWalk.i64_in _ (by omega)
            have wC : IntKind.i64.wrap (16 - (nE : Int) + (nC : Int)) = 16 - (nE : Int) + (nC : Int) := IntWalk.i64_in _ (by have := HNC.out; omega)
            have wM : IntKind.i64.wrap (16 - (nE : Int) + (nM : Int)) = 16 - (nE : Int) + (nM : Int) := IntWalk.i64_in _ (by have := HNM.out; omega)
            have p1 : ¬ (N < 16 - (nE : Int)) := by omega
            have p2 : ¬ (16 - (nE : Int) + (nC : Int) < N) := by omega
            have p3 : ¬ (N < 16 - (nE : Int) + (nM : Int)) := by omega
            obtain ⟨_, _, e1, _, CM⟩ := RM.out
            cases e1
            obtain ⟨_, _, e1, _, CC⟩ := RC.out
            cases e1
            clear K3 RM RC q1 q2 q3
            go_wp2_with fail
            clear w16 wC wM p1 p2 p3
            go_loopg [30] nM (fun gi s30 wr => ∃ i : Nat, i + gi = nM ∧ s30 = .int .i64 i ∧ CAt wr gm (nM * 2) hM ∧ CAt wr gc (nC * 2) hC ∧ Hid (Below w.heap.size w wr))
            case atStart => exact ⟨0, by omega, rfl, CM, CC, HB⟩
            case round =>
              clear CM CC HB
              obtain ⟨i, hig, rfl, CM, CC, HB⟩ := hrel
              cases gk with
              | zero =>
                have hi : ¬ ((i : Int) < (nM : Int)) := by omega
                obtain rfl : i = nM := by omega
                go_wp2_with fail
                go_ret
                exact ⟨rfl, HB.out⟩
              | succ q1 =>
                have hi : (i : Int) < (nM : Int) := by omega
                have hi0 : (0 : Int) ≤ (i : Int) := by omega
                have hi9 : i < nM := by omega
                obtain ⟨j0, hj0, hjc⟩ := HIN.out i hi9
                have HI := Lib.hid (inC_has (m := fun c => hM (i * 2 + c)) hj0 hjc)
                have HIS := Lib.hid (fun k => inC_step hC (fun c => hM (i * 2 + c)) k)
                have HI0 : Hid (inC hC (fun c => hM (i * 2 + c)) 0 = false) := rfl
                have hnm := HNM.out
                clear hjc
                go_wp2_with fail
                go_loopg [31, 32] nC (fun gk s31 s32 wx => ∃ k : Nat, k + gk = nC ∧ s32 = .int .i64 k ∧ s31 = .bool (inC hC (fun c => hM (i * 2 + c)) k) ∧ CAt wx gm (nM * 2) hM ∧ CAt wx gc (nC * 2) hC ∧ Hid (Below w.heap.size w wx))
                case atStart => exact ⟨0, by omega, rfl, rfl, CM, CC, HB⟩
                case round =>
                  clear CM CC HB
                  obtain ⟨k, hkg, rfl, rfl, CM, CC, HB⟩ := hrel
                  cases gk with
                  | zero =>
                    have hk : ¬ ((k : Int) < (nC : Int)) := by omega
                    obtain rfl : k = nC := by omega
                    rw [HI.out]
                    go_wp2_with fail
                    go_roundg q1
                    case rel => exact ⟨i + 1, by omega, by go_num, CM, CC, HB⟩
                    case measure => omega
                  | succ q2 =>
                    have hk : (k : Int) < (nC : Int) := by omega
                    have hk0 : (0 : Int) ≤ (k : Int) := by omega
                    have hnc := HNC.out
                    have HS := Lib.hid (HIS.out k)
                    have iE : ∀ (w : World), (Op.equalIn 10000 63 (.agg (mk 2 fun j => hC (k * 2 + j))) (.agg (mk 2 fun j => hM (i * 2 + j)))).run Try.prog w = .ok (sameC (fun j => hC (k * 2 + j)) (fun j => hM (i * 2 + j))) w := fun w => eqC2 9998 _ _ w
                    generalize sameC (fun c => hC (k * 2 + c)) (fun c => hM (i * 2 + c)) = sm at *
                    cases hI : inC hC (fun c => hM (i * 2 + c)) k with
                    | true =>
                      have HS2 : Hid (inC hC (fun c => hM (i * 2 + c)) (k + 1) = true) := by show _ = _; rw [HS.out, hI]; rfl
                      clear hI
                      go_wp2_with fail
                      refine wp_region_held_drew (S := fun W => CAt W gc (nC * 2) hC ∧ CAt W gm (nM * 2) hM) (by kernel_rfl) (⟨CC.drew, CM.drew⟩) (fun hHeld => ?_)
                      refine wpAnyH_take (i := 0) (oi := { dst := some 214, op := _, type := _, pos := _, after := _, guard := _ }) (v := .bool true) rfl (by kernel_rfl) (by kernel_rfl) (by kernel_rfl) (fun _ _ _ h => h) (Or.inl ⟨by rfl, by intro w hSw; clear hSw; go_simp; (try with_reducible rfl)⟩) (by assumption) ?_
                      try simp only [Act.put, List.setIfInBounds_toArray, List.set_cons_zero, List.set_cons_succ]
                      refine wpAnyH_take (i := 1) (oi := { dst := some 215, op := _, type := _, pos := _, after := _, guard := _ }) (v := .bool true) rfl (by kernel_rfl) (by kernel_rfl) (by kernel_rfl) (fun _ _ _ h => h) (Or.inl ⟨by rfl, by intro w hSw; clear hSw; go_simp; (try with_reducible rfl)⟩) (by assumption) ?_
                      try simp only [Act.put, List.setIfInBounds_toArray, List.set_cons_zero, List.set_cons_succ]
                      refine wpAnyH_take (i := 2) (oi := { dst := some 216, op := _, type := _, pos := _, after := _, guard := _ }) (v := undef) rfl (by kernel_rfl) (by kernel_rfl) (by kernel_rfl) (fun _ _ _ h => h) (Or.inr ⟨by rfl, rfl⟩) (by assumption) ?_
                      try simp only [Act.put, List.setIfInBounds_toArray, List.set_cons_zero, List.set_cons_succ]
                      refine wpAnyH_take (i := 3) (oi := { dst := some 217, op := _, type := _, pos := _, after := _, guard := _ }) (v := undef) rfl (by kernel_rfl) (by kernel_rfl) (by kernel_rfl) (fun _ _ _ h => h) (Or.inr ⟨by rfl, rfl⟩) (by assumption) ?_
                      try simp only [Act.put, List.setIfInBounds_toArray, List.set_cons_zero, List.set_cons_succ]
                      refine wpAnyH_take (i := 4) (oi := { dst := some 218, op := _, type := _, pos := _, after := _, guard := _ }) (v := undef) rfl (by kernel_rfl) (by kernel_rfl) (by kernel_rfl) (fun _ _ _ h => h) (Or.inr ⟨by rfl, rfl⟩) (by assumption) ?_
                      try simp only [Act.put, List.setIfInBounds_toArray, List.set_cons_zero, List.set_cons_succ]
                      refine wpAnyH_take (i := 5) (oi := { dst := some 219, op := _, type := _, pos := _, after := _, guard := _ }) (v := undef) rfl (by kernel_rfl) (by kernel_rfl) (by kernel_rfl) (fun _ _ _ h => h) (Or.inr ⟨by rfl, rfl⟩) (by assumption) ?_
                      try simp only [Act.put, List.setIfInBounds_toArray, List.set_cons_zero, List.set_cons_succ]
                      refine wpAnyH_take (i := 6) (oi := { dst := some 220, op := _, type := _, pos := _, after := _, guard := _ }) (v := undef) rfl (by kernel_rfl) (by kernel_rfl) (by kernel_rfl) (fun _ _ _ h => h) (Or.inr ⟨by rfl, rfl⟩) (by assumption) ?_
                      try simp only [Act.put, List.setIfInBounds_toArray, List.set_cons_zero, List.set_cons_succ]
                      refine wpAnyH_take (i := 7) (oi := { dst := some 221, op := _, type := _, pos := _, after := _, guard := _ }) (v := undef) rfl (by kernel_rfl) (by kernel_rfl) (by kernel_rfl) (fun _ _ _ h => h) (Or.inr ⟨by rfl, rfl⟩) (by assumption) ?_
                      try simp only [Act.put, List.setIfInBounds_toArray, List.set_cons_zero, List.set_cons_succ]
                      refine wpAnyH_take (i := 8) (oi := { dst := some 222, op := _, type := _, pos := _, after := _, guard := _ }) (v := undef) rfl (by kernel_rfl) (by kernel_rfl) (by kernel_rfl) (fun _ _ _ h => h) (Or.inr ⟨by rfl, rfl⟩) (by assumption) ?_
                      try simp only [Act.put, List.setIfInBounds_toArray, List.set_cons_zero, List.set_cons_succ]
                      refine wpAnyH_take (i := 9) (oi := { dst := some 223, op := _, type := _, pos := _, after := _, guard := _ }) (v := undef) rfl (by kernel_rfl) (by kernel_rfl) (by kernel_rfl) (fun _ _ _ h => h) (Or.inr ⟨by rfl, rfl⟩) (by assumption) ?_
                      try simp only [Act.put, List.setIfInBounds_toArray, List.set_cons_zero, List.set_cons_succ]
                      refine wpAnyH_take (i := 10) (oi := { dst := some 224, op := _, type := _, pos := _, after := _, guard := _ }) (v := undef) rfl (by kernel_rfl) (by kernel_rfl) (by kernel_rfl) (fun _ _ _ h => h) (Or.inr ⟨by rfl, rfl⟩) (by assumption) ?_
                      try simp only [Act.put, List.setIfInBounds_toArray, List.set_cons_zero, List.set_cons_succ]
                      refine wpAnyH_take (i := 11) (oi := { dst := some 225, op := _, type := _, pos := _, after := _, guard := _ }) (v := .bool true) rfl (by kernel_rfl) (by kernel_rfl) (by kernel_rfl) (fun _ _ _ h => h) (Or.inl ⟨by rfl, by intro w hSw; clear hSw; go_simp; (try with_reducible rfl)⟩) (by assumption) ?_
                      try simp only [Act.put, List.setIfInBounds_toArray, List.set_cons_zero, List.set_cons_succ]
                      refine wpAnyH_take (i := 12) (oi := { dst := some 31, op := _, type := _, pos := _, after := _, guard := _ }) (v := .bool true) rfl (by kernel_rfl) (by kernel_rfl) (by kernel_rfl) (fun _ _ _ h => h) (Or.inl ⟨by rfl, by intro w hSw; clear hSw; go_simp; (try with_reducible rfl)⟩) (by assumption) ?_
                      try simp only [Act.put, List.setIfInBounds_toArray, List.set_cons_zero, List.set_cons_succ]
                      refine wpAnyH_done (by kernel_rfl) ?_ _
                      clear hHeld
                      go_wp2_with fail
                      go_roundg q2
                      case rel => exact ⟨k + 1, by omega, by go_num, by rw [HS2.out], CM.drew, CC.drew, HB.out.drew⟩
                      case measure => omega
                    | false =>
                      have HS2 : Hid (inC hC (fun c => hM (i * 2 + c)) (k + 1) = sm) := by show _ = _; rw [HS.out, hI]; rfl
                      clear hI
                      go_wp2_with fail
                      refine wp_region_held_drew (S := fun W => CAt W gc (nC * 2) hC ∧ CAt W gm (nM * 2) hM) (by kernel_rfl) (⟨CC.drew, CM.drew⟩) (fun hHeld => ?_)
                      refine wpAnyH_take (i := 0) (oi := { dst := some 214, op := _, type := _, pos := _, after := _, guard := _ }) (v := .bool false) rfl (by kernel_rfl) (by kernel_rfl) (by kernel_rfl) (fun _ _ _ h => h) (Or.inl ⟨by rfl, by intro w hSw; clear hSw; go_simp; (try with_reducible rfl)⟩) (by assumption) ?_
                      try simp only [Act.put, List.setIfInBounds_toArray, List.set_cons_zero, List.set_cons_succ]
                      refine wpAnyH_take (i := 1) (oi := { dst := some 215, op := _, type := _, pos := _, after := _, guard := _ }) (v := .bool false) rfl (by kernel_rfl) (by kernel_rfl) (by kernel_rfl) (fun _ _ _ h => h) (Or.inl ⟨by rfl, by intro w hSw; clear hSw; go_simp; (try with_reducible rfl)⟩) (by assumption) ?_
                      try simp only [Act.put, List.setIfInBounds_toArray, List.set_cons_zero, List.set_cons_succ]
                      refine wpAnyH_take (i := 2) (oi := { dst := some 216, op := _, type := _, pos := _, after := _, guard := _ }) (v := .slice (some ⟨gc, 0, none⟩) nC cc) rfl (by kernel_rfl) (by kernel_rfl) (by kernel_rfl) (fun _ _ _ h => h) (Or.inl ⟨by rfl, by intro w hSw; clear hSw; go_simp; (try with_reducible rfl)⟩) (by assumption) ?_
                      try simp only [Act.put, List.setIfInBounds_toArray, List.set_cons_zero, List.set_cons_succ]
                      refine wpAnyH_take (i := 3) (oi := { dst := some 217, op := _, type := _, pos := _, after := _, guard := _ }) (v := .int .i64 (k : Int)) rfl (by kernel_rfl) (by kernel_rfl) (by kernel_rfl) (fun _ _ _ h => h) (Or.inl ⟨by rfl, by intro w hSw; clear hSw; go_simp; (try with_reducible rfl)⟩) (by assumption) ?_
                      try simp only [Act.put, List.setIfInBounds_toArray, List.set_cons_zero, List.set_cons_succ]
                      refine wpAnyH_take (i := 4) (oi := { dst := some 218, op := _, type := _, pos := _, after := _, guard := _ }) (v := .pointer (some ⟨gc, k * 2, none⟩)) rfl (by kernel_rfl) (by kernel_rfl) (by kernel_rfl) (fun _ _ _ h => h) (Or.inl ⟨by rfl, by intro w hSw; clear hSw; go_simp; (try with_reducible rfl)⟩) (by assumption) ?_
                      try simp only [Act.put, List.setIfInBounds_toArray, List.set_cons_zero, List.set_cons_succ]
                      refine wpAnyH_take (i := 5) (oi := { dst := some 219, op := _, type := _, pos := _, after := _, guard := _ }) (v := .agg (mk 2 fun j => hC (k * 2 + j))) rfl (by kernel_rfl) (by kernel_rfl) (by kernel_rfl) (fun _ _ _ h => h) (Or.inl ⟨by rfl, fun _ p => execAC p.1 (by omega) rfl rfl⟩) (by assumption) ?_
                      try simp only [Act.put, List.setIfInBounds_toArray, List.set_cons_zero, List.set_cons_succ]
                      refine wpAnyH_take (i := 6) (oi := { dst := some 220, op := _, type := _, pos := _, after := _, guard := _ }) (v := .slice (some ⟨gm, 0, none⟩) nM cm) rfl (by kernel_rfl) (by kernel_rfl) (by kernel_rfl) (fun _ _ _ h => h) (Or.inl ⟨by rfl, by intro w hSw; clear hSw; go_simp; (try with_reducible rfl)⟩) (by assumption) ?_
                      try simp only [Act.put, List.setIfInBounds_toArray, List.set_cons_zero, List.set_cons_succ]
                      refine wpAnyH_take (i := 7) (oi := { dst := some 221, op := _, type := _, pos := _, after := _, guard := _ }) (v := .int .i64 (i : Int)) rfl (by kernel_rfl) (by kernel_rfl) (by kernel_rfl) (fun _ _ _ h => h) (Or.inl ⟨by rfl, by intro w hSw; clear hSw; go_simp; (try with_reducible rfl)⟩) (by assumption) ?_
                      try simp only [Act.put, List.setIfInBounds_toArray, List.set_cons_zero, List.set_cons_succ]
                      refine wpAnyH_take (i := 8) (oi := { dst := some 222, op := _, type := _, pos := _, after := _, guard := _ }) (v := .pointer (some ⟨gm, i * 2, none⟩)) rfl (by kernel_rfl) (by kernel_rfl) (by kernel_rfl) (fun _ _ _ h => h) (Or.inl ⟨by rfl, by intro w hSw; clear hSw; go_simp; (try with_reducible rfl)⟩) (by assumption) ?_
                      try simp only [Act.put, List.setIfInBounds_toArray, List.set_cons_zero, List.set_cons_succ]
                      refine wpAnyH_take (i := 9) (oi := { dst := some 223, op := _, type := _, pos := _, after := _, guard := _ }) (v := .agg (mk 2 fun j => hM (i * 2 + j))) rfl (by kernel_rfl) (by kernel_rfl) (by kernel_rfl) (fun _ _ _ h => h) (Or.inl ⟨by rfl, fun _ p => execAC p.2 (by omega) rfl rfl⟩) (by assumption) ?_
                      try simp only [Act.put, List.setIfInBounds_toArray, List.set_cons_zero, List.set_cons_succ]
                      refine wpAnyH_take (i := 10) (oi := { dst := some 224, op := _, type := _, pos := _, after := _, guard := _ }) (v := .bool sm) rfl (by kernel_rfl) (by kernel_rfl) (by kernel_rfl) (fun _ _ _ h => h) (Or.inl ⟨by rfl, by intro W hSw; clear hSw; have iE2 := iE W; go_simp⟩) (by assumption) ?_
                      try simp only [Act.put, List.setIfInBounds_toArray, List.set_cons_zero, List.set_cons_succ]
                      refine wpAnyH_take (i := 11) (oi := { dst := some 225, op := _, type := _, pos := _, after := _, guard := _ }) (v := .bool sm) rfl (by kernel_rfl) (by kernel_rfl) (by kernel_rfl) (fun _ _ _ h => h) (Or.inl ⟨by rfl, by intro w hSw; clear hSw; go_simp; (try with_reducible rfl)⟩) (by assumption) ?_
                      try simp only [Act.put, List.setIfInBounds_toArray, List.set_cons_zero, List.set_cons_succ]
                      refine wpAnyH_take (i := 12) (oi := { dst := some 31, op := _, type := _, pos := _, after := _, guard := _ }) (v := .bool sm) rfl (by kernel_rfl) (by kernel_rfl) (by kernel_rfl) (fun _ _ _ h => h) (Or.inl ⟨by rfl, by intro w hSw; clear hSw; go_simp; (try with_reducible rfl)⟩) (by assumption) ?_
                      try simp only [Act.put, List.setIfInBounds_toArray, List.set_cons_zero, List.set_cons_succ]
                      refine wpAnyH_done (by kernel_rfl) ?_ _
                      clear hHeld
                      go_wp2_with fail
                      go_roundg q2
                      case rel => exact ⟨k + 1, by omega, by go_num, by rw [HS2.out], CM.drew, CC.drew, HB.out.drew⟩
                      case measure => omega
        | true =>
          have hsm : sameB nx c = true := by simpa using hq
          clear hq
          cases hO : O with
          | false =>
            subst hO
            go_wp2_with (first | ((with_reducible show wpList _ _ _ (Oper.mk _ (Op.load 28 _) _ _ _ _ :: _) _ _); refine loadB (K19) rfl rfl rfl ?_) | ((with_reducible show wpList _ _ _ (Oper.mk _ (Op.load 28 _) _ _ _ (some _) :: _) _ _); refine loadgB (K19) rfl rfl rfl ?_) | ((with_reducible show wpList _ _ _ (Oper.mk _ (Op.load 28 _) _ _ _ _ :: _) _ _); refine loadB (K17) rfl rfl rfl ?_) | ((with_reducible show wpList _ _ _ (Oper.mk _ (Op.load 28 _) _ _ _ (some _) :: _) _ _); refine loadgB (K17) rfl rfl rfl ?_) | fail)
            go_ret
            exact ⟨rfl, HB.out⟩
          | true =>
            obtain ⟨hE, hnE, q1, q2, q3, hIN⟩ := HTR.out hO
            have HIN := Lib.hid hIN
            have HE := Lib.hid hE
            subst hO
            clear hIN hE
            go_wp2_with (first | ((with_reducible show wpList _ _ _ (Oper.mk _ (Op.load 28 _) _ _ _ _ :: _) _ _); refine loadB (K19) rfl rfl rfl ?_) | ((with_reducible show wpList _ _ _ (Oper.mk _ (Op.load 28 _) _ _ _ (some _) :: _) _ _); refine loadgB (K19) rfl rfl rfl ?_) | ((with_reducible show wpList _ _ _ (Oper.mk _ (Op.load 28 _) _ _ _ _ :: _) _ _); refine loadB (K17) rfl rfl rfl ?_) | ((with_reducible show wpList _ _ _ (Oper.mk _ (Op.load 28 _) _ _ _ (some _) :: _) _ _); refine loadgB (K17) rfl rfl rfl ?_) | ((with_reducible show wpList _ _ _ (Oper.mk _ (Op.load 28 _) _ _ _ _ :: _) _ _); refine loadB (K3) rfl rfl rfl ?_) | ((with_reducible show wpList _ _ _ (Oper.mk _ (Op.load 28 _) _ _ _ (some _) :: _) _ _); refine loadgB (K3) rfl rfl rfl ?_))
            clear K17 K19 iN iNE hsm
            refine (HE.out _).mono ?_
            rintro e w30 ⟨g28, c28, rfl, hb⟩
            have HB : Hid (Below w.heap.size w w30) := HB.out.trans (hb.mono HB.out.size)
            have RM : Hid (CRow w30 (.slice (some ⟨gm, 0, none⟩) nM cm) nM hM) := RM.out.below hb
            have RC : Hid (CRow w30 (.slice (some ⟨gc, 0, none⟩) nC cc) nC hC) := RC.out.below hb
            clear hb
            have w16 : IntKind.i64.wrap (16 - (nE : Int)) = 16 - (nE : Int) := IntWalk.i64_in _ (by omega)
            have wC : IntKind.i64.wrap (16 - (nE : Int) + (nC : Int)) = 16 - (nE : Int) + (nC : Int) := IntWalk.i64_in _ (by have := HNC.out; omega)
            have wM : IntKind.i64.wrap (16 - (nE : Int) + (nM : Int)) = 16 - (nE : Int) + (nM : Int) := IntWalk.i64_in _ (by have := HNM.out; omega)
            have p1 : ¬ (N < 16 - (nE : Int)) := by omega
            have p2 : ¬ (16 - (nE : Int) + (nC : Int) < N) := by omega
            have p3 : ¬ (N < 16 - (nE : Int) + (nM : Int)) := by omega
            obtain ⟨_, _, e1, _, CM⟩ := RM.out
            cases e1
            obtain ⟨_, _, e1, _, CC⟩ := RC.out
            cases e1
            clear K3 RM RC q1 q2 q3
            go_wp2_with fail
            clear w16 wC wM p1 p2 p3
            go_loopg [30] nM (fun gi s30 wr => ∃ i : Nat, i + gi = nM ∧ s30 = .int .i64 i ∧ CAt wr gm (nM * 2) hM ∧ CAt wr gc (nC * 2) hC ∧ Hid (Below w.heap.size w wr))
            case atStart => exact ⟨0, by omega, rfl, CM, CC, HB⟩
            case round =>
              clear CM CC HB
              obtain ⟨i, hig, rfl, CM, CC, HB⟩ := hrel
              cases gk with
              | zero =>
                have hi : ¬ ((i : Int) < (nM : Int)) := by omega
                obtain rfl : i = nM := by omega
                go_wp2_with fail
                go_ret
                exact ⟨rfl, HB.out⟩
              | succ q1 =>
                have hi : (i : Int) < (nM : Int) := by omega
                have hi0 : (0 : Int) ≤ (i : Int) := by omega
                have hi9 : i < nM := by omega
                obtain ⟨j0, hj0, hjc⟩ := HIN.out i hi9
                have HI := Lib.hid (inC_has (m := fun c => hM (i * 2 + c)) hj0 hjc)
                have HIS := Lib.hid (fun k => inC_step hC (fun c => hM (i * 2 + c)) k)
                have HI0 : Hid (inC hC (fun c => hM (i * 2 + c)) 0 = false) := rfl
                have hnm := HNM.out
                clear hjc
                go_wp2_with fail
                go_loopg [31, 32] nC (fun gk s31 s32 wx => ∃ k : Nat, k + gk = nC ∧ s32 = .int .i64 k ∧ s31 = .bool (inC hC (fun c => hM (i * 2 + c)) k) ∧ CAt wx gm (nM * 2) hM ∧ CAt wx gc (nC * 2) hC ∧ Hid (Below w.heap.size w wx))
                case atStart => exact ⟨0, by omega, rfl, rfl, CM, CC, HB⟩
                case round =>
                  clear CM CC HB
                  obtain ⟨k, hkg, rfl, rfl, CM, CC, HB⟩ := hrel
                  cases gk with
                  | zero =>
                    have hk : ¬ ((k : Int) < (nC : Int)) := by omega
                    obtain rfl : k = nC := by omega
                    rw [HI.out]
                    go_wp2_with fail
                    go_roundg q1
                    case rel => exact ⟨i + 1, by omega, by go_num, CM, CC, HB⟩
                    case measure => omega
                  | succ q2 =>
                    have hk : (k : Int) < (nC : Int) := by omega
                    have hk0 : (0 : Int) ≤ (k : Int) := by omega
                    have hnc := HNC.out
                    have HS := Lib.hid (HIS.out k)
                    have iE : ∀ (w : World), (Op.equalIn 10000 63 (.agg (mk 2 fun j => hC (k * 2 + j))) (.agg (mk 2 fun j => hM (i * 2 + j)))).run Try.prog w = .ok (sameC (fun j => hC (k * 2 + j)) (fun j => hM (i * 2 + j))) w := fun w => eqC2 9998 _ _ w
                    generalize sameC (fun c => hC (k * 2 + c)) (fun c => hM (i * 2 + c)) = sm at *
                    cases hI : inC hC (fun c => hM (i * 2 + c)) k with
                    | true =>
                      have HS2 : Hid (inC hC (fun c => hM (i * 2 + c)) (k + 1) = true) := by show _ = _; rw [HS.out, hI]; rfl
                      clear hI
                      go_wp2_with fail
                      refine wp_region_held_drew (S := fun W => CAt W gc (nC * 2) hC ∧ CAt W gm (nM * 2) hM) (by kernel_rfl) (⟨CC.drew, CM.drew⟩) (fun hHeld => ?_)
                      refine wpAnyH_take (i := 0) (oi := { dst := some 214, op := _, type := _, pos := _, after := _, guard := _ }) (v := .bool true) rfl (by kernel_rfl) (by kernel_rfl) (by kernel_rfl) (fun _ _ _ h => h) (Or.inl ⟨by rfl, by intro w hSw; clear hSw; go_simp; (try with_reducible rfl)⟩) (by assumption) ?_
                      try simp only [Act.put, List.setIfInBounds_toArray, List.set_cons_zero, List.set_cons_succ]
                      refine wpAnyH_take (i := 1) (oi := { dst := some 215, op := _, type := _, pos := _, after := _, guard := _ }) (v := .bool true) rfl (by kernel_rfl) (by kernel_rfl) (by kernel_rfl) (fun _ _ _ h => h) (Or.inl ⟨by rfl, by intro w hSw; clear hSw; go_simp; (try with_reducible rfl)⟩) (by assumption) ?_
                      try simp only [Act.put, List.setIfInBounds_toArray, List.set_cons_zero, List.set_cons_succ]
                      refine wpAnyH_take (i := 2) (oi := { dst := some 216, op := _, type := _, pos := _, after := _, guard := _ }) (v := undef) rfl (by kernel_rfl) (by kernel_rfl) (by kernel_rfl) (fun _ _ _ h => h) (Or.inr ⟨by rfl, rfl⟩) (by assumption) ?_
                      try simp only [Act.put, List.setIfInBounds_toArray, List.set_cons_zero, List.set_cons_succ]
                      refine wpAnyH_take (i := 3) (oi := { dst := some 217, op := _, type := _, pos := _, after := _, guard := _ }) (v := undef) rfl (by kernel_rfl) (by kernel_rfl) (by kernel_rfl) (fun _ _ _ h => h) (Or.inr ⟨by rfl, rfl⟩) (by assumption) ?_
                      try simp only [Act.put, List.setIfInBounds_toArray, List.set_cons_zero, List.set_cons_succ]
                      refine wpAnyH_take (i := 4) (oi := { dst := some 218, op := _, type := _, pos := _, after := _, guard := _ }) (v := undef) rfl (by kernel_rfl) (by kernel_rfl) (by kernel_rfl) (fun _ _ _ h => h) (Or.inr ⟨by rfl, rfl⟩) (by assumption) ?_
                      try simp only [Act.put, List.setIfInBounds_toArray, List.set_cons_zero, List.set_cons_succ]
                      refine wpAnyH_take (i := 5) (oi := { dst := some 219, op := _, type := _, pos := _, after := _, guard := _ }) (v := undef) rfl (by kernel_rfl) (by kernel_rfl) (by kernel_rfl) (fun _ _ _ h => h) (Or.inr ⟨by rfl, rfl⟩) (by assumption) ?_
                      try simp only [Act.put, List.setIfInBounds_toArray, List.set_cons_zero, List.set_cons_succ]
                      refine wpAnyH_take (i := 6) (oi := { dst := some 220, op := _, type := _, pos := _, after := _, guard := _ }) (v := undef) rfl (by kernel_rfl) (by kernel_rfl) (by kernel_rfl) (fun _ _ _ h => h) (Or.inr ⟨by rfl, rfl⟩) (by assumption) ?_
                      try simp only [Act.put, List.setIfInBounds_toArray, List.set_cons_zero, List.set_cons_succ]
                      refine wpAnyH_take (i := 7) (oi := { dst := some 221, op := _, type := _, pos := _, after := _, guard := _ }) (v := undef) rfl (by kernel_rfl) (by kernel_rfl) (by kernel_rfl) (fun _ _ _ h => h) (Or.inr ⟨by rfl, rfl⟩) (by assumption) ?_
                      try simp only [Act.put, List.setIfInBounds_toArray, List.set_cons_zero, List.set_cons_succ]
                      refine wpAnyH_take (i := 8) (oi := { dst := some 222, op := _, type := _, pos := _, after := _, guard := _ }) (v := undef) rfl (by kernel_rfl) (by kernel_rfl) (by kernel_rfl) (fun _ _ _ h => h) (Or.inr ⟨by rfl, rfl⟩) (by assumption) ?_
                      try simp only [Act.put, List.setIfInBounds_toArray, List.set_cons_zero, List.set_cons_succ]
                      refine wpAnyH_take (i := 9) (oi := { dst := some 223, op := _, type := _, pos := _, after := _, guard := _ }) (v := undef) rfl (by kernel_rfl) (by kernel_rfl) (by kernel_rfl) (fun _ _ _ h => h) (Or.inr ⟨by rfl, rfl⟩) (by assumption) ?_
                      try simp only [Act.put, List.setIfInBounds_toArray, List.set_cons_zero, List.set_cons_succ]
                      refine wpAnyH_take (i := 10) (oi := { dst := some 224, op := _, type := _, pos := _, after := _, guard := _ }) (v := undef) rfl (by kernel_rfl) (by kernel_rfl) (by kernel_rfl) (fun _ _ _ h => h) (Or.inr ⟨by rfl, rfl⟩) (by assumption) ?_
                      try simp only [Act.put, List.setIfInBounds_toArray, List.set_cons_zero, List.set_cons_succ]
                      refine wpAnyH_take (i := 11) (oi := { dst := some 225, op := _, type := _, pos := _, after := _, guard := _ }) (v := .bool true) rfl (by kernel_rfl) (by kernel_rfl) (by kernel_rfl) (fun _ _ _ h => h) (Or.inl ⟨by rfl, by intro w hSw; clear hSw; go_simp; (try with_reducible rfl)⟩) (by assumption) ?_
                      try simp only [Act.put, List.setIfInBounds_toArray, List.set_cons_zero, List.set_cons_succ]
                      refine wpAnyH_take (i := 12) (oi := { dst := some 31, op := _, type := _, pos := _, after := _, guard := _ }) (v := .bool true) rfl (by kernel_rfl) (by kernel_rfl) (by kernel_rfl) (fun _ _ _ h => h) (Or.inl ⟨by rfl, by intro w hSw; clear hSw; go_simp; (try with_reducible rfl)⟩) (by assumption) ?_
                      try simp only [Act.put, List.setIfInBounds_toArray, List.set_cons_zero, List.set_cons_succ]
                      refine wpAnyH_done (by kernel_rfl) ?_ _
                      clear hHeld
                      go_wp2_with fail
                      go_roundg q2
                      case rel => exact ⟨k + 1, by omega, by go_num, by rw [HS2.out], CM.drew, CC.drew, HB.out.drew⟩
                      case measure => omega
                    | false =>
                      have HS2 : Hid (inC hC (fun c => hM (i * 2 + c)) (k + 1) = sm) := by show _ = _; rw [HS.out, hI]; rfl
                      clear hI
                      go_wp2_with fail
                      refine wp_region_held_drew (S := fun W => CAt W gc (nC * 2) hC ∧ CAt W gm (nM * 2) hM) (by kernel_rfl) (⟨CC.drew, CM.drew⟩) (fun hHeld => ?_)
                      refine wpAnyH_take (i := 0) (oi := { dst := some 214, op := _, type := _, pos := _, after := _, guard := _ }) (v := .bool false) rfl (by kernel_rfl) (by kernel_rfl) (by kernel_rfl) (fun _ _ _ h => h) (Or.inl ⟨by rfl, by intro w hSw; clear hSw; go_simp; (try with_reducible rfl)⟩) (by assumption) ?_
                      try simp only [Act.put, List.setIfInBounds_toArray, List.set_cons_zero, List.set_cons_succ]
                      refine wpAnyH_take (i := 1) (oi := { dst := some 215, op := _, type := _, pos := _, after := _, guard := _ }) (v := .bool false) rfl (by kernel_rfl) (by kernel_rfl) (by kernel_rfl) (fun _ _ _ h => h) (Or.inl ⟨by rfl, by intro w hSw; clear hSw; go_simp; (try with_reducible rfl)⟩) (by assumption) ?_
                      try simp only [Act.put, List.setIfInBounds_toArray, List.set_cons_zero, List.set_cons_succ]
                      refine wpAnyH_take (i := 2) (oi := { dst := some 216, op := _, type := _, pos := _, after := _, guard := _ }) (v := .slice (some ⟨gc, 0, none⟩) nC cc) rfl (by kernel_rfl) (by kernel_rfl) (by kernel_rfl) (fun _ _ _ h => h) (Or.inl ⟨by rfl, by intro w hSw; clear hSw; go_simp; (try with_reducible rfl)⟩) (by assumption) ?_
                      try simp only [Act.put, List.setIfInBounds_toArray, List.set_cons_zero, List.set_cons_succ]
                      refine wpAnyH_take (i := 3) (oi := { dst := some 217, op := _, type := _, pos := _, after := _, guard := _ }) (v := .int .i64 (k : Int)) rfl (by kernel_rfl) (by kernel_rfl) (by kernel_rfl) (fun _ _ _ h => h) (Or.inl ⟨by rfl, by intro w hSw; clear hSw; go_simp; (try with_reducible rfl)⟩) (by assumption) ?_
                      try simp only [Act.put, List.setIfInBounds_toArray, List.set_cons_zero, List.set_cons_succ]
                      refine wpAnyH_take (i := 4) (oi := { dst := some 218, op := _, type := _, pos := _, after := _, guard := _ }) (v := .pointer (some ⟨gc, k * 2, none⟩)) rfl (by kernel_rfl) (by kernel_rfl) (by kernel_rfl) (fun _ _ _ h => h) (Or.inl ⟨by rfl, by intro w hSw; clear hSw; go_simp; (try with_reducible rfl)⟩) (by assumption) ?_
                      try simp only [Act.put, List.setIfInBounds_toArray, List.set_cons_zero, List.set_cons_succ]
                      refine wpAnyH_take (i := 5) (oi := { dst := some 219, op := _, type := _, pos := _, after := _, guard := _ }) (v := .agg (mk 2 fun j => hC (k * 2 + j))) rfl (by kernel_rfl) (by kernel_rfl) (by kernel_rfl) (fun _ _ _ h => h) (Or.inl ⟨by rfl, fun _ p => execAC p.1 (by omega) rfl rfl⟩) (by assumption) ?_
                      try simp only [Act.put, List.setIfInBounds_toArray, List.set_cons_zero, List.set_cons_succ]
                      refine wpAnyH_take (i := 6) (oi := { dst := some 220, op := _, type := _, pos := _, after := _, guard := _ }) (v := .slice (some ⟨gm, 0, none⟩) nM cm) rfl (by kernel_rfl) (by kernel_rfl) (by kernel_rfl) (fun _ _ _ h => h) (Or.inl ⟨by rfl, by intro w hSw; clear hSw; go_simp; (try with_reducible rfl)⟩) (by assumption) ?_
                      try simp only [Act.put, List.setIfInBounds_toArray, List.set_cons_zero, List.set_cons_succ]
                      refine wpAnyH_take (i := 7) (oi := { dst := some 221, op := _, type := _, pos := _, after := _, guard := _ }) (v := .int .i64 (i : Int)) rfl (by kernel_rfl) (by kernel_rfl) (by kernel_rfl) (fun _ _ _ h => h) (Or.inl ⟨by rfl, by intro w hSw; clear hSw; go_simp; (try with_reducible rfl)⟩) (by assumption) ?_
                      try simp only [Act.put, List.setIfInBounds_toArray, List.set_cons_zero, List.set_cons_succ]
                      refine wpAnyH_take (i := 8) (oi := { dst := some 222, op := _, type := _, pos := _, after := _, guard := _ }) (v := .pointer (some ⟨gm, i * 2, none⟩)) rfl (by kernel_rfl) (by kernel_rfl) (by kernel_rfl) (fun _ _ _ h => h) (Or.inl ⟨by rfl, by intro w hSw; clear hSw; go_simp; (try with_reducible rfl)⟩) (by assumption) ?_
                      try simp only [Act.put, List.setIfInBounds_toArray, List.set_cons_zero, List.set_cons_succ]
                      refine wpAnyH_take (i := 9) (oi := { dst := some 223, op := _, type := _, pos := _, after := _, guard := _ }) (v := .agg (mk 2 fun j => hM (i * 2 + j))) rfl (by kernel_rfl) (by kernel_rfl) (by kernel_rfl) (fun _ _ _ h => h) (Or.inl ⟨by rfl, fun _ p => execAC p.2 (by omega) rfl rfl⟩) (by assumption) ?_
                      try simp only [Act.put, List.setIfInBounds_toArray, List.set_cons_zero, List.set_cons_succ]
                      refine wpAnyH_take (i := 10) (oi := { dst := some 224, op := _, type := _, pos := _, after := _, guard := _ }) (v := .bool sm) rfl (by kernel_rfl) (by kernel_rfl) (by kernel_rfl) (fun _ _ _ h => h) (Or.inl ⟨by rfl, by intro W hSw; clear hSw; have iE2 := iE W; go_simp⟩) (by assumption) ?_
                      try simp only [Act.put, List.setIfInBounds_toArray, List.set_cons_zero, List.set_cons_succ]
                      refine wpAnyH_take (i := 11) (oi := { dst := some 225, op := _, type := _, pos := _, after := _, guard := _ }) (v := .bool sm) rfl (by kernel_rfl) (by kernel_rfl) (by kernel_rfl) (fun _ _ _ h => h) (Or.inl ⟨by rfl, by intro w hSw; clear hSw; go_simp; (try with_reducible rfl)⟩) (by assumption) ?_
                      try simp only [Act.put, List.setIfInBounds_toArray, List.set_cons_zero, List.set_cons_succ]
                      refine wpAnyH_take (i := 12) (oi := { dst := some 31, op := _, type := _, pos := _, after := _, guard := _ }) (v := .bool sm) rfl (by kernel_rfl) (by kernel_rfl) (by kernel_rfl) (fun _ _ _ h => h) (Or.inl ⟨by rfl, by intro w hSw; clear hSw; go_simp; (try with_reducible rfl)⟩) (by assumption) ?_
                      try simp only [Act.put, List.setIfInBounds_toArray, List.set_cons_zero, List.set_cons_succ]
                      refine wpAnyH_done (by kernel_rfl) ?_ _
                      clear hHeld
                      go_wp2_with fail
                      go_roundg q2
                      case rel => exact ⟨k + 1, by omega, by go_num, by rw [HS2.out], CM.drew, CC.drew, HB.out.drew⟩
                      case measure => omega
  · have dl : decide ((65536 : Int) < (len0 : Int)) = true := by simp; omega
    go_enter Try.func13, Try.ntmps13
    go_wp2_with fail
    refine (rBig_any a0 len0 cap0 _).mono ?_
    rintro e w' ⟨rfl, rfl⟩
    rw [dl]
    go_wp2_with fail
    go_ret
    exact ⟨rfl, HB.out⟩

noncomputable def laidWorld (os : Os) : World := World.holding Try.prog os ⟨#[], #[], []⟩
theorem laid_met (os : Os) : laidMet Try.prog Rows.fnMergersBackRow.laid ((laidWorld os).forCall (fun _ _ => 0) ⟨#[], #[.slice none 0 0], []⟩).memory := laidMet_of_run' 8 (by kernel_rfl) (by kernel_rfl)
theorem reads (os : Os) {H : Type} (enc : TypeId × Value → H) : ∃ places, DataW.whole enc Try.prog ((laidWorld os).forCall (fun _ _ => 0) ⟨#[], #[.slice none 0 0], []⟩).memory Try.f13.params.toList Rows.fnMergersBackSpec.vars false #[.slice none 0 0].toList 8 = some ([.nil], [], places) :=
  ⟨[], by kernel_rfl⟩
set_option linter.unusedVariables false in
set_option maxRecDepth 100000 in
theorem lifted (os : Os) (started : os.Started) (H : Type) (enc : TypeId × Value → H) (F : Stop.Interp) :
    ReturnsInHanded {} Try.checked os 13 .any ((OpenSpec.ofChange Rows.fnMergersBackSpec).preRow enc Try.prog Try.f13 Rows.fnMergersBackRow.domain false Rows.fnMergersBackRow.laid) (((OpenSpec.ofChange Rows.fnMergersBackSpec).at F).post enc Try.prog Try.f13 false true false false) := by
  obtain ⟨places, hx⟩ := reads os enc
  refine returnsInHanded_of_row (C := Try.checked) (s := (OpenSpec.ofChange Rows.fnMergersBackSpec)) own started (by kernel_rfl) Try.func13
    (witness_row_at (enc := enc) (C := Try.checked) false (laidWorld os) #[.slice none 0 0] rfl (by kernel_rfl) (by kernel_rfl) (by kernel_rfl)
      (OpenSpec.preRow_of_cond 8 hx (by kernel_rfl) (fun k hk => by cases hk) (by kernel_rfl) (laid_met os))) ?_
  intro W base args ds gs before hval0 hW _ hcond hsz hL hsh _
  have hval : ∀ (j : Nat) t v, Try.f13.params[j]? = some t → args[j]? = some v → Value.okWide Try.prog W .any base t v := hval0
  have hW' := hW
  obtain ⟨p, q, hA0, hV, rfl, hfz, hnd⟩ := hW
  have hA : DataW.TrodAll enc Try.prog W 0 (fun _ => true) true Try.f13.params.toList args.toList ds p := hA0
  rw [Try.params13] at hA hval
  obtain ⟨v0, vs0, d0, ds0, p0, q0, hargs, rfl, rfl, h0, r0⟩ := trodAll_cons hA
  obtain ⟨rfl, rfl, rfl⟩ := trodAll_nil r0
  obtain rfl : args = #[v0] := by cases args; simp_all
  obtain ⟨rfl, rfl⟩ := trodVars_none hV
  obtain ⟨a0, len0, cap0, rfl⟩ := okWide_slice Try.underlying57 (hval 0 57 v0 rfl rfl)
  have k0 := h0
  have lt0 : ∀ x ∈ p0, x.block < W.heap.size := by obtain ⟨m, hm⟩ := k0; exact DataW.trod_lt m _ _ _ hm
  obtain ⟨z0, w0⟩ : ∃ zs, IsRow .u8 W a0 len0 cap0 zs := by
    obtain ⟨fuel, hf⟩ := h0
    rcases open_ints Try.underlying57 Try.underlying5 (by kernel_rfl) hf with ⟨hcs, _⟩ | ⟨x, l, c, zs, hcs, _, hl, hm, hz, _, hcell, hwz⟩
    · simp [Value.cells] at hcs; obtain ⟨rfl, rfl, rfl⟩ := hcs; exact ⟨[], .inl ⟨rfl, rfl, rfl, rfl⟩⟩
    · simp [Value.cells] at hcs; obtain ⟨rfl, rfl, rfl⟩ := hcs; exact ⟨zs, .inr ⟨_, rfl, hl, hm, by simpa using hz, hcell, hwz⟩⟩
  clear hA0 hval0
  have hwalk : Calls Try.prog 13 #[.slice a0 len0 cap0] W fun e w' => e = .returned (.bool true) ∧ Below W.heap.size W w' := walk W hsh a0 len0 cap0 z0 w0
  refine hwalk.mono fun e W' ⟨he, bel⟩ => ?_
  subst he
  exact ⟨_, rfl, _, _, _, [], _, [], hW', trodAll_mk1 (shut_bool Try.underlying4 _), (trodAll_cons_mk (Below.trod laidOut (by kernel_rfl) (of_decide_eq_true (by kernel_rfl)) k0 bel lt0) trodAll_mk0), rfl, bel.frame _, fun h => by cases h⟩
theorem closed : joinedFacts Try.pinned.checked.prog 13 Try.f13 ((OpenSpec.ofChange Rows.fnMergersBackSpec)).bare Rows.fnMergersBackRow = true := by
  unfold joinedFacts
  repeat' with_reducible refine and_mk ?_ ?_
  case refine_1.refine_1.refine_1.refine_1.refine_1.refine_1.refine_2 => exact enters
  case refine_1.refine_1.refine_1.refine_1.refine_1.refine_2 => exact (show (Rows.fnMergersBackRow.lifted == Try.prog.liftsFinal) = true by rw [final_no]; rfl)
  case refine_1.refine_1.refine_1.refine_1.refine_2 => exact (show (Try.prog.make == some Rows.fnMergersBackRow.make) = true by rw [make_cut]; rfl)
  case refine_1.refine_1.refine_1.refine_1.refine_1.refine_1.refine_1.refine_1.refine_1.refine_1.refine_1.refine_1.refine_1.refine_1.refine_1.refine_1.refine_1.refine_1.refine_1.refine_1.refine_1.refine_1.refine_1.refine_1.refine_1.refine_1.refine_1.refine_1.refine_1.refine_1.refine_2 => exact laidOut
  case refine_1.refine_1.refine_1.refine_1.refine_1.refine_1.refine_1.refine_1.refine_1.refine_1.refine_1.refine_1.refine_1.refine_1.refine_1.refine_1.refine_1.refine_1.refine_1.refine_1.refine_1.refine_1.refine_1.refine_1.refine_1.refine_1.refine_1.refine_1.refine_1.refine_2 => exact maps_rowed
  case refine_1.refine_1.refine_1.refine_1.refine_1.refine_1.refine_1.refine_2 => exact stops_heard
  all_goals (as_aux_lemma => kernel_rfl)
theorem proved : Rows.FnMergersBackSaid :=
  OpenClaim.holds_of_cond 13 Try.f13 rfl rfl rfl rfl rfl rfl rfl ⟨rfl, rfl, rfl, rfl, rfl⟩ rfl rfl rfl rfl rfl (by kernel_rfl) Try.func13 closed
    (of_decide_eq_true (by kernel_rfl)) (by unfold Func.isWrapper; first | (rw [if_pos (by decide +kernel)]; kernel_rfl) | (rw [if_neg (by decide +kernel)]; exact ⟨rfl, rfl⟩))
    (fun os started H enc _ F => by rw [OpenClaim.pre_eq_preRow]; exact lifted os started H enc F)
#print axioms proved
end Go.Proofs.Ytphkidkkcknnmaa.fnMergersBack
