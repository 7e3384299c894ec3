/-
  Proved: for every code, the law FnSteps returns true, and the code reads as it did. No condition.
-/
import Derived.Test.YtknjmkapabjolaaDrawSteps
import Derived.Test.YtknjmkapabjolaaVSteps
import Derived.Test.YtknjmkapabjolaaStepFacts
import Derived.Test.YtknjmkapabjolaaImplDo
import Derived.Test.YtknjmkapabjolaaImplSteps
import Derived.Test.YtknjmkapabjolaaImplNexts
import Derived.Test.YtknjmkapabjolaaSpecBetween
import Derived.Test.YtknjmkapabjolaaSpecNext
import Derived.Test.YtknjmkapabjolaaImplTake
import Derived.Test.YtknjmkapabjolaaSumOf
import Derived.Test.YtknjmkapabjolaaImplSlideBoard
import Derived.Test.YtknjmkapabjolaaCellsOf
import Derived.Test.YtknjmkapabjolaaDraws
import Derived.Test.YtknjmkapabjolaaVHelp
import Derived.Test.YtknjmkapabjolaaClosed
import Derived.Deep.CutBlock
namespace Go.Proofs.Ytknjmkapabjolaa.fnSteps
open Go.ChangeShapes Go.WideShapes Go.ChangeAt Go.RowKit Plain
attribute [local go_sem] store_new
set_option linter.unusedVariables false
set_option linter.unusedSimpArgs false

theorem isRow_kept {k : IntKind} {w w' : World} {a : Option Addr} {len cap : Nat} {z : List Int} (h : IsRow k w a len cap z) (hb : Below w.heap.size w w') : IsRow k w' a len cap z := by
  rcases h with h | ⟨x, h0, h1, h2, h3, h4, h5⟩
  · exact .inl h
  · refine .inr ⟨x, h0, h1, h2, h3, fun i hi => ?_, h5⟩
    have := h4 i hi
    exact (hb.cell (World.block_lt_of_cell? w _ this)).trans this
theorem fine_all {u s NX : Nat → Int} {SC : Int} (hF : true = doRO u s) (hN : NX = doRB u s) (hS : SC = doRS u s) : ∃ (SU SB D : Int) (SL : Nat → Int),
    (∀ W, Calls Try.prog 45 #[.agg (mk 16 u)] W fun e w' => e = .returned (.tuple #[.int .i64 SU, .bool true]) ∧ Below W.heap.size W w') ∧
    (∀ W, Calls Try.prog 45 #[.agg (mk 16 NX)] W fun e w' => e = .returned (.tuple #[.int .i64 SB, .bool true]) ∧ Below W.heap.size W w') ∧
    (∀ W, Calls Try.prog 46 #[.agg (mk 16 u), .int .i64 (s 0)] W fun e w' => e = .returned (.tuple #[.agg (mk 16 SL), .int .i64 SC, .bool true]) ∧ Below W.heap.size W w') ∧
    (∀ W, Calls Try.prog 47 #[.agg (mk 16 NX), .agg (mk 2 fun i => s (1 + i))] W fun e w' => e = .returned (.tuple #[.agg (mk 16 SL), .int .i64 (s 3), .bool true]) ∧ Below W.heap.size W w') ∧
    IntKind.i64.wrap (SB - SU) = D ∧ IntKind.i64.wrap (2 * s 3) = D ∧ sameB SL u = false := by
  subst hN hS
  obtain ⟨hV, s1, s2, hV2, e1, b1, b2, t1, t2, k1, k2, k3, hm⟩ := do_facts hF.symm
  refine ⟨sumR u, sumR (doRB u s), 2 * s 3, slideRB u (s 0), fun W => ?_, fun W => ?_, fun W => ?_, fun W => ?_, ?_, ?_, hm⟩
  · have h := implSum_any u W; rw [vdO_yes hV] at h; exact h
  · have h := implSum_any (doRB u s) W; rw [vdO_yes hV2] at h; exact h
  · have h := implSlide_any u (s 0) W; rw [s1, s2] at h; exact h
  · have h := implTake_any (doRB u s) (cellS s) W; rw [k1, k3, mk_congr k2] at h; exact h
  · have e : sumR (doRB u s) - sumR u = 2 * s 3 := by omega
    rw [e]; exact IntWalk.i64_in _ (by omega)
  · exact IntWalk.i64_in _ (by omega)
theorem tail_all {f : Nat → Int} {d MA : Int} {N : Nat} (h : true = slideRO f d) (hN : N = (stpR f d).length) (hM : MA = cnxR f) : ∃ (SL : Nat → Int) (SS : Int) (E : Nat),
    (∀ W, Calls Try.prog 46 #[.agg (mk 16 f), .int .i64 d] W fun e w' => e = .returned (.tuple #[.agg (mk 16 SL), .int .i64 SS, .bool true]) ∧ Below W.heap.size W w') ∧
    (∀ W, Calls Try.prog 48 #[.agg (mk 16 SL)] W fun e w' => ∃ g c, e = .returned (.tuple #[.slice (some ⟨g, 0, none⟩) E c, .bool true]) ∧ Below W.heap.size W w') ∧
    E ≤ 16 ∧ (N : Int) ≤ MA ∧ (sameB SL f = true → N = 0) ∧ (sameB SL f = false → N = 2 * E) := by
  subst hN hM
  obtain ⟨v1, v2, hle, q1, q2⟩ := steps_facts h.symm
  refine ⟨slideRB f d, slideRS f d, empN (slideRB f d) 16, fun W => ?_, fun W => ?_, empN_le _ _, hle, q1, q2⟩
  · have q := implSlide_any f d W; rw [← h] at q; exact q
  · have q := implCells_any (slideRB f d) W
    have hV : Vd (slideRB f d) := of_decide_eq_true v2
    rw [v2, (all_of_cells hV).1] at q
    exact q.mono fun e w' ⟨g, c, h1, _, h3⟩ => ⟨g, c, h1, h3⟩
theorem betw_all (x y : Nat → Int) (k : Nat) (hk : k < (btR x y).length) (W : World) :
    Calls Try.prog 16 #[.agg (mk 16 x), .agg (mk 4 fun j => flatF (btR x y) (k * 4 + j))] W fun e w' => ∃ sc, e = .returned (.tuple #[.agg (mk 16 y), .int .i64 sc, .bool true]) ∧ Below W.heap.size W w' := by
  have hl : (btR x y)[k]? = some (btR x y)[k] := List.getElem?_eq_getElem hk
  obtain ⟨_, h2, h3⟩ := (btR_facts x y).2 _ (List.getElem_mem hk)
  have e : mk 4 (fun j => flatF (btR x y) (k * 4 + j)) = mk 4 (fn (btR x y)[k]) := mk_congr fun j hj => flatF_at (btR_all x y) hl hj
  rw [e]
  have q := implDo_any x (fn (btR x y)[k]) W
  rw [h2, mk_congr h3] at q
  exact q.mono fun e w' ⟨h1, hb⟩ => ⟨_, h1, hb⟩
theorem betw_none {x y : Nat → Int} (h : false = (vdO x && vdO y)) : (btR x y).length = 0 := by
  rw [btR_no]; · rfl
  intro q
  rw [vdO_yes q.1, vdO_yes q.2] at h
  cases h
theorem ok_valid {f : Nat → Int} {d : Int} (h : true = slideRO f d) : vdO f = true := (steps_facts h.symm).1
set_option maxHeartbeats 16000000 in
set_option maxRecDepth 100000 in
theorem walk (w : World) (_ : w.ShapedOpen Try.prog) (a0 : Option Addr) (len0 cap0 : Nat) (z0 : List Int) (hr : IsRow .u8 w a0 len0 cap0 z0) :
    Calls Try.prog 11 #[.slice a0 len0 cap0] w fun e w' => e = .returned (.bool true) ∧ Below w.heap.size w w' := by
  have z16 := zero16
  have z4 := zero4
  have HR := Lib.hid hr
  have HB : Hid (Below w.heap.size w w) := Below.refl w.heap.size w
  clear hr
  by_cases hl : len0 ≤ 65536
  · have dl : decide ((65536 : Int) < (len0 : Int)) = false := by simp; omega
    go_enter Try.func11, Try.ntmps11
    go_wp2_with fail
    refine (vBig_any a0 len0 cap0 _).mono ?_
    rintro e w' ⟨rfl, rfl⟩
    rw [dl]
    clear dl
    go_wp2_with fail
    refine (drawStepsOf_any a0 len0 cap0 _ hl (HR.out.code)).mono ?_
    rintro e w1 ⟨f, d, rfl, hb⟩
    have HB : Hid (Below w.heap.size w w1) := HB.out.trans (hb.mono HB.out.size)
    clear hb
    obtain ⟨O, hO⟩ : ∃ O, O = slideRO f d := ⟨_, rfl⟩
    obtain ⟨N, hN⟩ : ∃ N, N = (stpR f d).length := ⟨_, rfl⟩
    obtain ⟨h, hH⟩ : ∃ h, h = flatF (stpR f d) := ⟨_, rfl⟩
    obtain ⟨MA, hMA⟩ : ∃ M, M = cnxR f := ⟨_, rfl⟩
    obtain ⟨V, hVV⟩ : ∃ V, V = vdO f := ⟨_, rfl⟩
    have hN32 : N ≤ 32 := by rw [hN]; exact stpR_le f d
    have iSO : Hid (∀ W, Calls Try.prog 19 #[.agg (mk 16 f), .int .i64 d] W fun e w' => ∃ g c, e = .returned (.tuple #[.slice (some ⟨g, 0, none⟩) N c, .bool O]) ∧ KRow 4 w' (.slice (some ⟨g, 0, none⟩) N c) N h ∧ Below W.heap.size W w') := by
      show ∀ W, _; rw [hN, hO, hH]; exact fun W => (implSteps_any f d W).mono fun e w' ⟨g, c, h1, h2, h3⟩ => ⟨g, c, h1, KRow.of_list (stpR_all f d) h2, h3⟩
    have sSO : Hid (∀ W, Calls Try.prog 18 #[.agg (mk 16 f), .int .i64 d] W fun e w' => ∃ g c, e = .returned (.tuple #[.slice (some ⟨g, 0, none⟩) N c, .bool O]) ∧ KRow 4 w' (.slice (some ⟨g, 0, none⟩) N c) N h ∧ Below W.heap.size W w') := by
      show ∀ W, _; rw [hN, hO, hH]; exact fun W => (specSteps_any f d W).mono fun e w' ⟨g, c, h1, h2, h3⟩ => ⟨g, c, h1, KRow.of_list (stpR_all f d) h2, h3⟩
    have iCN : Hid (∀ W, Calls Try.prog 34 #[.agg (mk 16 f)] W fun e w' => e = .returned (.tuple #[.int .i64 MA, .bool V]) ∧ Below W.heap.size W w') := by show ∀ W, _; rw [hMA, hVV]; exact implNextC_any f
    have sCN : Hid (∀ W, Calls Try.prog 33 #[.agg (mk 16 f)] W fun e w' => e = .returned (.tuple #[.int .i64 MA, .bool V]) ∧ Below W.heap.size W w') := by show ∀ W, _; rw [hMA, hVV]; exact specNextC_any f
    have HOV : Hid (O = true → V = true) := by show _ → _; rw [hO, hVV]; exact fun q => ok_valid q.symm
    have HO := Lib.hid hO
    have HN := Lib.hid hN
    have HMA := Lib.hid hMA
    clear hO hN hH hMA hVV
    have K3 := Blk.new w1 16 f 29
    have HB : Hid (Below w.heap.size w (w1.alloc (.cells (mk 16 f) 29))) := HB.out.alloc HB.out.size _
    go_wp2_with ((with_reducible show wpList _ _ _ (Oper.mk _ (Op.load 29 _) _ _ _ _ :: _) _ _); refine loadB (K3) rfl rfl rfl ?_)
    refine (iSO.out _).mono ?_
    clear iSO
    rintro e w2 ⟨g1, c1, rfl, r1, hb⟩
    have K3 := K3.below hb K3.lt
    have HB : Hid (Below w.heap.size w w2) := HB.out.trans (hb.mono HB.out.size)
    clear hb
    have R1 := Lib.hid r1
    clear r1
    go_wp2_with ((with_reducible show wpList _ _ _ (Oper.mk _ (Op.load 29 _) _ _ _ _ :: _) _ _); refine loadB (K3) rfl rfl rfl ?_)
    refine (sSO.out _).mono ?_
    clear sSO
    rintro e w3 ⟨g2, c2, rfl, r2, hb⟩
    have K3 := K3.below hb K3.lt
    have R1 := Lib.hid (R1.out.below hb)
    have HB : Hid (Below w.heap.size w w3) := HB.out.trans (hb.mono HB.out.size)
    clear hb
    have R2 := Lib.hid r2
    clear r2
    go_wp2_with fail
    refine (vCut1_any a0 len0 cap0 z0 _ hl (isRow_kept HR.out HB.out)).mono ?_
    rintro e w4 ⟨g3, m3, c3, rfl, hm3, hcr, hb⟩
    have K3 := K3.below hb K3.lt
    have R1 := Lib.hid (R1.out.below hb)
    have R2 := Lib.hid (R2.out.below hb)
    have HB : Hid (Below w.heap.size w w4) := HB.out.trans (hb.mono HB.out.size)
    clear hb
    have HCR := Lib.hid hcr
    clear hcr
    go_wp2_with fail
    refine (drawDoStep_any (some ⟨g3, 0, none⟩) m3 c3 _ hm3 HCR.out).mono ?_
    rintro e w5 ⟨u, s, rfl, hb⟩
    clear HCR
    have K3 := K3.below hb K3.lt
    have R1 := Lib.hid (R1.out.below hb)
    have R2 := Lib.hid (R2.out.below hb)
    have HB : Hid (Below w.heap.size w w5) := HB.out.trans (hb.mono HB.out.size)
    clear hb
    obtain ⟨NX, hNX⟩ : ∃ X, X = doRB u s := ⟨_, rfl⟩
    obtain ⟨SC, hSC⟩ : ∃ X, X = doRS u s := ⟨_, rfl⟩
    obtain ⟨F, hF⟩ : ∃ X, X = doRO u s := ⟨_, rfl⟩
    have iDS : Hid (∀ W, Calls Try.prog 16 #[.agg (mk 16 u), .agg (mk 4 s)] W fun e w' => e = .returned (.tuple #[.agg (mk 16 NX), .int .i64 SC, .bool F]) ∧ Below W.heap.size W w') := by show ∀ W, _; rw [hNX, hSC, hF]; exact implDo_any u s
    have sDS : Hid (∀ W, Calls Try.prog 13 #[.agg (mk 16 u), .agg (mk 4 s)] W fun e w' => e = .returned (.tuple #[.agg (mk 16 NX), .int .i64 SC, .bool F]) ∧ Below W.heap.size W w') := by show ∀ W, _; rw [hNX, hSC, hF]; exact specDo_any u s
    have HNX := Lib.hid hNX
    have HSC := Lib.hid hSC
    have HF := Lib.hid hF
    clear hNX hSC hF
    have hsz : (w5.alloc (.cells (mk 16 fun _ => 0) 29)).heap.size = w5.heap.size + 1 := by simp
    have KZ1 := (Blk.new w5 16 (fun _ => 0) 29).alloc (.cells (mk 4 fun _ => 0) 33)
    have KZ2 := Blk.new (w5.alloc (.cells (mk 16 fun _ => 0) 29)) 4 (fun _ => 0) 33
    rw [hsz] at KZ2
    have KZ3 := KZ2.rowOther w5.heap.size (mk 16 u) (by omega)
    have K9 := (KZ1.row 16 u).rowOther (w5.heap.size + 1) (mk 4 s) (by omega)
    have K10 := KZ3.row 4 s
    have hb : Below w5.heap.size w5 ((((w5.alloc (.cells (mk 16 fun _ => 0) 29)).alloc (.cells (mk 4 fun _ => 0) 33)).setRow w5.heap.size (mk 16 u)).setRow (w5.heap.size + 1) (mk 4 s)) := below_setRow (below_setRow (((Below.refl _ w5).alloc (Nat.le_refl _) (.cells (mk 16 fun _ => 0) 29)).alloc (by simp) (.cells (mk 4 fun _ => 0) 33)) (Nat.le_refl _) _) (by omega) _
    have K3 := K3.below hb K3.lt
    have R1 := Lib.hid (R1.out.below hb)
    have R2 := Lib.hid (R2.out.below hb)
    have HB : Hid (Below w.heap.size w ((((w5.alloc (.cells (mk 16 fun _ => 0) 29)).alloc (.cells (mk 4 fun _ => 0) 33)).setRow w5.heap.size (mk 16 u)).setRow (w5.heap.size + 1) (mk 4 s))) := HB.out.trans (hb.mono HB.out.size)
    clear hb
    go_wp2_with (first | ((with_reducible show wpList _ _ _ (Oper.mk _ (Op.store 29 _ _) _ _ _ _ :: _) _ _); refine storeB (KZ1) rfl rfl rfl rfl ?_) | ((with_reducible show wpList _ _ _ (Oper.mk _ (Op.store 33 _ _) _ _ _ _ :: _) _ _); refine storeT (KZ3) rfl rfl rfl rfl ?_) | ((with_reducible show wpList _ _ _ (Oper.mk _ (Op.load 29 _) _ _ _ _ :: _) _ _); refine loadB (K9) rfl rfl rfl ?_) | ((with_reducible show wpList _ _ _ (Oper.mk _ (Op.load 33 _) _ _ _ _ :: _) _ _); refine loadT (K10) rfl rfl rfl ?_))
    clear KZ1 KZ2 KZ3 hsz
    generalize (((w5.alloc (.cells (mk 16 fun _ => 0) 29)).alloc (.cells (mk 4 fun _ => 0) 33)).setRow w5.heap.size (mk 16 u)).setRow (w5.heap.size + 1) (mk 4 s) = v5 at *
    refine (iDS.out _).mono ?_
    clear iDS
    rintro e w6 ⟨rfl, hb⟩
    have K3 := K3.below hb K3.lt
    have K9 := K9.below hb K9.lt
    have K10 := K10.below hb K10.lt
    have R1 := Lib.hid (R1.out.below hb)
    have R2 := Lib.hid (R2.out.below hb)
    have HB : Hid (Below w.heap.size w w6) := HB.out.trans (hb.mono HB.out.size)
    clear hb
    have K3 := K3.alloc (.cells (mk 16 NX) 29)
    have K9 := K9.alloc (.cells (mk 16 NX) 29)
    have K10 := K10.alloc (.cells (mk 16 NX) 29)
    have R1 := Lib.hid (R1.out.below ((Below.refl w6.heap.size w6).alloc (Nat.le_refl _) (.cells (mk 16 NX) 29)))
    have R2 := Lib.hid (R2.out.below ((Below.refl w6.heap.size w6).alloc (Nat.le_refl _) (.cells (mk 16 NX) 29)))
    have K11 := Blk.new w6 16 NX 29
    have HB : Hid (Below w.heap.size w (w6.alloc (.cells (mk 16 NX) 29))) := HB.out.alloc HB.out.size _
    go_wp2_with (first | ((with_reducible show wpList _ _ _ (Oper.mk _ (Op.load 29 _) _ _ _ _ :: _) _ _); refine loadB (K9) rfl rfl rfl ?_) | ((with_reducible show wpList _ _ _ (Oper.mk _ (Op.load 33 _) _ _ _ _ :: _) _ _); refine loadT (K10) rfl rfl rfl ?_))
    refine (sDS.out _).mono ?_
    clear sDS
    rintro e w7 ⟨rfl, hb⟩
    have K3 := K3.below hb K3.lt
    have K9 := K9.below hb K9.lt
    have K10 := K10.below hb K10.lt
    have K11 := K11.below hb K11.lt
    have R1 := Lib.hid (R1.out.below hb)
    have R2 := Lib.hid (R2.out.below hb)
    have HB : Hid (Below w.heap.size w w7) := HB.out.trans (hb.mono HB.out.size)
    clear hb
    have K3 := K3.alloc (.cells (mk 16 NX) 29)
    have K9 := K9.alloc (.cells (mk 16 NX) 29)
    have K10 := K10.alloc (.cells (mk 16 NX) 29)
    have K11 := K11.alloc (.cells (mk 16 NX) 29)
    have R1 := Lib.hid (R1.out.below ((Below.refl w7.heap.size w7).alloc (Nat.le_refl _) (.cells (mk 16 NX) 29)))
    have R2 := Lib.hid (R2.out.below ((Below.refl w7.heap.size w7).alloc (Nat.le_refl _) (.cells (mk 16 NX) 29)))
    have K14 := Blk.new w7 16 NX 29
    have HB : Hid (Below w.heap.size w (w7.alloc (.cells (mk 16 NX) 29))) := HB.out.alloc HB.out.size _
    go_wp2_with fail
    refine (vCut2_any a0 len0 cap0 z0 _ hl (isRow_kept HR.out HB.out)).mono ?_
    rintro e w8 ⟨g5, m5, c5, rfl, hm5, hcr, hb⟩
    have K3 := K3.below hb K3.lt
    have K9 := K9.below hb K9.lt
    have K10 := K10.below hb K10.lt
    have K11 := K11.below hb K11.lt
    have K14 := K14.below hb K14.lt
    have R1 := Lib.hid (R1.out.below hb)
    have R2 := Lib.hid (R2.out.below hb)
    have HB : Hid (Below w.heap.size w w8) := HB.out.trans (hb.mono HB.out.size)
    clear hb
    have HCR := Lib.hid hcr
    clear hcr
    go_wp2_with fail
    refine (drawStepBetween_any (some ⟨g5, 0, none⟩) m5 c5 _ hm5 HCR.out).mono ?_
    rintro e w9 ⟨x, y, rfl, hb⟩
    clear HCR
    have K3 := K3.below hb K3.lt
    have K9 := K9.below hb K9.lt
    have K10 := K10.below hb K10.lt
    have K11 := K11.below hb K11.lt
    have K14 := K14.below hb K14.lt
    have R1 := Lib.hid (R1.out.below hb)
    have R2 := Lib.hid (R2.out.below hb)
    have HB : Hid (Below w.heap.size w w9) := HB.out.trans (hb.mono HB.out.size)
    clear hb
    obtain ⟨M, hM⟩ : ∃ M, M = (btR x y).length := ⟨_, rfl⟩
    obtain ⟨h2, hH2⟩ : ∃ h, h = flatF (btR x y) := ⟨_, rfl⟩
    obtain ⟨TH, hTH⟩ : ∃ X, X = (vdO x && vdO y) := ⟨_, rfl⟩
    have hM128 : M ≤ 128 := by rw [hM]; exact btR_le x y
    have iBT : Hid (∀ W, Calls Try.prog 32 #[.agg (mk 16 x), .agg (mk 16 y)] W fun e w' => ∃ g c, e = .returned (.tuple #[.slice (some ⟨g, 0, none⟩) M c, .bool TH]) ∧ KRow 4 w' (.slice (some ⟨g, 0, none⟩) M c) M h2 ∧ Below W.heap.size W w') := by
      show ∀ W, _; rw [hM, hTH, hH2]; exact fun W => (implBetween_any x y W).mono fun e w' ⟨g, c, h1, h2, h3⟩ => ⟨g, c, h1, KRow.of_list (btR_all x y) h2, h3⟩
    have sBT : Hid (∀ W, Calls Try.prog 31 #[.agg (mk 16 x), .agg (mk 16 y)] W fun e w' => ∃ g c, e = .returned (.tuple #[.slice (some ⟨g, 0, none⟩) M c, .bool TH]) ∧ KRow 4 w' (.slice (some ⟨g, 0, none⟩) M c) M h2 ∧ Below W.heap.size W w') := by
      show ∀ W, _; rw [hM, hTH, hH2]; exact fun W => (specBetween_any x y W).mono fun e w' ⟨g, c, h1, h2, h3⟩ => ⟨g, c, h1, KRow.of_list (btR_all x y) h2, h3⟩
    have HTM : Hid (TH = false → M = 0) := by show _ → _; rw [hTH, hM]; exact fun q => betw_none q.symm
    have iDO : Hid (∀ k, k < M → ∀ W, Calls Try.prog 16 #[.agg (mk 16 x), .agg (mk 4 fun j => h2 (k * 4 + j))] W fun e w' => ∃ sc, e = .returned (.tuple #[.agg (mk 16 y), .int .i64 sc, .bool true]) ∧ Below W.heap.size W w') := by
      show ∀ k, _; rw [hM, hH2]; exact fun k hk W => betw_all x y k hk W
    clear hM hH2 hTH
    have hsz : (w9.alloc (.cells (mk 16 fun _ => 0) 29)).heap.size = w9.heap.size + 1 := by simp
    have KZ1 := (Blk.new w9 16 (fun _ => 0) 29).alloc (.cells (mk 16 fun _ => 0) 29)
    have KZ2 := Blk.new (w9.alloc (.cells (mk 16 fun _ => 0) 29)) 16 (fun _ => 0) 29
    rw [hsz] at KZ2
    have KZ3 := KZ2.rowOther w9.heap.size (mk 16 x) (by omega)
    have K17 := (KZ1.row 16 x).rowOther (w9.heap.size + 1) (mk 16 y) (by omega)
    have K18 := KZ3.row 16 y
    have hb : Below w9.heap.size w9 ((((w9.alloc (.cells (mk 16 fun _ => 0) 29)).alloc (.cells (mk 16 fun _ => 0) 29)).setRow w9.heap.size (mk 16 x)).setRow (w9.heap.size + 1) (mk 16 y)) := below_setRow (below_setRow (((Below.refl _ w9).alloc (Nat.le_refl _) (.cells (mk 16 fun _ => 0) 29)).alloc (by simp) (.cells (mk 16 fun _ => 0) 29)) (Nat.le_refl _) _) (by omega) _
    have K3 := K3.below hb K3.lt
    have K9 := K9.below hb K9.lt
    have K10 := K10.below hb K10.lt
    have K11 := K11.below hb K11.lt
    have K14 := K14.below hb K14.lt
    have R1 := Lib.hid (R1.out.below hb)
    have R2 := Lib.hid (R2.out.below hb)
    have HB : Hid (Below w.heap.size w ((((w9.alloc (.cells (mk 16 fun _ => 0) 29)).alloc (.cells (mk 16 fun _ => 0) 29)).setRow w9.heap.size (mk 16 x)).setRow (w9.heap.size + 1) (mk 16 y))) := HB.out.trans (hb.mono HB.out.size)
    clear hb
    go_wp2_with (first | ((with_reducible show wpList _ _ _ (Oper.mk _ (Op.store 29 _ _) _ _ _ _ :: _) _ _); refine storeB (KZ1) rfl rfl rfl rfl ?_) | ((with_reducible show wpList _ _ _ (Oper.mk _ (Op.store 29 _ _) _ _ _ _ :: _) _ _); refine storeB (KZ3) rfl rfl rfl rfl ?_) | ((with_reducible show wpList _ _ _ (Oper.mk _ (Op.load 29 _) _ _ _ _ :: _) _ _); refine loadB (K17) rfl rfl rfl ?_) | ((with_reducible show wpList _ _ _ (Oper.mk _ (Op.load 29 _) _ _ _ _ :: _) _ _); refine loadB (K18) rfl rfl rfl ?_))
    clear KZ1 KZ2 KZ3 hsz
    generalize (((w9.alloc (.cells (mk 16 fun _ => 0) 29)).alloc (.cells (mk 16 fun _ => 0) 29)).setRow w9.heap.size (mk 16 x)).setRow (w9.heap.size + 1) (mk 16 y) = v9 at *
    refine (iBT.out _).mono ?_
    clear iBT
    rintro e w10 ⟨g6, c6, rfl, r6, hb⟩
    have K3 := K3.below hb K3.lt
    have K9 := K9.below hb K9.lt
    have K10 := K10.below hb K10.lt
    have K11 := K11.below hb K11.lt
    have K14 := K14.below hb K14.lt
    have K17 := K17.below hb K17.lt
    have K18 := K18.below hb K18.lt
    have R1 := Lib.hid (R1.out.below hb)
    have R2 := Lib.hid (R2.out.below hb)
    have HB : Hid (Below w.heap.size w w10) := HB.out.trans (hb.mono HB.out.size)
    clear hb
    have R6 := Lib.hid r6
    clear r6
    go_wp2_with (first | ((with_reducible show wpList _ _ _ (Oper.mk _ (Op.load 29 _) _ _ _ _ :: _) _ _); refine loadB (K17) rfl rfl rfl ?_) | ((with_reducible show wpList _ _ _ (Oper.mk _ (Op.load 29 _) _ _ _ _ :: _) _ _); refine loadB (K18) rfl rfl rfl ?_))
    refine (sBT.out _).mono ?_
    clear sBT
    rintro e w11 ⟨g7, c7, rfl, r7, hb⟩
    have K3 := K3.below hb K3.lt
    have K9 := K9.below hb K9.lt
    have K10 := K10.below hb K10.lt
    have K11 := K11.below hb K11.lt
    have K14 := K14.below hb K14.lt
    have K17 := K17.below hb K17.lt
    have K18 := K18.below hb K18.lt
    have R1 := Lib.hid (R1.out.below hb)
    have R2 := Lib.hid (R2.out.below hb)
    have R6 := Lib.hid (R6.out.below hb)
    have HB : Hid (Below w.heap.size w w11) := HB.out.trans (hb.mono HB.out.size)
    clear hb
    have R7 := Lib.hid r7
    clear r7
    go_wp2_with ((with_reducible show wpList _ _ _ (Oper.mk _ (Op.load 29 _) _ _ _ _ :: _) _ _); refine loadB (K3) rfl rfl rfl ?_)
    refine (iCN.out _).mono ?_
    clear iCN
    rintro e w12 ⟨rfl, hb⟩
    have K3 := K3.below hb K3.lt
    have K9 := K9.below hb K9.lt
    have K10 := K10.below hb K10.lt
    have K11 := K11.below hb K11.lt
    have K14 := K14.below hb K14.lt
    have K17 := K17.below hb K17.lt
    have K18 := K18.below hb K18.lt
    have R1 := Lib.hid (R1.out.below hb)
    have R2 := Lib.hid (R2.out.below hb)
    have R6 := Lib.hid (R6.out.below hb)
    have R7 := Lib.hid (R7.out.below hb)
    have HB : Hid (Below w.heap.size w w12) := HB.out.trans (hb.mono HB.out.size)
    clear hb
    go_wp2_with ((with_reducible show wpList _ _ _ (Oper.mk _ (Op.load 29 _) _ _ _ _ :: _) _ _); refine loadB (K3) rfl rfl rfl ?_)
    refine (sCN.out _).mono ?_
    clear sCN
    rintro e w13 ⟨rfl, hb⟩
    have K3 := K3.below hb K3.lt
    have K9 := K9.below hb K9.lt
    have K10 := K10.below hb K10.lt
    have K11 := K11.below hb K11.lt
    have K14 := K14.below hb K14.lt
    have K17 := K17.below hb K17.lt
    have K18 := K18.below hb K18.lt
    have R1 := Lib.hid (R1.out.below hb)
    have R2 := Lib.hid (R2.out.below hb)
    have R6 := Lib.hid (R6.out.below hb)
    have R7 := Lib.hid (R7.out.below hb)
    have HB : Hid (Below w.heap.size w w13) := HB.out.trans (hb.mono HB.out.size)
    clear hb
    generalize w1.heap.size = b3 at *
    generalize w5.heap.size = b9 at *
    generalize w6.heap.size = b11 at *
    generalize w7.heap.size = b14 at *
    generalize w9.heap.size = b17 at *
    go_upto_region 14 with (fail)
    go_cut [164] from 164 to 164 (fun s164 wc => s164 = .bool false ∧ Blk wc b3 16 f 29 ∧ Blk wc b9 16 u 29 ∧ Blk wc (b9 + 1) 4 s 33 ∧ Blk wc b11 16 NX 29 ∧ Blk wc b17 16 x 29 ∧ Blk wc (b17 + 1) 16 y 29 ∧ KRow 4 wc (.slice (some ⟨g6, 0, none⟩) M c6) M h2 ∧ Below w.heap.size w wc)
    case first => as_aux_lemma =>
      have iN := neqB_self NX
      have iE : ∀ (w : World), (Op.equalIn 10000 29 (.agg (mk 16 NX)) (.agg (mk 16 NX))).run Try.prog w = .ok true w := fun w => by rw [eqB 9996, sameB_iff.2 (fun _ _ => rfl)]
      cases O with
      | true =>
        have hV := HOV.out rfl
        subst hV
        go_wp2_with fail
        refine (vSteps_yes _ _ N h _ R1.out R2.out (by omega)).mono ?_
        rintro e w14 ⟨rfl, hb⟩
        have K3 := K3.below hb K3.lt
        have K9 := K9.below hb K9.lt
        have K10 := K10.below hb K10.lt
        have K11 := K11.below hb K11.lt
        have K14 := K14.below hb K14.lt
        have K17 := K17.below hb K17.lt
        have K18 := K18.below hb K18.lt
        have R1 := Lib.hid (R1.out.below hb)
        have R2 := Lib.hid (R2.out.below hb)
        have R6 := Lib.hid (R6.out.below hb)
        have R7 := Lib.hid (R7.out.below hb)
        have HB : Hid (Below w.heap.size w w14) := HB.out.trans (hb.mono HB.out.size)
        clear hb
        go_wp2_with (first | ((with_reducible show wpList _ _ _ (Oper.mk _ (Op.load 29 _) _ _ _ (some _) :: _) _ _); refine loadgB (K11) rfl rfl rfl ?_) | ((with_reducible show wpList _ _ _ (Oper.mk _ (Op.load 29 _) _ _ _ (some _) :: _) _ _); refine loadgB (K14) rfl rfl rfl ?_))
        refine (vSteps_yes _ _ M h2 _ R6.out R7.out (by omega)).mono ?_
        rintro e w15 ⟨rfl, hb⟩
        have K3 := K3.below hb K3.lt
        have K9 := K9.below hb K9.lt
        have K10 := K10.below hb K10.lt
        have K11 := K11.below hb K11.lt
        have K14 := K14.below hb K14.lt
        have K17 := K17.below hb K17.lt
        have K18 := K18.below hb K18.lt
        have R1 := Lib.hid (R1.out.below hb)
        have R2 := Lib.hid (R2.out.below hb)
        have R6 := Lib.hid (R6.out.below hb)
        have R7 := Lib.hid (R7.out.below hb)
        have HB : Hid (Below w.heap.size w w15) := HB.out.trans (hb.mono HB.out.size)
        clear hb
        go_wp2_with fail
        go_meet
        case rel => exact ⟨rfl, K3, K9, K10, K11, K17, K18, R6.out, HB.out⟩
      | false =>
        go_wp2_with fail
        refine (vSteps_yes _ _ N h _ R1.out R2.out (by omega)).mono ?_
        rintro e w14 ⟨rfl, hb⟩
        have K3 := K3.below hb K3.lt
        have K9 := K9.below hb K9.lt
        have K10 := K10.below hb K10.lt
        have K11 := K11.below hb K11.lt
        have K14 := K14.below hb K14.lt
        have K17 := K17.below hb K17.lt
        have K18 := K18.below hb K18.lt
        have R1 := Lib.hid (R1.out.below hb)
        have R2 := Lib.hid (R2.out.below hb)
        have R6 := Lib.hid (R6.out.below hb)
        have R7 := Lib.hid (R7.out.below hb)
        have HB : Hid (Below w.heap.size w w14) := HB.out.trans (hb.mono HB.out.size)
        clear hb
        go_wp2_with (first | ((with_reducible show wpList _ _ _ (Oper.mk _ (Op.load 29 _) _ _ _ (some _) :: _) _ _); refine loadgB (K11) rfl rfl rfl ?_) | ((with_reducible show wpList _ _ _ (Oper.mk _ (Op.load 29 _) _ _ _ (some _) :: _) _ _); refine loadgB (K14) rfl rfl rfl ?_))
        refine (vSteps_yes _ _ M h2 _ R6.out R7.out (by omega)).mono ?_
        rintro e w15 ⟨rfl, hb⟩
        have K3 := K3.below hb K3.lt
        have K9 := K9.below hb K9.lt
        have K10 := K10.below hb K10.lt
        have K11 := K11.below hb K11.lt
        have K14 := K14.below hb K14.lt
        have K17 := K17.below hb K17.lt
        have K18 := K18.below hb K18.lt
        have R1 := Lib.hid (R1.out.below hb)
        have R2 := Lib.hid (R2.out.below hb)
        have R6 := Lib.hid (R6.out.below hb)
        have R7 := Lib.hid (R7.out.below hb)
        have HB : Hid (Below w.heap.size w w15) := HB.out.trans (hb.mono HB.out.size)
        clear hb
        go_wp2_with fail
        go_meet
        case rel => exact ⟨rfl, K3, K9, K10, K11, K17, K18, R6.out, HB.out⟩
    case rest =>
      clear K3 K9 K10 K11 K14 K17 K18 R1 R2 R6 R7 HB HOV
      obtain ⟨rfl, K3, K9, K10, K11, K17, K18, r6, hb0⟩ := hcut
      have HB := Lib.hid hb0
      have R6 := Lib.hid r6
      clear hb0 r6
      go_upto_if 165 with fail
      go_cut [] from 165 to 165 (fun wc => Blk wc b3 16 f 29 ∧ Blk wc b17 16 x 29 ∧ Blk wc (b17 + 1) 16 y 29 ∧ KRow 4 wc (.slice (some ⟨g6, 0, none⟩) M c6) M h2 ∧ Below w.heap.size w wc)
      case first => as_aux_lemma =>
        cases F with
        | true =>
          obtain ⟨SU, SB, DD, SL, iU, iX, iSL, iTK, hw1, hw2, hne⟩ := fine_all HF.out HNX.out HSC.out
          have iU := Lib.hid iU
          have iX := Lib.hid iX
          have iSL := Lib.hid iSL
          have iTK := Lib.hid iTK
          have HNE := Lib.hid hne
          have HW1 := Lib.hid hw1
          have HW2 := Lib.hid hw2
          clear hne hw1 hw2
          go_wp2_with ((with_reducible show wpList _ _ _ (Oper.mk _ (Op.load 29 _) _ _ _ _ :: _) _ _); refine loadB (K9) rfl rfl rfl ?_)
          refine (iU.out _).mono ?_
          clear iU
          rintro e v1 ⟨rfl, hb⟩
          have K3 := K3.below hb K3.lt
          have K9 := K9.below hb K9.lt
          have K10 := K10.below hb K10.lt
          have K11 := K11.below hb K11.lt
          have K17 := K17.below hb K17.lt
          have K18 := K18.below hb K18.lt
          have R6 := Lib.hid (R6.out.below hb)
          have HB : Hid (Below w.heap.size w v1) := HB.out.trans (hb.mono HB.out.size)
          clear hb
          go_wp2_with ((with_reducible show wpList _ _ _ (Oper.mk _ (Op.load 29 _) _ _ _ _ :: _) _ _); refine loadB (K11) rfl rfl rfl ?_)
          refine (iX.out _).mono ?_
          clear iX
          rintro e v2 ⟨rfl, hb⟩
          have K3 := K3.below hb K3.lt
          have K9 := K9.below hb K9.lt
          have K10 := K10.below hb K10.lt
          have K11 := K11.below hb K11.lt
          have K17 := K17.below hb K17.lt
          have K18 := K18.below hb K18.lt
          have R6 := Lib.hid (R6.out.below hb)
          have HB : Hid (Below w.heap.size w v2) := HB.out.trans (hb.mono HB.out.size)
          clear hb
          have c0 := K10.cell (i := 0) (by omega)
          go_wp2_with ((with_reducible show wpList _ _ _ (Oper.mk _ (Op.load 29 _) _ _ _ _ :: _) _ _); refine loadB (K9) rfl rfl rfl ?_)
          clear c0
          refine (iSL.out _).mono ?_
          clear iSL
          rintro e v3 ⟨rfl, hb⟩
          have K3 := K3.below hb K3.lt
          have K9 := K9.below hb K9.lt
          have K10 := K10.below hb K10.lt
          have K11 := K11.below hb K11.lt
          have K17 := K17.below hb K17.lt
          have K18 := K18.below hb K18.lt
          have R6 := Lib.hid (R6.out.below hb)
          have HB : Hid (Below w.heap.size w v3) := HB.out.trans (hb.mono HB.out.size)
          clear hb
          have K3 := K3.alloc (.cells (mk 16 SL) 29)
          have K9 := K9.alloc (.cells (mk 16 SL) 29)
          have K10 := K10.alloc (.cells (mk 16 SL) 29)
          have K11 := K11.alloc (.cells (mk 16 SL) 29)
          have K17 := K17.alloc (.cells (mk 16 SL) 29)
          have K18 := K18.alloc (.cells (mk 16 SL) 29)
          have R6 := Lib.hid (R6.out.below ((Below.refl v3.heap.size v3).alloc (Nat.le_refl _) (.cells (mk 16 SL) 29)))
          have K31 := Blk.new v3 16 SL 29
          have HB : Hid (Below w.heap.size w (v3.alloc (.cells (mk 16 SL) 29))) := HB.out.alloc HB.out.size _
          go_wp2_with (first | ((with_reducible show wpList _ _ _ (Oper.mk _ (Op.load 29 _) _ _ _ _ :: _) _ _); refine loadB (K11) rfl rfl rfl ?_) | ((with_reducible show wpList _ _ _ (Oper.mk _ (Op.load 26 _) _ _ _ _ :: _) _ _); refine loadPC (K10) (by omega) rfl rfl rfl ?_))
          refine (iTK.out _).mono ?_
          clear iTK
          rintro e v4 ⟨rfl, hb⟩
          have K3 := K3.below hb K3.lt
          have K9 := K9.below hb K9.lt
          have K10 := K10.below hb K10.lt
          have K11 := K11.below hb K11.lt
          have K17 := K17.below hb K17.lt
          have K18 := K18.below hb K18.lt
          have K31 := K31.below hb K31.lt
          have R6 := Lib.hid (R6.out.below hb)
          have HB : Hid (Below w.heap.size w v4) := HB.out.trans (hb.mono HB.out.size)
          clear hb
          have K3 := K3.alloc (.cells (mk 16 SL) 29)
          have K9 := K9.alloc (.cells (mk 16 SL) 29)
          have K10 := K10.alloc (.cells (mk 16 SL) 29)
          have K11 := K11.alloc (.cells (mk 16 SL) 29)
          have K17 := K17.alloc (.cells (mk 16 SL) 29)
          have K18 := K18.alloc (.cells (mk 16 SL) 29)
          have K31 := K31.alloc (.cells (mk 16 SL) 29)
          have R6 := Lib.hid (R6.out.below ((Below.refl v4.heap.size v4).alloc (Nat.le_refl _) (.cells (mk 16 SL) 29)))
          have K34 := Blk.new v4 16 SL 29
          have HB : Hid (Below w.heap.size w (v4.alloc (.cells (mk 16 SL) 29))) := HB.out.alloc HB.out.size _
          have iN := neqB_self SL
          have iE : ∀ (w : World), (Op.equalIn 10000 29 (.agg (mk 16 SL)) (.agg (mk 16 SL))).run Try.prog w = .ok true w := fun w => by rw [eqB 9996, sameB_iff.2 (fun _ _ => rfl)]
          have iF : ∀ (w : World), (Op.equalIn 10000 29 (.agg (mk 16 SL)) (.agg (mk 16 u))).run Try.prog w = .ok false w := fun w => by rw [eqB 9996, HNE.out]
          have c3 := K10.cell (i := 3) (by omega)
          have hw1 := HW1.out
          have hw2 := HW2.out
          go_wp2_with (first | ((with_reducible show wpList _ _ _ (Oper.mk _ (Op.load 29 _) _ _ _ (some _) :: _) _ _); refine loadgB (K34) rfl rfl rfl ?_) | ((with_reducible show wpList _ _ _ (Oper.mk _ (Op.load 29 _) _ _ _ (some _) :: _) _ _); refine loadgB (K31) rfl rfl rfl ?_) | ((with_reducible show wpList _ _ _ (Oper.mk _ (Op.load 29 _) _ _ _ (some _) :: _) _ _); refine loadgB (K9) rfl rfl rfl ?_))
          go_meet
          case rel => exact ⟨K3, K17, K18, R6.out, HB.out⟩
        | false =>
          go_wp2_with fail
          go_meet
          case rel => exact ⟨K3, K17, K18, R6.out, HB.out⟩
      case rest =>
        clear K3 K9 K10 K11 K17 K18 R6 HB HF HNX HSC
        obtain ⟨K3, K17, K18, r6, hb0⟩ := hcut
        have HB := Lib.hid hb0
        have R6 := Lib.hid r6
        clear hb0 r6
        go_upto_block 0 with fail
        go_cut [] from 236 to 261 (fun wc => Blk wc b3 16 f 29 ∧ Below w.heap.size w wc)
        case first => as_aux_lemma =>
          obtain ⟨_, _, e1, _, CM⟩ := R6.out
          cases e1
          have CM : CAt wc g6 (M * 4) h2 := CM
          clear R6
          have iN := neqB_self y
          have iE : ∀ (w : World), (Op.equalIn 10000 29 (.agg (mk 16 y)) (.agg (mk 16 y))).run Try.prog w = .ok true w := fun w => by rw [eqB 9996, sameB_iff.2 (fun _ _ => rfl)]
          go_wp2_with fail
          go_loopg [37] M (fun gk s37 wr => ∃ k : Nat, k + gk = M ∧ s37 = .int .i64 k ∧ Blk wr b3 16 f 29 ∧ Blk wr b17 16 x 29 ∧ Blk wr (b17 + 1) 16 y 29 ∧ CAt wr g6 (M * 4) h2 ∧ Hid (Below w.heap.size w wr))
          case atStart => exact ⟨0, by omega, rfl, K3, K17, K18, CM, HB⟩
          case round =>
            clear K3 K17 K18 CM HB
            obtain ⟨k, hkg, rfl, K3, K17, K18, CM, HB⟩ := hrel
            cases gk with
            | zero =>
              have hk : ¬ ((k : Int) < (M : Int)) := by omega
              have hk2 : ¬ (k < M) := by omega
              cases TH with
              | true =>
                go_wp2_with fail
                go_meet
                case rel => exact ⟨K3, HB.out⟩
              | false =>
                go_wp2_with fail
                go_meet
                case rel => exact ⟨K3, HB.out⟩
            | succ gk2 =>
              have hT : TH = true := by
                cases hq : TH with
                | true => rfl
                | false => have := HTM.out hq; omega
              subst hT
              have hk : (k : Int) < (M : Int) := by omega
              have hk2 : k < M := by omega
              have hk0 : (0 : Int) ≤ (k : Int) := by omega
              have IDK := Lib.hid (iDO.out k hk2)
              go_wp2_with fail
              refine wp_region_held_drew (S := fun W => Blk W b17 16 x 29 ∧ CAt W g6 (M * 4) h2) (by kernel_rfl) (⟨K17.drew, CM.drew⟩) (fun hHeld => ?_)
              have K17 : Blk wr.drew b17 16 x 29 := K17.drew
              have CM : CAt wr.drew g6 (M * 4) h2 := CM.drew
              have BX : Hid (Below wr.heap.size wr wr.drew) := (Below.refl _ wr).drew
              generalize wr.drew = x0 at *
              refine wpAnyH_take (i := 0) (oi := { dst := some 246, op := _, type := _, pos := _, after := _, guard := _ }) (v := .agg (mk 16 x)) rfl (by kernel_rfl) (by kernel_rfl) (by kernel_rfl) (fun _ _ _ h => h) (Or.inl ⟨by rfl, fun _ q => execB q.1 rfl rfl⟩) (by assumption) ?_
              try simp only [Act.put, List.setIfInBounds_toArray, List.set_cons_zero, List.set_cons_succ]
              refine wpAnyH_take (i := 1) (oi := { dst := some 247, op := _, type := _, pos := _, after := _, guard := _ }) (v := .slice (some ⟨g6, 0, none⟩) M c6) rfl (by kernel_rfl) (by kernel_rfl) (by kernel_rfl) (fun _ _ _ h => h) (Or.inl ⟨by rfl, by intro w hSw; clear hSw; go_simp; (try with_reducible rfl)⟩) (by assumption) ?_
              try simp only [Act.put, List.setIfInBounds_toArray, List.set_cons_zero, List.set_cons_succ]
              refine wpAnyH_take (i := 2) (oi := { dst := some 248, op := _, type := _, pos := _, after := _, guard := _ }) (v := .int .i64 (k : Int)) rfl (by kernel_rfl) (by kernel_rfl) (by kernel_rfl) (fun _ _ _ h => h) (Or.inl ⟨by rfl, by intro w hSw; clear hSw; go_simp; (try with_reducible rfl)⟩) (by assumption) ?_
              try simp only [Act.put, List.setIfInBounds_toArray, List.set_cons_zero, List.set_cons_succ]
              refine wpAnyH_take (i := 3) (oi := { dst := some 249, op := _, type := _, pos := _, after := _, guard := _ }) (v := .pointer (some ⟨g6, k * 4, none⟩)) rfl (by kernel_rfl) (by kernel_rfl) (by kernel_rfl) (fun _ _ _ h => h) (Or.inl ⟨by rfl, by intro w hSw; clear hSw; go_simp; (try with_reducible rfl)⟩) (by assumption) ?_
              try simp only [Act.put, List.setIfInBounds_toArray, List.set_cons_zero, List.set_cons_succ]
              refine wpAnyH_take (i := 4) (oi := { dst := some 250, op := _, type := _, pos := _, after := _, guard := _ }) (v := .agg (mk 4 fun j => h2 (k * 4 + j))) rfl (by kernel_rfl) (by kernel_rfl) (by kernel_rfl) (fun _ _ _ h => h) (Or.inl ⟨by rfl, fun _ q => execAT q.2 (by omega) rfl rfl⟩) (by assumption) ?_
              try simp only [Act.put, List.setIfInBounds_toArray, List.set_cons_zero, List.set_cons_succ]
              refine wpAnyH_ready (rs := [5, 10]) (by kernel_rfl) (by simp) ?_
              refine AllReadyH.cons rfl (fun K hK => ?_) ?_
              · go_simp
                refine (IDK.out _).mono ?_
                rintro e x1 ⟨sc, rfl, hb⟩
                have CM := CM.below hb
                have K17 := K17.below hb K17.lt
                have BX : Hid (Below wr.heap.size wr x1) := BX.out.trans (hb.mono BX.out.size)
                clear hb hHeld
                go_wp2_with fail
                refine hK.out _ _ ⟨K17, CM⟩ (fun hHeld => ?_)
                clear hK K
                try simp only [Act.put, List.setIfInBounds_toArray, List.set_cons_zero, List.set_cons_succ]
                refine wpAnyH_take (i := 6) (oi := { dst := some 245, op := _, type := _, pos := _, after := _, guard := _ }) (v := .tuple #[.agg (mk 16 y), .int .i64 sc, .bool true]) rfl (by kernel_rfl) (by kernel_rfl) (by kernel_rfl) (fun _ _ _ h => h) (Or.inl ⟨by rfl, by intro w hSw; clear hSw; go_simp; (try with_reducible rfl)⟩) (by assumption) ?_
                try simp only [Act.put, List.setIfInBounds_toArray, List.set_cons_zero, List.set_cons_succ]
                refine wpAnyH_take (i := 7) (oi := { dst := some 252, op := _, type := _, pos := _, after := _, guard := _ }) (v := .agg (mk 16 y)) rfl (by kernel_rfl) (by kernel_rfl) (by kernel_rfl) (fun _ _ _ h => h) (Or.inl ⟨by rfl, by intro w hSw; clear hSw; go_simp; (try with_reducible rfl)⟩) (by assumption) ?_
                try simp only [Act.put, List.setIfInBounds_toArray, List.set_cons_zero, List.set_cons_succ]
                refine wpAnyH_take (i := 8) (oi := { dst := some 253, op := _, type := _, pos := _, after := _, guard := _ }) (v := .int .i64 sc) rfl (by kernel_rfl) (by kernel_rfl) (by kernel_rfl) (fun _ _ _ h => h) (Or.inl ⟨by rfl, by intro w hSw; clear hSw; go_simp; (try with_reducible rfl)⟩) (by assumption) ?_
                try simp only [Act.put, List.setIfInBounds_toArray, List.set_cons_zero, List.set_cons_succ]
                refine wpAnyH_take (i := 9) (oi := { dst := some 254, op := _, type := _, pos := _, after := _, guard := _ }) (v := .bool true) rfl (by kernel_rfl) (by kernel_rfl) (by kernel_rfl) (fun _ _ _ h => h) (Or.inl ⟨by rfl, by intro w hSw; clear hSw; go_simp; (try with_reducible rfl)⟩) (by assumption) ?_
                try simp only [Act.put, List.setIfInBounds_toArray, List.set_cons_zero, List.set_cons_succ]
                refine wpAnyH_ready (rs := [10]) (by kernel_rfl) (by simp) ?_
                refine AllReadyH.cons rfl (fun K hK => ?_) AllReadyH.nil
                rw [if_pos (by rfl)]
                refine wp_allocX rfl ?_
                have K8 := Blk.new x1 16 (fun _ => 0) 29
                have HB8 : Hid (wr.heap.size ≤ x1.heap.size) := BX.out.size
                have HB9 : Hid (b17 < x1.heap.size ∧ g6 < x1.heap.size) := ⟨K17.lt, CM.1⟩
                have K17 := K17.alloc (.cells (mk 16 fun _ => 0) 29)
                have CM := CM.alloc (.cells (mk 16 fun _ => 0) 29)
                have BX : Hid (Below wr.heap.size wr (x1.alloc (.cells (mk 16 fun _ => 0) 29))) := BX.out.alloc BX.out.size _
                clear hHeld
                generalize x1.alloc (.cells (mk 16 fun _ => 0) 29) = x2 at *
                generalize x1.heap.size = b8 at *
                refine hK.out _ _ ⟨K17, CM⟩ (fun hHeld => ?_)
                clear hK K
                try simp only [Act.put, List.setIfInBounds_toArray, List.set_cons_zero, List.set_cons_succ]
                refine wpAnyH_ready (rs := [11]) (by kernel_rfl) (by simp) ?_
                refine AllReadyH.cons rfl (fun K hK => ?_) AllReadyH.nil
                have st1 := run_store_blk (P := Try.prog) (g := y) K8
                have ms1 : (mk 16 y).size = 16 := mk_size 16 _
                go_simp
                clear st1 ms1
                have hgr : x2.grownBy (x2.setRow b8 (mk 16 y)) (some b8) := grown_row K8 _
                have K17 := K17.rowOther b8 (mk 16 y) (by have := HB9.out.1; omega)
                have CM := CM.grown hgr (fun e => by cases e; exact absurd HB9.out.2 (Nat.lt_irrefl _))
                have BX : Hid (Below wr.heap.size wr (x2.setRow b8 (mk 16 y))) := below_setRow BX.out HB8.out _
                have K8 := K8.row 16 y
                clear hgr hHeld
                generalize x2.setRow b8 (mk 16 y) = x3 at *
                refine hK.out _ _ ⟨K17, CM⟩ (fun hHeld => ?_)
                clear hK K
                try simp only [Act.put, List.setIfInBounds_toArray, List.set_cons_zero, List.set_cons_succ]
                refine wpAnyH_take (i := 12) (oi := { dst := some 39, op := _, type := _, pos := _, after := _, guard := _ }) (v := .int .i64 sc) rfl (by kernel_rfl) (by kernel_rfl) (by kernel_rfl) (fun _ _ _ h => h) (Or.inl ⟨by rfl, by intro w hSw; clear hSw; go_simp; (try with_reducible rfl)⟩) (by assumption) ?_
                try simp only [Act.put, List.setIfInBounds_toArray, List.set_cons_zero, List.set_cons_succ]
                refine wpAnyH_take (i := 13) (oi := { dst := some 40, op := _, type := _, pos := _, after := _, guard := _ }) (v := .bool true) rfl (by kernel_rfl) (by kernel_rfl) (by kernel_rfl) (fun _ _ _ h => h) (Or.inl ⟨by rfl, by intro w hSw; clear hSw; go_simp; (try with_reducible rfl)⟩) (by assumption) ?_
                try simp only [Act.put, List.setIfInBounds_toArray, List.set_cons_zero, List.set_cons_succ]
                refine wpAnyH_done (by kernel_rfl) ?_ _
                clear hHeld
                have K18 := K18.below BX.out K18.lt
                have K3 := K3.below BX.out K3.lt
                have HB : Hid (Below w.heap.size w x3) := HB.out.trans (BX.out.mono HB.out.size)
                go_wp2_with (first | ((with_reducible show wpList _ _ _ (Oper.mk _ (Op.load 29 _) _ _ _ (some _) :: _) _ _); refine loadgB (K8) rfl rfl rfl ?_) | ((with_reducible show wpList _ _ _ (Oper.mk _ (Op.load 29 _) _ _ _ (some _) :: _) _ _); refine loadgB (K18) rfl rfl rfl ?_))
                go_roundg gk2
                case rel => exact ⟨k + 1, by omega, by go_num, K3, K17, K18, CM, HB⟩
                case measure => omega
              refine AllReadyH.cons rfl (fun K hK => ?_) AllReadyH.nil
              rw [if_pos (by rfl)]
              refine wp_allocX rfl ?_
              have K8 := Blk.new x0 16 (fun _ => 0) 29
              have HB8 : Hid (wr.heap.size ≤ x0.heap.size) := BX.out.size
              have HB9 : Hid (b17 < x0.heap.size ∧ g6 < x0.heap.size) := ⟨K17.lt, CM.1⟩
              have K17 := K17.alloc (.cells (mk 16 fun _ => 0) 29)
              have CM := CM.alloc (.cells (mk 16 fun _ => 0) 29)
              have BX : Hid (Below wr.heap.size wr (x0.alloc (.cells (mk 16 fun _ => 0) 29))) := BX.out.alloc BX.out.size _
              clear hHeld
              generalize x0.alloc (.cells (mk 16 fun _ => 0) 29) = x1 at *
              generalize x0.heap.size = b8 at *
              refine hK.out _ _ ⟨K17, CM⟩ (fun hHeld => ?_)
              clear hK K
              try simp only [Act.put, List.setIfInBounds_toArray, List.set_cons_zero, List.set_cons_succ]
              refine wpAnyH_ready (rs := [5]) (by kernel_rfl) (by simp) ?_
              refine AllReadyH.cons rfl (fun K hK => ?_) AllReadyH.nil
              go_simp
              refine (IDK.out _).mono ?_
              rintro e x2 ⟨sc, rfl, hb⟩
              have CM := CM.below hb
              have K17 := K17.below hb K17.lt
              have BX : Hid (Below wr.heap.size wr x2) := BX.out.trans (hb.mono BX.out.size)
              have K8 := K8.below hb K8.lt
              clear hb hHeld
              go_wp2_with fail
              refine hK.out _ _ ⟨K17, CM⟩ (fun hHeld => ?_)
              clear hK K
              try simp only [Act.put, List.setIfInBounds_toArray, List.set_cons_zero, List.set_cons_succ]
              refine wpAnyH_take (i := 6) (oi := { dst := some 245, op := _, type := _, pos := _, after := _, guard := _ }) (v := .tuple #[.agg (mk 16 y), .int .i64 sc, .bool true]) rfl (by kernel_rfl) (by kernel_rfl) (by kernel_rfl) (fun _ _ _ h => h) (Or.inl ⟨by rfl, by intro w hSw; clear hSw; go_simp; (try with_reducible rfl)⟩) (by assumption) ?_
              try simp only [Act.put, List.setIfInBounds_toArray, List.set_cons_zero, List.set_cons_succ]
              refine wpAnyH_take (i := 7) (oi := { dst := some 252, op := _, type := _, pos := _, after := _, guard := _ }) (v := .agg (mk 16 y)) rfl (by kernel_rfl) (by kernel_rfl) (by kernel_rfl) (fun _ _ _ h => h) (Or.inl ⟨by rfl, by intro w hSw; clear hSw; go_simp; (try with_reducible rfl)⟩) (by assumption) ?_
              try simp only [Act.put, List.setIfInBounds_toArray, List.set_cons_zero, List.set_cons_succ]
              refine wpAnyH_take (i := 8) (oi := { dst := some 253, op := _, type := _, pos := _, after := _, guard := _ }) (v := .int .i64 sc) rfl (by kernel_rfl) (by kernel_rfl) (by kernel_rfl) (fun _ _ _ h => h) (Or.inl ⟨by rfl, by intro w hSw; clear hSw; go_simp; (try with_reducible rfl)⟩) (by assumption) ?_
              try simp only [Act.put, List.setIfInBounds_toArray, List.set_cons_zero, List.set_cons_succ]
              refine wpAnyH_take (i := 9) (oi := { dst := some 254, op := _, type := _, pos := _, after := _, guard := _ }) (v := .bool true) rfl (by kernel_rfl) (by kernel_rfl) (by kernel_rfl) (fun _ _ _ h => h) (Or.inl ⟨by rfl, by intro w hSw; clear hSw; go_simp; (try with_reducible rfl)⟩) (by assumption) ?_
              try simp only [Act.put, List.setIfInBounds_toArray, List.set_cons_zero, List.set_cons_succ]
              refine wpAnyH_ready (rs := [11]) (by kernel_rfl) (by simp) ?_
              refine AllReadyH.cons rfl (fun K hK => ?_) AllReadyH.nil
              have st1 := run_store_blk (P := Try.prog) (g := y) K8
              have ms1 : (mk 16 y).size = 16 := mk_size 16 _
              go_simp
              clear st1 ms1
              have hgr : x2.grownBy (x2.setRow b8 (mk 16 y)) (some b8) := grown_row K8 _
              have K17 := K17.rowOther b8 (mk 16 y) (by have := HB9.out.1; omega)
              have CM := CM.grown hgr (fun e => by cases e; exact absurd HB9.out.2 (Nat.lt_irrefl _))
              have BX : Hid (Below wr.heap.size wr (x2.setRow b8 (mk 16 y))) := below_setRow BX.out HB8.out _
              have K8 := K8.row 16 y
              clear hgr hHeld
              generalize x2.setRow b8 (mk 16 y) = x3 at *
              refine hK.out _ _ ⟨K17, CM⟩ (fun hHeld => ?_)
              clear hK K
              try simp only [Act.put, List.setIfInBounds_toArray, List.set_cons_zero, List.set_cons_succ]
              refine wpAnyH_take (i := 12) (oi := { dst := some 39, op := _, type := _, pos := _, after := _, guard := _ }) (v := .int .i64 sc) rfl (by kernel_rfl) (by kernel_rfl) (by kernel_rfl) (fun _ _ _ h => h) (Or.inl ⟨by rfl, by intro w hSw; clear hSw; go_simp; (try with_reducible rfl)⟩) (by assumption) ?_
              try simp only [Act.put, List.setIfInBounds_toArray, List.set_cons_zero, List.set_cons_succ]
              refine wpAnyH_take (i := 13) (oi := { dst := some 40, op := _, type := _, pos := _, after := _, guard := _ }) (v := .bool true) rfl (by kernel_rfl) (by kernel_rfl) (by kernel_rfl) (fun _ _ _ h => h) (Or.inl ⟨by rfl, by intro w hSw; clear hSw; go_simp; (try with_reducible rfl)⟩) (by assumption) ?_
              try simp only [Act.put, List.setIfInBounds_toArray, List.set_cons_zero, List.set_cons_succ]
              refine wpAnyH_done (by kernel_rfl) ?_ _
              clear hHeld
              have K18 := K18.below BX.out K18.lt
              have K3 := K3.below BX.out K3.lt
              have HB : Hid (Below w.heap.size w x3) := HB.out.trans (BX.out.mono HB.out.size)
              go_wp2_with (first | ((with_reducible show wpList _ _ _ (Oper.mk _ (Op.load 29 _) _ _ _ (some _) :: _) _ _); refine loadgB (K8) rfl rfl rfl ?_) | ((with_reducible show wpList _ _ _ (Oper.mk _ (Op.load 29 _) _ _ _ (some _) :: _) _ _); refine loadgB (K18) rfl rfl rfl ?_))
              go_roundg gk2
              case rel => exact ⟨k + 1, by omega, by go_num, K3, K17, K18, CM, HB⟩
              case measure => omega
        case rest =>
          clear K3 K17 K18 R6 HB HTM iDO
          obtain ⟨K3, hb0⟩ := hcut
          have HB := Lib.hid hb0
          clear hb0
          cases O with
          | false =>
            go_wp2_with fail
            go_ret
            exact ⟨rfl, HB.out⟩
          | true =>
            obtain ⟨SL, SS, E, iSL, iEC, hE, hle, q1, q2⟩ := tail_all HO.out HN.out HMA.out
            have iSL := Lib.hid iSL
            have iEC := Lib.hid iEC
            have Q1 := Lib.hid q1
            have Q2 := Lib.hid q2
            clear q1 q2 HO HN HMA
            go_wp2_with ((with_reducible show wpList _ _ _ (Oper.mk _ (Op.load 29 _) _ _ _ _ :: _) _ _); refine loadB (K3) rfl rfl rfl ?_)
            refine (iSL.out _).mono ?_
            clear iSL
            rintro e y1 ⟨rfl, hb⟩
            have K3 := K3.below hb K3.lt
            have HB : Hid (Below w.heap.size w y1) := HB.out.trans (hb.mono HB.out.size)
            clear hb
            have K3 := K3.alloc (.cells (mk 16 SL) 29)
            have K41 := Blk.new y1 16 SL 29
            have HB : Hid (Below w.heap.size w (y1.alloc (.cells (mk 16 SL) 29))) := HB.out.alloc HB.out.size _
            go_wp2_with ((with_reducible show wpList _ _ _ (Oper.mk _ (Op.load 29 _) _ _ _ _ :: _) _ _); refine loadB (K41) rfl rfl rfl ?_)
            refine (iEC.out _).mono ?_
            clear iEC
            rintro e y2 ⟨g8, c8, rfl, hb⟩
            have K3 := K3.below hb K3.lt
            have K41 := K41.below hb K41.lt
            have HB : Hid (Below w.heap.size w y2) := HB.out.trans (hb.mono HB.out.size)
            clear hb
            have hMN : ¬ MA < (N : Int) := by omega
            cases hq : sameB SL f with
            | true =>
              have iE : ∀ (w : World), (Op.equalIn 10000 29 (.agg (mk 16 SL)) (.agg (mk 16 f))).run Try.prog w = .ok true w := fun w => by rw [eqB 9996, hq]
              have hn := Q1.out hq
              have HQ := Lib.hid hq
              clear hq
              subst hn
              go_wp2_with (first | ((with_reducible show wpList _ _ _ (Oper.mk _ (Op.load 29 _) _ _ _ (some _) :: _) _ _); refine loadgB (K41) rfl rfl rfl ?_) | ((with_reducible show wpList _ _ _ (Oper.mk _ (Op.load 29 _) _ _ _ (some _) :: _) _ _); refine loadgB (K3) rfl rfl rfl ?_))
              go_ret
              exact ⟨rfl, HB.out⟩
            | false =>
              have iE : ∀ (w : World), (Op.equalIn 10000 29 (.agg (mk 16 SL)) (.agg (mk 16 f))).run Try.prog w = .ok false w := fun w => by rw [eqB 9996, hq]
              have hn := Q2.out hq
              have HQ := Lib.hid hq
              clear hq
              have hnI : (N : Int) = 2 * (E : Int) := by omega
              have hw : IntKind.i64.wrap (2 * (E : Int)) = (N : Int) := by rw [← hnI]; exact IntWalk.i64_in _ (by omega)
              clear hn hnI
              go_wp2_with (first | ((with_reducible show wpList _ _ _ (Oper.mk _ (Op.load 29 _) _ _ _ (some _) :: _) _ _); refine loadgB (K41) rfl rfl rfl ?_) | ((with_reducible show wpList _ _ _ (Oper.mk _ (Op.load 29 _) _ _ _ (some _) :: _) _ _); refine loadgB (K3) rfl rfl rfl ?_))
              go_ret
              exact ⟨rfl, HB.out⟩
  · have dl : decide ((65536 : Int) < (len0 : Int)) = true := by simp; omega
    go_enter Try.func11, Try.ntmps11
    go_wp2_with fail
    refine (vBig_any a0 len0 cap0 _).mono ?_
    rintro e w' ⟨rfl, rfl⟩
    rw [dl]
    clear dl
    go_wp2_with fail
    go_ret
    exact ⟨rfl, HB.out⟩

noncomputable def laidWorld (os : Os) : World := World.holding Try.prog os ⟨#[], #[], []⟩
theorem laid_met (os : Os) : laidMet Try.prog Rows.fnStepsRow.laid ((laidWorld os).forCall (fun _ _ => 0) ⟨#[], #[.slice none 0 0], []⟩).memory := laidMet_of_run' 8 (by kernel_rfl) (by kernel_rfl)
theorem reads (os : Os) {H : Type} (enc : TypeId × Value → H) : ∃ places, DataW.whole enc Try.prog ((laidWorld os).forCall (fun _ _ => 0) ⟨#[], #[.slice none 0 0], []⟩).memory Try.f11.params.toList Rows.fnStepsSpec.vars false #[.slice none 0 0].toList 8 = some ([.nil], [], places) :=
  ⟨[], by kernel_rfl⟩
set_option linter.unusedVariables false in
set_option maxRecDepth 100000 in
theorem lifted (os : Os) (started : os.Started) (H : Type) (enc : TypeId × Value → H) (F : Stop.Interp) :
    ReturnsInHanded {} Try.checked os 11 .any ((OpenSpec.ofChange Rows.fnStepsSpec).preRow enc Try.prog Try.f11 Rows.fnStepsRow.domain false Rows.fnStepsRow.laid) (((OpenSpec.ofChange Rows.fnStepsSpec).at F).post enc Try.prog Try.f11 false true false false) := by
  obtain ⟨places, hx⟩ := reads os enc
  refine returnsInHanded_of_row (C := Try.checked) (s := (OpenSpec.ofChange Rows.fnStepsSpec)) own started (by kernel_rfl) Try.func11
    (witness_row_at (enc := enc) (C := Try.checked) false (laidWorld os) #[.slice none 0 0] rfl (by kernel_rfl) (by kernel_rfl) (by kernel_rfl)
      (OpenSpec.preRow_of_cond 8 hx (by kernel_rfl) (fun k hk => by cases hk) (by kernel_rfl) (laid_met os))) ?_
  intro W base args ds gs before hval0 hW _ hcond hsz hL hsh _
  have hval : ∀ (j : Nat) t v, Try.f11.params[j]? = some t → args[j]? = some v → Value.okWide Try.prog W .any base t v := hval0
  have hW' := hW
  obtain ⟨p, q, hA0, hV, rfl, hfz, hnd⟩ := hW
  have hA : DataW.TrodAll enc Try.prog W 0 (fun _ => true) true Try.f11.params.toList args.toList ds p := hA0
  rw [Try.params11] at hA hval
  obtain ⟨v0, vs0, d0, ds0, p0, q0, hargs, rfl, rfl, h0, r0⟩ := trodAll_cons hA
  obtain ⟨rfl, rfl, rfl⟩ := trodAll_nil r0
  obtain rfl : args = #[v0] := by cases args; simp_all
  obtain ⟨rfl, rfl⟩ := trodVars_none hV
  obtain ⟨a0, len0, cap0, rfl⟩ := okWide_slice Try.underlying63 (hval 0 63 v0 rfl rfl)
  have k0 := h0
  have lt0 : ∀ x ∈ p0, x.block < W.heap.size := by obtain ⟨m, hm⟩ := k0; exact DataW.trod_lt m _ _ _ hm
  obtain ⟨z0, w0⟩ : ∃ zs, IsRow .u8 W a0 len0 cap0 zs := by
    obtain ⟨fuel, hf⟩ := h0
    rcases open_ints Try.underlying63 Try.underlying5 (by kernel_rfl) hf with ⟨hcs, _⟩ | ⟨x, l, c, zs, hcs, _, hl, hm, hz, _, hcell, hwz⟩
    · simp [Value.cells] at hcs; obtain ⟨rfl, rfl, rfl⟩ := hcs; exact ⟨[], .inl ⟨rfl, rfl, rfl, rfl⟩⟩
    · simp [Value.cells] at hcs; obtain ⟨rfl, rfl, rfl⟩ := hcs; exact ⟨zs, .inr ⟨_, rfl, hl, hm, by simpa using hz, hcell, hwz⟩⟩
  clear hA0 hval0
  have hwalk : Calls Try.prog 11 #[.slice a0 len0 cap0] W fun e w' => e = .returned (.bool true) ∧ Below W.heap.size W w' := walk W hsh a0 len0 cap0 z0 w0
  refine hwalk.mono fun e W' ⟨he, bel⟩ => ?_
  subst he
  exact ⟨_, rfl, _, _, _, [], _, [], hW', trodAll_mk1 (shut_bool Try.underlying4 _), (trodAll_cons_mk (Below.trod laidOut (by kernel_rfl) (of_decide_eq_true (by kernel_rfl)) k0 bel lt0) trodAll_mk0), rfl, bel.frame _, fun h => by cases h⟩
theorem closed : joinedFacts Try.pinned.checked.prog 11 Try.f11 ((OpenSpec.ofChange Rows.fnStepsSpec)).bare Rows.fnStepsRow = true := by
  unfold joinedFacts
  repeat' with_reducible refine and_mk ?_ ?_
  case refine_1.refine_1.refine_1.refine_1.refine_1.refine_1.refine_2 => exact enters
  case refine_1.refine_1.refine_1.refine_1.refine_1.refine_2 => exact (show (Rows.fnStepsRow.lifted == Try.prog.liftsFinal) = true by rw [final_no]; rfl)
  case refine_1.refine_1.refine_1.refine_1.refine_2 => exact (show (Try.prog.make == some Rows.fnStepsRow.make) = true by rw [make_cut]; rfl)
  case refine_1.refine_1.refine_1.refine_1.refine_1.refine_1.refine_1.refine_1.refine_1.refine_1.refine_1.refine_1.refine_1.refine_1.refine_1.refine_1.refine_1.refine_1.refine_1.refine_1.refine_1.refine_1.refine_1.refine_1.refine_1.refine_1.refine_1.refine_1.refine_1.refine_1.refine_2 => exact laidOut
  case refine_1.refine_1.refine_1.refine_1.refine_1.refine_1.refine_1.refine_1.refine_1.refine_1.refine_1.refine_1.refine_1.refine_1.refine_1.refine_1.refine_1.refine_1.refine_1.refine_1.refine_1.refine_1.refine_1.refine_1.refine_1.refine_1.refine_1.refine_1.refine_1.refine_2 => exact maps_rowed
  case refine_1.refine_1.refine_1.refine_1.refine_1.refine_1.refine_1.refine_2 => exact stops_heard
  all_goals (as_aux_lemma => kernel_rfl)
theorem proved : Rows.FnStepsSaid :=
  OpenClaim.holds_of_cond 11 Try.f11 rfl rfl rfl rfl rfl rfl rfl ⟨rfl, rfl, rfl, rfl, rfl⟩ rfl rfl rfl rfl rfl (by kernel_rfl) Try.func11 closed
    (of_decide_eq_true (by kernel_rfl)) (by unfold Func.isWrapper; first | (rw [if_pos (by decide +kernel)]; kernel_rfl) | (rw [if_neg (by decide +kernel)]; exact ⟨rfl, rfl⟩))
    (fun os started H enc _ F => by rw [OpenClaim.pre_eq_preRow]; exact lifted os started H enc F)
#print axioms proved
end Go.Proofs.Ytknjmkapabjolaa.fnSteps
