/-
  Proved: for every code, the law FnSureScores returns true, and the code reads as it did. No condition.
-/
import Derived.Test.YtlboglcpbbnbcabDrawWorst2
import Derived.Test.YtlboglcpbbnbcabSureFacts
import Derived.Test.YtlboglcpbbnbcabSpecPlaces
import Derived.Test.YtlboglcpbbnbcabImplPlaces
import Derived.Test.YtlboglcpbbnbcabImplSlideBoard
import Derived.Test.YtlboglcpbbnbcabBaseA
import Derived.Test.YtlboglcpbbnbcabClosed
import Derived.Deep.CutRange
namespace Go.Proofs.Ytlboglcpbbnbcab.fnSureScores
open Go.ChangeShapes Go.WideShapes Go.ChangeAt Go.RowKit Plain
attribute [local go_sem] store_new
set_option linter.unusedSimpArgs false
set_option linter.unusedVariables false
theorem neqB_self (f : Nat → Int) (w : World) : (binOp .neq 29 (.agg (mk 16 f)) (.agg (mk 16 f))).run Try.prog w = .ok (.bool false) w := by
  rw [neqB, sameB_iff.2 fun _ _ => rfl]; rfl
theorem eqA3 (d : Nat) (f : Nat → Int) (w : World) : (Op.equalIn (d + 2) 70 (.agg (mk 3 f)) (.agg (mk 3 f))).run Try.prog w = .ok true w := by
  cases hq : Try.prog.info? 3 with
  | none => have := size1; simp [hq] at this
  | some i =>
    rw [run_equalIn_array w (d + 1) (mk 3 f) (mk 3 f) Try.underlying70 hq, cells1]
    refine (items_all _ _ _ _ _ _ (fun c => .int .i64 (f c)) (fun c => .int .i64 (f c)) (fun c => f c == f c) _ fun c hc => ?_).trans ?_
    · have hc4 : c < 3 := List.mem_range.1 hc
      exact ⟨part_int Try.underlying3 f hc4 w, part_int Try.underlying3 f hc4 w, run_equalIn_int w d _ _ _ _ _ Try.underlying3⟩
    · simp
theorem neqA_self (f : Nat → Int) (w : World) : (binOp .neq 70 (.agg (mk 3 f)) (.agg (mk 3 f))).run Try.prog w = .ok (.bool false) w := by
  rw [run_neq_struct, eqA3 9998]; rfl
theorem krow_at {w : World} {g c n : Nat} {h : Nat → Int} (hr : KRow 3 w (.slice (some ⟨g, 0, none⟩) n c) n h) : CAt w g (n * 3) h ∧ True := by
  obtain ⟨_, _, e1, _, hc⟩ := hr
  cases e1
  exact ⟨hc, trivial⟩
set_option maxHeartbeats 16000000 in
set_option maxRecDepth 100000 in
theorem walk (w : World) (_ : w.ShapedOpen Try.prog) (a0 : Option Addr) (len0 cap0 : Nat) (z0 : List Int) (hr : IsRow .u8 w a0 len0 cap0 z0) :
    Calls Try.prog 10 #[.slice a0 len0 cap0] w fun e w' => e = .returned (.bool true) ∧ Below w.heap.size w w' := by
  have z16 := zero16
  have z3 := zero3
  have iNB := neqB_self
  have iNA := neqA_self
  have HR := Lib.hid hr
  have HB : Hid (Below w.heap.size w w) := Below.refl w.heap.size w
  clear hr
  by_cases hl : len0 ≤ 65536
  · have dl : decide ((65536 : Int) < (len0 : Int)) = false := by simp; omega
    go_enter Try.func10, Try.ntmps10
    go_wp2_with fail
    refine (rBig_any a0 len0 cap0 _).mono ?_
    rintro e w' ⟨rfl, rfl⟩
    rw [dl]
    clear dl
    go_wp2_with fail
    refine (drawSure_any a0 len0 cap0 _ hl (HR.out.code)).mono ?_
    rintro e w1 ⟨f, n, rfl, hb⟩
    replace HB : Hid (Below w.heap.size w w1) := HB.out.trans (hb.mono HB.out.size)
    clear hb
    have K3 := Blk.new (w1) 16 (f) 29
    replace HB : Hid (Below w.heap.size w ((w1).alloc (.cells (mk 16 (f)) 29))) := HB.out.alloc HB.out.size _
    obtain ⟨su, hsu⟩ : ∃ x, x = suR f n := ⟨_, rfl⟩
    obtain ⟨so, hso⟩ : ∃ x, x = suO f n := ⟨_, rfl⟩
    obtain ⟨S, hS⟩ : ∃ x, x = beR f n := ⟨_, rfl⟩
    have iSU := Lib.hid (implSureScore_any f n)
    have sSU := Lib.hid (specSureScore_any f n)
    have iBE := Lib.hid (implBestSure_any f n)
    have sBE := Lib.hid (specBestSure_any f n)
    have HBE := Lib.hid (best_score (f := f) (n := n))
    rw [← hsu, ← hso] at iSU sSU
    rw [← hS] at iBE sBE HBE
    rw [← hsu] at HBE
    clear hsu hso hS
    go_wp2_with (first | ((with_reducible show wpList _ _ _ (Oper.mk _ (Op.load 29 _) _ _ _ _ :: _) _ _); refine loadB (K3) rfl rfl rfl ?_) | ((with_reducible show wpList _ _ _ (Oper.mk _ (Op.load 29 _) _ _ _ (some _) :: _) _ _); refine loadgB (K3) rfl rfl rfl ?_))
    generalize w1.alloc (.cells (mk 16 (f)) 29) = w2 at *
    generalize w1.heap.size = b3 at *
    refine (iSU.out _).mono ?_
    rintro e w3 ⟨rfl, hb⟩
    replace K3 := K3.below hb K3.lt
    replace HB : Hid (Below w.heap.size w w3) := HB.out.trans (hb.mono HB.out.size)
    clear hb
    go_wp2_with (first | ((with_reducible show wpList _ _ _ (Oper.mk _ (Op.load 29 _) _ _ _ _ :: _) _ _); refine loadB (K3) rfl rfl rfl ?_) | ((with_reducible show wpList _ _ _ (Oper.mk _ (Op.load 29 _) _ _ _ (some _) :: _) _ _); refine loadgB (K3) rfl rfl rfl ?_))
    refine (sSU.out _).mono ?_
    rintro e w4 ⟨rfl, hb⟩
    replace K3 := K3.below hb K3.lt
    replace HB : Hid (Below w.heap.size w w4) := HB.out.trans (hb.mono HB.out.size)
    clear hb
    go_wp2_with (first | ((with_reducible show wpList _ _ _ (Oper.mk _ (Op.load 29 _) _ _ _ _ :: _) _ _); refine loadB (K3) rfl rfl rfl ?_) | ((with_reducible show wpList _ _ _ (Oper.mk _ (Op.load 29 _) _ _ _ (some _) :: _) _ _); refine loadgB (K3) rfl rfl rfl ?_))
    refine (iBE.out _).mono ?_
    rintro e w5 ⟨rfl, hb⟩
    replace K3 := K3.below hb K3.lt
    replace HB : Hid (Below w.heap.size w w5) := HB.out.trans (hb.mono HB.out.size)
    clear hb
    go_wp2_with (first | ((with_reducible show wpList _ _ _ (Oper.mk _ (Op.load 29 _) _ _ _ _ :: _) _ _); refine loadB (K3) rfl rfl rfl ?_) | ((with_reducible show wpList _ _ _ (Oper.mk _ (Op.load 29 _) _ _ _ (some _) :: _) _ _); refine loadgB (K3) rfl rfl rfl ?_))
    refine (sBE.out _).mono ?_
    rintro e w6 ⟨rfl, hb⟩
    replace K3 := K3.below hb K3.lt
    replace HB : Hid (Below w.heap.size w w6) := HB.out.trans (hb.mono HB.out.size)
    clear hb
    go_wp2_with fail
    refine (drawReply_any a0 len0 cap0 _ hl (HR.out.code.later HB.out)).mono ?_
    rintro e w7 ⟨g, d, k, rfl, hb⟩
    replace K3 := K3.below hb K3.lt
    replace HB : Hid (Below w.heap.size w w7) := HB.out.trans (hb.mono HB.out.size)
    clear hb
    have K13 := Blk.new (w7) 16 (g) 29
    replace K3 := K3.alloc (.cells (mk 16 (g)) 29)
    replace HB : Hid (Below w.heap.size w ((w7).alloc (.cells (mk 16 (g)) 29))) := HB.out.alloc HB.out.size _
    obtain ⟨R, hRR⟩ : ∃ x, x = rpR g d k := ⟨_, rfl⟩
    obtain ⟨ro, hro⟩ : ∃ x, x = rpO g d k := ⟨_, rfl⟩
    obtain ⟨V, hV⟩ : ∃ x, x = vdO g := ⟨_, rfl⟩
    have iRP := Lib.hid (implReply_any g d k)
    have sRP := Lib.hid (specReply_any g d k)
    have iPL : Hid (∀ W, Calls Try.prog 74 #[.agg (mk 16 g)] W fun e w' => ∃ b c, e = .returned (.tuple #[.slice (some ⟨b, 0, none⟩) (plR g).length c, .bool (vdO g)]) ∧ KRow 3 w' (.slice (some ⟨b, 0, none⟩) (plR g).length c) (plR g).length (flatF (plR g)) ∧ Below W.heap.size W w') :=
      fun W => (implPlaces_any g W).mono fun e w' ⟨b, c, r1, r2, r3⟩ => ⟨b, c, r1, KRow.of_list (plR_all g) r2, r3⟩
    have sPL : Hid (∀ W, Calls Try.prog 75 #[.agg (mk 16 g)] W fun e w' => ∃ b c, e = .returned (.tuple #[.slice (some ⟨b, 0, none⟩) (plR g).length c, .bool (vdO g)]) ∧ KRow 3 w' (.slice (some ⟨b, 0, none⟩) (plR g).length c) (plR g).length (flatF (plR g)) ∧ Below W.heap.size W w') :=
      fun W => (specPlaces_any g W).mono fun e w' ⟨b, c, r1, r2, r3⟩ => ⟨b, c, r1, KRow.of_list (plR_all g) r2, r3⟩
    have HRP := Lib.hid (reply_score (g := g) (d := d) (m := k))
    have hPN := plR_le g
    rw [← hV] at iPL sPL
    rw [← hRR, ← hro] at iRP sRP
    rw [← hRR, ← hro] at HRP
    generalize (plR g).length = N at *
    generalize flatF (plR g) = H at *
    clear hRR hro hV
    go_wp2_with (first | ((with_reducible show wpList _ _ _ (Oper.mk _ (Op.load 29 _) _ _ _ _ :: _) _ _); refine loadB (K3) rfl rfl rfl ?_) | ((with_reducible show wpList _ _ _ (Oper.mk _ (Op.load 29 _) _ _ _ (some _) :: _) _ _); refine loadgB (K3) rfl rfl rfl ?_) | ((with_reducible show wpList _ _ _ (Oper.mk _ (Op.load 29 _) _ _ _ _ :: _) _ _); refine loadB (K13) rfl rfl rfl ?_) | ((with_reducible show wpList _ _ _ (Oper.mk _ (Op.load 29 _) _ _ _ (some _) :: _) _ _); refine loadgB (K13) rfl rfl rfl ?_))
    generalize (w7).alloc (.cells (mk 16 (g)) 29) = w8 at *
    generalize w7.heap.size = b13 at *
    refine (iRP.out _).mono ?_
    rintro e w9 ⟨rfl, hb⟩
    replace K3 := K3.below hb K3.lt
    replace K13 := K13.below hb K13.lt
    replace HB : Hid (Below w.heap.size w w9) := HB.out.trans (hb.mono HB.out.size)
    clear hb
    have K16 := Blk.new (w9) 3 (plF R.p) 70
    replace K3 := K3.alloc (.cells (mk 3 (plF R.p)) 70)
    replace K13 := K13.alloc (.cells (mk 3 (plF R.p)) 70)
    replace HB : Hid (Below w.heap.size w ((w9).alloc (.cells (mk 3 (plF R.p)) 70))) := HB.out.alloc HB.out.size _
    go_wp2_with (first | ((with_reducible show wpList _ _ _ (Oper.mk _ (Op.load 29 _) _ _ _ _ :: _) _ _); refine loadB (K13) rfl rfl rfl ?_) | ((with_reducible show wpList _ _ _ (Oper.mk _ (Op.load 29 _) _ _ _ (some _) :: _) _ _); refine loadgB (K13) rfl rfl rfl ?_) | ((with_reducible show wpList _ _ _ (Oper.mk _ (Op.load 29 _) _ _ _ _ :: _) _ _); refine loadB (K3) rfl rfl rfl ?_) | ((with_reducible show wpList _ _ _ (Oper.mk _ (Op.load 29 _) _ _ _ (some _) :: _) _ _); refine loadgB (K3) rfl rfl rfl ?_))
    generalize (w9).alloc (.cells (mk 3 (plF R.p)) 70) = w10 at *
    generalize w9.heap.size = b16 at *
    refine (sRP.out _).mono ?_
    rintro e w11 ⟨rfl, hb⟩
    replace K3 := K3.below hb K3.lt
    replace K13 := K13.below hb K13.lt
    replace K16 := K16.below hb K16.lt
    replace HB : Hid (Below w.heap.size w w11) := HB.out.trans (hb.mono HB.out.size)
    clear hb
    have K19 := Blk.new (w11) 3 (plF R.p) 70
    replace K3 := K3.alloc (.cells (mk 3 (plF R.p)) 70)
    replace K13 := K13.alloc (.cells (mk 3 (plF R.p)) 70)
    replace K16 := K16.alloc (.cells (mk 3 (plF R.p)) 70)
    replace HB : Hid (Below w.heap.size w ((w11).alloc (.cells (mk 3 (plF R.p)) 70))) := HB.out.alloc HB.out.size _
    go_wp2_with (first | ((with_reducible show wpList _ _ _ (Oper.mk _ (Op.load 70 _) _ _ _ _ :: _) _ _); refine loadA (K16) rfl rfl rfl ?_) | ((with_reducible show wpList _ _ _ (Oper.mk _ (Op.load 70 _) _ _ _ (some _) :: _) _ _); refine loadgA (K16) rfl rfl rfl ?_) | ((with_reducible show wpList _ _ _ (Oper.mk _ (Op.load 70 _) _ _ _ _ :: _) _ _); refine loadA (K19) rfl rfl rfl ?_) | ((with_reducible show wpList _ _ _ (Oper.mk _ (Op.load 70 _) _ _ _ (some _) :: _) _ _); refine loadgA (K19) rfl rfl rfl ?_) | ((with_reducible show wpList _ _ _ (Oper.mk _ (Op.load 29 _) _ _ _ _ :: _) _ _); refine loadB (K13) rfl rfl rfl ?_) | ((with_reducible show wpList _ _ _ (Oper.mk _ (Op.load 29 _) _ _ _ (some _) :: _) _ _); refine loadgB (K13) rfl rfl rfl ?_))
    clear K19
    generalize (w11).alloc (.cells (mk 3 (plF R.p)) 70) = w12 at *
    refine (iPL.out _).mono ?_
    rintro e w13 ⟨g1, c1, rfl, hrow, hb⟩
    replace K3 := K3.below hb K3.lt
    replace K13 := K13.below hb K13.lt
    replace K16 := K16.below hb K16.lt
    replace HB : Hid (Below w.heap.size w w13) := HB.out.trans (hb.mono HB.out.size)
    clear hb
    have R1 := Lib.hid hrow
    clear hrow
    go_wp2_with (first | ((with_reducible show wpList _ _ _ (Oper.mk _ (Op.load 29 _) _ _ _ _ :: _) _ _); refine loadB (K13) rfl rfl rfl ?_) | ((with_reducible show wpList _ _ _ (Oper.mk _ (Op.load 29 _) _ _ _ (some _) :: _) _ _); refine loadgB (K13) rfl rfl rfl ?_))
    refine (sPL.out _).mono ?_
    rintro e w14 ⟨g2, c2, rfl, hrow, hb⟩
    replace K3 := K3.below hb K3.lt
    replace K13 := K13.below hb K13.lt
    replace K16 := K16.below hb K16.lt
    replace R1 := Lib.hid (R1.out.below hb)
    replace HB : Hid (Below w.heap.size w w14) := HB.out.trans (hb.mono HB.out.size)
    clear hb
    have R2 := Lib.hid hrow
    clear hrow
    go_wp2_with fail
    have hN2 : N ≤ 32 := hPN
    go_loopg [26] N (fun gk s26 wr => ∃ i : Nat, i + gk = N ∧ s26 = .int .i64 i ∧ Blk wr b3 16 f 29 ∧ Blk wr b13 16 g 29 ∧ Blk wr b16 3 (plF R.p) 70 ∧ Hid (KRow 3 wr (.slice (some ⟨g1, 0, none⟩) N c1) N H) ∧ Hid (KRow 3 wr (.slice (some ⟨g2, 0, none⟩) N c2) N H) ∧ Hid (Below w.heap.size w wr))
    case atStart => exact ⟨0, by omega, rfl, K3, K13, K16, R1, R2, HB⟩
    case round =>
      clear K3 K13 K16 R1 R2 HB
      obtain ⟨i, hig, rfl, K3, K13, K16, R1, R2, HB⟩ := hrel
      cases gk with
      | succ gk2 =>
        have hi8 : (i : Int) < (N : Int) := by omega
        have hi9 : i < N := by omega
        have hi0 : (0 : Int) ≤ (i : Int) := by omega
        obtain ⟨C1, rfl1⟩ := krow_at R1.out
        obtain ⟨C2, rfl2⟩ := krow_at R2.out
        go_wp2_with fail
        refine wp_region_held_drew (S := fun W => CAt W g1 (N * 3) H ∧ CAt W g2 (N * 3) H) (by kernel_rfl) (⟨C1.drew, C2.drew⟩) (fun hHeld => ?_)
        replace K3 : Blk wr.drew b3 16 f 29 := K3.drew
        replace K13 : Blk wr.drew b13 16 g 29 := K13.drew
        replace K16 : Blk wr.drew b16 3 (plF R.p) 70 := K16.drew
        replace R1 : Hid (KRow 3 wr.drew (.slice (some ⟨g1, 0, none⟩) N c1) N H) := R1.out.below ((Below.refl _ _).drew)
        replace R2 : Hid (KRow 3 wr.drew (.slice (some ⟨g2, 0, none⟩) N c2) N H) := R2.out.below ((Below.refl _ _).drew)
        replace HB : Hid (Below w.heap.size w wr.drew) := HB.out.drew
        clear C1 C2
        generalize wr.drew = x0 at *
        refine wpAnyH_take (i := 0) (oi := { dst := some 154, op := _, type := _, pos := _, after := _, guard := _ }) (v := .slice (some ⟨g1, 0, none⟩) N c1) rfl (by kernel_rfl) (by kernel_rfl) (by kernel_rfl) (fun _ _ _ h => h) (Or.inl ⟨by rfl, by intro w hSw; clear hSw; go_simp; (try with_reducible rfl)⟩) (by assumption) ?_
        try simp only [Act.put, List.setIfInBounds_toArray, List.set_cons_zero, List.set_cons_succ]
        refine wpAnyH_take (i := 1) (oi := { dst := some 155, op := _, type := _, pos := _, after := _, guard := _ }) (v := .int .i64 (i : Int)) rfl (by kernel_rfl) (by kernel_rfl) (by kernel_rfl) (fun _ _ _ h => h) (Or.inl ⟨by rfl, by intro w hSw; clear hSw; go_simp; (try with_reducible rfl)⟩) (by assumption) ?_
        try simp only [Act.put, List.setIfInBounds_toArray, List.set_cons_zero, List.set_cons_succ]
        refine wpAnyH_take (i := 2) (oi := { dst := some 156, op := _, type := _, pos := _, after := _, guard := _ }) (v := .pointer (some ⟨g1, i * 3, none⟩)) rfl (by kernel_rfl) (by kernel_rfl) (by kernel_rfl) (fun _ _ _ h => h) (Or.inl ⟨by rfl, by intro w hSw; clear hSw; go_simp; (try with_reducible rfl)⟩) (by assumption) ?_
        try simp only [Act.put, List.setIfInBounds_toArray, List.set_cons_zero, List.set_cons_succ]
        refine wpAnyH_take (i := 3) (oi := { dst := some 157, op := _, type := _, pos := _, after := _, guard := _ }) (v := .agg (mk 3 (fun j => H (i * 3 + j)))) rfl (by kernel_rfl) (by kernel_rfl) (by kernel_rfl) (fun _ _ _ h => h) (Or.inl ⟨by rfl, fun _ q => execAA q.1 (by omega) rfl rfl⟩) (by assumption) ?_
        try simp only [Act.put, List.setIfInBounds_toArray, List.set_cons_zero, List.set_cons_succ]
        refine wpAnyH_take (i := 4) (oi := { dst := some 158, op := _, type := _, pos := _, after := _, guard := _ }) (v := .slice (some ⟨g2, 0, none⟩) N c2) rfl (by kernel_rfl) (by kernel_rfl) (by kernel_rfl) (fun _ _ _ h => h) (Or.inl ⟨by rfl, by intro w hSw; clear hSw; go_simp; (try with_reducible rfl)⟩) (by assumption) ?_
        try simp only [Act.put, List.setIfInBounds_toArray, List.set_cons_zero, List.set_cons_succ]
        refine wpAnyH_take (i := 5) (oi := { dst := some 159, op := _, type := _, pos := _, after := _, guard := _ }) (v := .int .i64 (i : Int)) rfl (by kernel_rfl) (by kernel_rfl) (by kernel_rfl) (fun _ _ _ h => h) (Or.inl ⟨by rfl, by intro w hSw; clear hSw; go_simp; (try with_reducible rfl)⟩) (by assumption) ?_
        try simp only [Act.put, List.setIfInBounds_toArray, List.set_cons_zero, List.set_cons_succ]
        refine wpAnyH_take (i := 6) (oi := { dst := some 160, op := _, type := _, pos := _, after := _, guard := _ }) (v := .pointer (some ⟨g2, i * 3, none⟩)) rfl (by kernel_rfl) (by kernel_rfl) (by kernel_rfl) (fun _ _ _ h => h) (Or.inl ⟨by rfl, by intro w hSw; clear hSw; go_simp; (try with_reducible rfl)⟩) (by assumption) ?_
        try simp only [Act.put, List.setIfInBounds_toArray, List.set_cons_zero, List.set_cons_succ]
        refine wpAnyH_take (i := 7) (oi := { dst := some 161, op := _, type := _, pos := _, after := _, guard := _ }) (v := .agg (mk 3 (fun j => H (i * 3 + j)))) rfl (by kernel_rfl) (by kernel_rfl) (by kernel_rfl) (fun _ _ _ h => h) (Or.inl ⟨by rfl, fun _ q => execAA q.2 (by omega) rfl rfl⟩) (by assumption) ?_
        try simp only [Act.put, List.setIfInBounds_toArray, List.set_cons_zero, List.set_cons_succ]
        refine wpAnyH_take (i := 8) (oi := { dst := some 162, op := _, type := _, pos := _, after := _, guard := _ }) (v := .bool false) rfl (by kernel_rfl) (by kernel_rfl) (by kernel_rfl) (fun _ _ _ h => h) (Or.inl ⟨by rfl, by intro W hSw; clear hSw; have hn := neqA_self (fun j => H (i * 3 + j)) W; go_simp⟩) (by assumption) ?_
        try simp only [Act.put, List.setIfInBounds_toArray, List.set_cons_zero, List.set_cons_succ]
        refine wpAnyH_done (by kernel_rfl) ?_ _
        clear hHeld
        go_wp2_with fail
        go_roundg gk2
        case rel => exact ⟨i + 1, by omega, by go_num, K3, K13, K16, R1, R2, HB⟩
        case measure => omega
      | zero =>
        have hi : ¬ ((i : Int) < (N : Int)) := by omega
        obtain rfl : i = N := by omega
        clear hig R1 R2 hi
        go_wp2_with fail
        refine (drawPlace_any a0 len0 cap0 _ hl (HR.out.code.later HB.out)).mono ?_
        rintro e w41 ⟨e0, p0, rfl, hb⟩
        replace K3 := K3.below hb K3.lt
        replace K13 := K13.below hb K13.lt
        replace K16 := K16.below hb K16.lt
        replace HB : Hid (Below w.heap.size w w41) := HB.out.trans (hb.mono HB.out.size)
        clear hb
        have l3 := K3.lt
        have l13 := K13.lt
        have l16 := K16.lt
        have hsw := HB.out.size
        have Z27 := (Blk.new w41 16 (fun _ => 0) 29).alloc (.cells (mk 3 fun _ => 0) 70)
        have Z28 := Blk.new (w41.alloc (.cells (mk 16 fun _ => 0) 29)) 3 (fun _ => 0) 70
        simp only [World.size_alloc] at Z28
        replace K3 := (((K3.alloc (.cells (mk 16 fun _ => 0) 29)).alloc (.cells (mk 3 fun _ => 0) 70)).rowOther w41.heap.size (mk 16 e0) (by omega)).rowOther (w41.heap.size + 1) (mk 3 p0) (by omega)
        replace K13 := (((K13.alloc (.cells (mk 16 fun _ => 0) 29)).alloc (.cells (mk 3 fun _ => 0) 70)).rowOther w41.heap.size (mk 16 e0) (by omega)).rowOther (w41.heap.size + 1) (mk 3 p0) (by omega)
        replace K16 := (((K16.alloc (.cells (mk 16 fun _ => 0) 29)).alloc (.cells (mk 3 fun _ => 0) 70)).rowOther w41.heap.size (mk 16 e0) (by omega)).rowOther (w41.heap.size + 1) (mk 3 p0) (by omega)
        replace HB : Hid (Below w.heap.size w ((((w41.alloc (.cells (mk 16 fun _ => 0) 29)).alloc (.cells (mk 3 fun _ => 0) 70)).setRow w41.heap.size (mk 16 e0)).setRow (w41.heap.size + 1) (mk 3 p0))) :=
          below_setRow (below_setRow ((HB.out.alloc HB.out.size _).alloc (by simp; omega) _) (by omega) _) (by omega) _
        have K27 := (Z27.row 16 e0).rowOther (w41.heap.size + 1) (mk 3 p0) (by omega)
        have Y28 := Z28.rowOther w41.heap.size (mk 16 e0) (by omega)
        have K28 := Y28.row 3 p0
        obtain ⟨PB, hPB⟩ : ∃ x, x = ptB e0 p0 := ⟨_, rfl⟩
        obtain ⟨PO, hPO⟩ : ∃ x, x = ptO e0 p0 := ⟨_, rfl⟩
        have iPT := Lib.hid (implPt_any e0 p0)
        have sPT := Lib.hid (specPt_any e0 p0)
        rw [← hPB, ← hPO] at iPT sPT
        clear hPB hPO
        go_wp2_with (first | ((with_reducible show wpList _ _ _ (Oper.mk _ (Op.store 29 _ _) _ _ _ _ :: _) _ _); refine storeB (Z27) rfl rfl rfl rfl ?_) | ((with_reducible show wpList _ _ _ (Oper.mk _ (Op.store 70 _ _) _ _ _ _ :: _) _ _); refine storeA (Y28) rfl rfl rfl rfl ?_) | ((with_reducible show wpList _ _ _ (Oper.mk _ (Op.load 29 _) _ _ _ _ :: _) _ _); refine loadB (K27) rfl rfl rfl ?_) | ((with_reducible show wpList _ _ _ (Oper.mk _ (Op.load 29 _) _ _ _ (some _) :: _) _ _); refine loadgB (K27) rfl rfl rfl ?_) | ((with_reducible show wpList _ _ _ (Oper.mk _ (Op.load 70 _) _ _ _ _ :: _) _ _); refine loadA (K28) rfl rfl rfl ?_) | ((with_reducible show wpList _ _ _ (Oper.mk _ (Op.load 70 _) _ _ _ (some _) :: _) _ _); refine loadgA (K28) rfl rfl rfl ?_))
        clear Z27 Y28 Z28 l3 l13 l16 hsw
        generalize (((w41.alloc (.cells (mk 16 fun _ => 0) 29)).alloc (.cells (mk 3 fun _ => 0) 70)).setRow w41.heap.size (mk 16 e0)).setRow (w41.heap.size + 1) (mk 3 p0) = w60 at *
        refine (iPT.out _).mono ?_
        rintro e w61 ⟨rfl, hb⟩
        replace K3 := K3.below hb K3.lt
        replace K13 := K13.below hb K13.lt
        replace K16 := K16.below hb K16.lt
        replace K27 := K27.below hb K27.lt
        replace K28 := K28.below hb K28.lt
        replace HB : Hid (Below w.heap.size w w61) := HB.out.trans (hb.mono HB.out.size)
        clear hb
        have K29 := Blk.new (w61) 16 (PB) 29
        replace K3 := K3.alloc (.cells (mk 16 (PB)) 29)
        replace K13 := K13.alloc (.cells (mk 16 (PB)) 29)
        replace K16 := K16.alloc (.cells (mk 16 (PB)) 29)
        replace K27 := K27.alloc (.cells (mk 16 (PB)) 29)
        replace K28 := K28.alloc (.cells (mk 16 (PB)) 29)
        replace HB : Hid (Below w.heap.size w ((w61).alloc (.cells (mk 16 (PB)) 29))) := HB.out.alloc HB.out.size _
        go_wp2_with (first | ((with_reducible show wpList _ _ _ (Oper.mk _ (Op.load 29 _) _ _ _ _ :: _) _ _); refine loadB (K27) rfl rfl rfl ?_) | ((with_reducible show wpList _ _ _ (Oper.mk _ (Op.load 29 _) _ _ _ (some _) :: _) _ _); refine loadgB (K27) rfl rfl rfl ?_) | ((with_reducible show wpList _ _ _ (Oper.mk _ (Op.load 70 _) _ _ _ _ :: _) _ _); refine loadA (K28) rfl rfl rfl ?_) | ((with_reducible show wpList _ _ _ (Oper.mk _ (Op.load 70 _) _ _ _ (some _) :: _) _ _); refine loadgA (K28) rfl rfl rfl ?_))
        generalize (w61).alloc (.cells (mk 16 (PB)) 29) = w70 at *
        refine (sPT.out _).mono ?_
        rintro e w71 ⟨rfl, hb⟩
        replace K3 := K3.below hb K3.lt
        replace K13 := K13.below hb K13.lt
        replace K16 := K16.below hb K16.lt
        replace K27 := K27.below hb K27.lt
        replace K28 := K28.below hb K28.lt
        replace K29 := K29.below hb K29.lt
        replace HB : Hid (Below w.heap.size w w71) := HB.out.trans (hb.mono HB.out.size)
        clear hb
        have K31 := Blk.new (w71) 16 (PB) 29
        replace K3 := K3.alloc (.cells (mk 16 (PB)) 29)
        replace K13 := K13.alloc (.cells (mk 16 (PB)) 29)
        replace K16 := K16.alloc (.cells (mk 16 (PB)) 29)
        replace K27 := K27.alloc (.cells (mk 16 (PB)) 29)
        replace K28 := K28.alloc (.cells (mk 16 (PB)) 29)
        replace K29 := K29.alloc (.cells (mk 16 (PB)) 29)
        replace HB : Hid (Below w.heap.size w ((w71).alloc (.cells (mk 16 (PB)) 29))) := HB.out.alloc HB.out.size _
        cases ro with
        | true =>
          obtain ⟨s1, s2, hVs, p, hp, rfl, u1, u2⟩ := HRP.out rfl
          obtain ⟨t1, t2⟩ := place_put hVs hp
          have iSL := Lib.hid (implSlide_any g d)
          rw [s1, s2] at iSL
          have iP2 := Lib.hid (implPt_any (slideB g d.toNat) (plF R.p))
          rw [t1, t2] at iP2
          have iS2 := Lib.hid (implSureScore_any (plB (slideB g d.toNat) R.p) k)
          rw [u1, u2] at iS2
          clear s1 s2 hVs hp u1 u2 t1 t2 HRP
          generalize plB (slideB g d.toNat) R.p = X2 at *
          generalize slideB g d.toNat = X1 at *
          generalize slideRS g d = sc at *
          go_wp2_with (first | ((with_reducible show wpList _ _ _ (Oper.mk _ (Op.load 29 _) _ _ _ _ :: _) _ _); refine loadB (K29) rfl rfl rfl ?_) | ((with_reducible show wpList _ _ _ (Oper.mk _ (Op.load 29 _) _ _ _ (some _) :: _) _ _); refine loadgB (K29) rfl rfl rfl ?_) | ((with_reducible show wpList _ _ _ (Oper.mk _ (Op.load 29 _) _ _ _ _ :: _) _ _); refine loadB (K31) rfl rfl rfl ?_) | ((with_reducible show wpList _ _ _ (Oper.mk _ (Op.load 29 _) _ _ _ (some _) :: _) _ _); refine loadgB (K31) rfl rfl rfl ?_) | ((with_reducible show wpList _ _ _ (Oper.mk _ (Op.load 29 _) _ _ _ _ :: _) _ _); refine loadB (K13) rfl rfl rfl ?_) | ((with_reducible show wpList _ _ _ (Oper.mk _ (Op.load 29 _) _ _ _ (some _) :: _) _ _); refine loadgB (K13) rfl rfl rfl ?_))
          generalize (w71).alloc (.cells (mk 16 (PB)) 29) = w80 at *
          refine (iSL.out _).mono ?_
          rintro e w81 ⟨rfl, hb⟩
          replace K3 := K3.below hb K3.lt
          replace K13 := K13.below hb K13.lt
          replace K16 := K16.below hb K16.lt
          replace K27 := K27.below hb K27.lt
          replace K28 := K28.below hb K28.lt
          replace K29 := K29.below hb K29.lt
          replace K31 := K31.below hb K31.lt
          replace HB : Hid (Below w.heap.size w w81) := HB.out.trans (hb.mono HB.out.size)
          clear hb
          clear K27
          clear K28
          clear K29
          clear K31
          have K33 := Blk.new (w81) 16 (X1) 29
          replace K3 := K3.alloc (.cells (mk 16 (X1)) 29)
          replace K13 := K13.alloc (.cells (mk 16 (X1)) 29)
          replace K16 := K16.alloc (.cells (mk 16 (X1)) 29)
          replace HB : Hid (Below w.heap.size w ((w81).alloc (.cells (mk 16 (X1)) 29))) := HB.out.alloc HB.out.size _
          go_wp2_with (first | ((with_reducible show wpList _ _ _ (Oper.mk _ (Op.load 29 _) _ _ _ _ :: _) _ _); refine loadB (K33) rfl rfl rfl ?_) | ((with_reducible show wpList _ _ _ (Oper.mk _ (Op.load 29 _) _ _ _ (some _) :: _) _ _); refine loadgB (K33) rfl rfl rfl ?_) | ((with_reducible show wpList _ _ _ (Oper.mk _ (Op.load 70 _) _ _ _ _ :: _) _ _); refine loadA (K16) rfl rfl rfl ?_) | ((with_reducible show wpList _ _ _ (Oper.mk _ (Op.load 70 _) _ _ _ (some _) :: _) _ _); refine loadgA (K16) rfl rfl rfl ?_))
          generalize (w81).alloc (.cells (mk 16 (X1)) 29) = w90 at *
          refine (iP2.out _).mono ?_
          rintro e w91 ⟨rfl, hb⟩
          replace K3 := K3.below hb K3.lt
          replace K13 := K13.below hb K13.lt
          replace K16 := K16.below hb K16.lt
          replace K33 := K33.below hb K33.lt
          replace HB : Hid (Below w.heap.size w w91) := HB.out.trans (hb.mono HB.out.size)
          clear hb
          clear K33
          have K36 := Blk.new (w91) 16 (X2) 29
          replace K3 := K3.alloc (.cells (mk 16 (X2)) 29)
          replace K13 := K13.alloc (.cells (mk 16 (X2)) 29)
          replace K16 := K16.alloc (.cells (mk 16 (X2)) 29)
          replace HB : Hid (Below w.heap.size w ((w91).alloc (.cells (mk 16 (X2)) 29))) := HB.out.alloc HB.out.size _
          go_wp2_with (first | ((with_reducible show wpList _ _ _ (Oper.mk _ (Op.load 29 _) _ _ _ _ :: _) _ _); refine loadB (K36) rfl rfl rfl ?_) | ((with_reducible show wpList _ _ _ (Oper.mk _ (Op.load 29 _) _ _ _ (some _) :: _) _ _); refine loadgB (K36) rfl rfl rfl ?_))
          generalize (w91).alloc (.cells (mk 16 (X2)) 29) = w100 at *
          refine (iS2.out _).mono ?_
          rintro e w101 ⟨rfl, hb⟩
          replace K3 := K3.below hb K3.lt
          replace K13 := K13.below hb K13.lt
          replace K16 := K16.below hb K16.lt
          replace K36 := K36.below hb K36.lt
          replace HB : Hid (Below w.heap.size w w101) := HB.out.trans (hb.mono HB.out.size)
          clear hb
          clear K36
          cases ho : S.ok with
          | false =>
            try rw [ho]
            clear ho
            go_wp2_with fail
            go_ret
            exact ⟨rfl, HB.out⟩
          | true =>
            obtain ⟨h1, h2, q1, q2, q3, ⟨q4, q5⟩, q6, q7⟩ := HBE.out ho
            try rw [ho]
            clear ho
            have iSF := Lib.hid (implSlide_any f (S.d : Int))
            have iRF := Lib.hid (implReply_any f (S.d : Int) (n - 1))
            rw [q1] at iSF
            rw [q2] at iRF
            generalize slideRB f (S.d : Int) = Y1 at *
            generalize slideRS f (S.d : Int) = sc1 at *
            generalize rpR f (S.d : Int) (n - 1) = R2 at *
            clear q1 q2
            go_wp2_with (first | ((with_reducible show wpList _ _ _ (Oper.mk _ (Op.load 29 _) _ _ _ _ :: _) _ _); refine loadB (K3) rfl rfl rfl ?_) | ((with_reducible show wpList _ _ _ (Oper.mk _ (Op.load 29 _) _ _ _ (some _) :: _) _ _); refine loadgB (K3) rfl rfl rfl ?_))
            refine (iSF.out _).mono ?_
            rintro e w111 ⟨rfl, hb⟩
            replace K3 := K3.below hb K3.lt
            replace HB : Hid (Below w.heap.size w w111) := HB.out.trans (hb.mono HB.out.size)
            clear hb
            have K40 := Blk.new (w111) 16 (Y1) 29
            replace K3 := K3.alloc (.cells (mk 16 (Y1)) 29)
            replace HB : Hid (Below w.heap.size w ((w111).alloc (.cells (mk 16 (Y1)) 29))) := HB.out.alloc HB.out.size _
            go_wp2_with (first | ((with_reducible show wpList _ _ _ (Oper.mk _ (Op.load 29 _) _ _ _ _ :: _) _ _); refine loadB (K3) rfl rfl rfl ?_) | ((with_reducible show wpList _ _ _ (Oper.mk _ (Op.load 29 _) _ _ _ (some _) :: _) _ _); refine loadgB (K3) rfl rfl rfl ?_))
            generalize (w111).alloc (.cells (mk 16 (Y1)) 29) = w112 at *
            refine (iRF.out _).mono ?_
            rintro e w113 ⟨rfl, hb⟩
            replace K3 := K3.below hb K3.lt
            replace K40 := K40.below hb K40.lt
            replace HB : Hid (Below w.heap.size w w113) := HB.out.trans (hb.mono HB.out.size)
            clear hb
            clear K40
            replace HB : Hid (Below w.heap.size w (w113.alloc (.cells (mk 3 (plF R2.p)) 70))) := HB.out.alloc HB.out.size _
            generalize R2.v = rv at *
            have q8 : ((sc1 + rv : Int) == su) = true := by rw [q3]; exact beq_self_eq_true su
            go_wp2_with fail
            go_ret
            exact ⟨rfl, HB.out⟩
        | false =>
          clear HRP
          cases ho : S.ok with
          | false =>
            try rw [ho]
            clear ho
            go_wp2_with (first | ((with_reducible show wpList _ _ _ (Oper.mk _ (Op.load 29 _) _ _ _ _ :: _) _ _); refine loadB (K29) rfl rfl rfl ?_) | ((with_reducible show wpList _ _ _ (Oper.mk _ (Op.load 29 _) _ _ _ (some _) :: _) _ _); refine loadgB (K29) rfl rfl rfl ?_) | ((with_reducible show wpList _ _ _ (Oper.mk _ (Op.load 29 _) _ _ _ _ :: _) _ _); refine loadB (K31) rfl rfl rfl ?_) | ((with_reducible show wpList _ _ _ (Oper.mk _ (Op.load 29 _) _ _ _ (some _) :: _) _ _); refine loadgB (K31) rfl rfl rfl ?_))
            go_ret
            exact ⟨rfl, HB.out⟩
          | true =>
            obtain ⟨h1, h2, q1, q2, q3, ⟨q4, q5⟩, q6, q7⟩ := HBE.out ho
            try rw [ho]
            clear ho
            have iSF := Lib.hid (implSlide_any f (S.d : Int))
            have iRF := Lib.hid (implReply_any f (S.d : Int) (n - 1))
            rw [q1] at iSF
            rw [q2] at iRF
            generalize slideRB f (S.d : Int) = Y1 at *
            generalize slideRS f (S.d : Int) = sc1 at *
            generalize rpR f (S.d : Int) (n - 1) = R2 at *
            clear q1 q2
            go_wp2_with (first | ((with_reducible show wpList _ _ _ (Oper.mk _ (Op.load 29 _) _ _ _ _ :: _) _ _); refine loadB (K29) rfl rfl rfl ?_) | ((with_reducible show wpList _ _ _ (Oper.mk _ (Op.load 29 _) _ _ _ (some _) :: _) _ _); refine loadgB (K29) rfl rfl rfl ?_) | ((with_reducible show wpList _ _ _ (Oper.mk _ (Op.load 29 _) _ _ _ _ :: _) _ _); refine loadB (K31) rfl rfl rfl ?_) | ((with_reducible show wpList _ _ _ (Oper.mk _ (Op.load 29 _) _ _ _ (some _) :: _) _ _); refine loadgB (K31) rfl rfl rfl ?_) | ((with_reducible show wpList _ _ _ (Oper.mk _ (Op.load 29 _) _ _ _ _ :: _) _ _); refine loadB (K3) rfl rfl rfl ?_) | ((with_reducible show wpList _ _ _ (Oper.mk _ (Op.load 29 _) _ _ _ (some _) :: _) _ _); refine loadgB (K3) rfl rfl rfl ?_))
            generalize (w71).alloc (.cells (mk 16 (PB)) 29) = w110 at *
            clear K13 K16 K27 K28 K29 K31
            refine (iSF.out _).mono ?_
            rintro e w111 ⟨rfl, hb⟩
            replace K3 := K3.below hb K3.lt
            replace HB : Hid (Below w.heap.size w w111) := HB.out.trans (hb.mono HB.out.size)
            clear hb
            have K40 := Blk.new (w111) 16 (Y1) 29
            replace K3 := K3.alloc (.cells (mk 16 (Y1)) 29)
            replace HB : Hid (Below w.heap.size w ((w111).alloc (.cells (mk 16 (Y1)) 29))) := HB.out.alloc HB.out.size _
            go_wp2_with (first | ((with_reducible show wpList _ _ _ (Oper.mk _ (Op.load 29 _) _ _ _ _ :: _) _ _); refine loadB (K3) rfl rfl rfl ?_) | ((with_reducible show wpList _ _ _ (Oper.mk _ (Op.load 29 _) _ _ _ (some _) :: _) _ _); refine loadgB (K3) rfl rfl rfl ?_))
            generalize (w111).alloc (.cells (mk 16 (Y1)) 29) = w112 at *
            refine (iRF.out _).mono ?_
            rintro e w113 ⟨rfl, hb⟩
            replace K3 := K3.below hb K3.lt
            replace K40 := K40.below hb K40.lt
            replace HB : Hid (Below w.heap.size w w113) := HB.out.trans (hb.mono HB.out.size)
            clear hb
            clear K40
            replace HB : Hid (Below w.heap.size w (w113.alloc (.cells (mk 3 (plF R2.p)) 70))) := HB.out.alloc HB.out.size _
            generalize R2.v = rv at *
            have q8 : ((sc1 + rv : Int) == su) = true := by rw [q3]; exact beq_self_eq_true su
            go_wp2_with fail
            go_ret
            exact ⟨rfl, HB.out⟩
  · have dl : decide ((65536 : Int) < (len0 : Int)) = true := by simp; omega
    go_enter Try.func10, Try.ntmps10
    go_wp2_with fail
    refine (rBig_any a0 len0 cap0 _).mono ?_
    rintro e w' ⟨rfl, rfl⟩
    rw [dl]
    go_wp2_with fail
    go_ret
    exact ⟨rfl, HB.out⟩

noncomputable def laidWorld (os : Os) : World := World.holding Try.prog os ⟨#[], #[], []⟩
theorem laid_met (os : Os) : laidMet Try.prog Rows.fnSureScoresRow.laid ((laidWorld os).forCall (fun _ _ => 0) ⟨#[], #[.slice none 0 0], []⟩).memory := laidMet_of_run' 8 (by kernel_rfl) (by kernel_rfl)
theorem reads (os : Os) {H : Type} (enc : TypeId × Value → H) : ∃ places, DataW.whole enc Try.prog ((laidWorld os).forCall (fun _ _ => 0) ⟨#[], #[.slice none 0 0], []⟩).memory Try.f10.params.toList Rows.fnSureScoresSpec.vars false #[.slice none 0 0].toList 8 = some ([.nil], [], places) :=
  ⟨[], by kernel_rfl⟩
set_option linter.unusedVariables false in
set_option maxRecDepth 100000 in
theorem lifted (os : Os) (started : os.Started) (H : Type) (enc : TypeId × Value → H) (F : Stop.Interp) :
    ReturnsInHanded {} Try.checked os 10 .any ((OpenSpec.ofChange Rows.fnSureScoresSpec).preRow enc Try.prog Try.f10 Rows.fnSureScoresRow.domain false Rows.fnSureScoresRow.laid) (((OpenSpec.ofChange Rows.fnSureScoresSpec).at F).post enc Try.prog Try.f10 false true false false) := by
  obtain ⟨places, hx⟩ := reads os enc
  refine returnsInHanded_of_row (C := Try.checked) (s := (OpenSpec.ofChange Rows.fnSureScoresSpec)) own started (by kernel_rfl) Try.func10
    (witness_row_at (enc := enc) (C := Try.checked) false (laidWorld os) #[.slice none 0 0] rfl (by kernel_rfl) (by kernel_rfl) (by kernel_rfl)
      (OpenSpec.preRow_of_cond 8 hx (by kernel_rfl) (fun k hk => by cases hk) (by kernel_rfl) (laid_met os))) ?_
  intro W base args ds gs before hval0 hW _ hcond hsz hL hsh _
  have hval : ∀ (j : Nat) t v, Try.f10.params[j]? = some t → args[j]? = some v → Value.okWide Try.prog W .any base t v := hval0
  have hW' := hW
  obtain ⟨p, q, hA0, hV, rfl, hfz, hnd⟩ := hW
  have hA : DataW.TrodAll enc Try.prog W 0 (fun _ => true) true Try.f10.params.toList args.toList ds p := hA0
  rw [Try.params10] at hA hval
  obtain ⟨v0, vs0, d0, ds0, p0, q0, hargs, rfl, rfl, h0, r0⟩ := trodAll_cons hA
  obtain ⟨rfl, rfl, rfl⟩ := trodAll_nil r0
  obtain rfl : args = #[v0] := by cases args; simp_all
  obtain ⟨rfl, rfl⟩ := trodVars_none hV
  obtain ⟨a0, len0, cap0, rfl⟩ := okWide_slice Try.underlying44 (hval 0 44 v0 rfl rfl)
  have k0 := h0
  have lt0 : ∀ x ∈ p0, x.block < W.heap.size := by obtain ⟨m, hm⟩ := k0; exact DataW.trod_lt m _ _ _ hm
  obtain ⟨z0, w0⟩ : ∃ zs, IsRow .u8 W a0 len0 cap0 zs := by
    obtain ⟨fuel, hf⟩ := h0
    rcases open_ints Try.underlying44 Try.underlying5 (by kernel_rfl) hf with ⟨hcs, _⟩ | ⟨x, l, c, zs, hcs, _, hl, hm, hz, _, hcell, hwz⟩
    · simp [Value.cells] at hcs; obtain ⟨rfl, rfl, rfl⟩ := hcs; exact ⟨[], .inl ⟨rfl, rfl, rfl, rfl⟩⟩
    · simp [Value.cells] at hcs; obtain ⟨rfl, rfl, rfl⟩ := hcs; exact ⟨zs, .inr ⟨_, rfl, hl, hm, by simpa using hz, hcell, hwz⟩⟩
  clear hA0 hval0
  have hwalk : Calls Try.prog 10 #[.slice a0 len0 cap0] W fun e w' => e = .returned (.bool true) ∧ Below W.heap.size W w' := walk W hsh a0 len0 cap0 z0 w0
  refine hwalk.mono fun e W' ⟨he, bel⟩ => ?_
  subst he
  exact ⟨_, rfl, _, _, _, [], _, [], hW', trodAll_mk1 (shut_bool Try.underlying4 _), (trodAll_cons_mk (Below.trod laidOut (by kernel_rfl) (of_decide_eq_true (by kernel_rfl)) k0 bel lt0) trodAll_mk0), rfl, bel.frame _, fun h => by cases h⟩
theorem closed : joinedFacts Try.pinned.checked.prog 10 Try.f10 ((OpenSpec.ofChange Rows.fnSureScoresSpec)).bare Rows.fnSureScoresRow = true := by
  unfold joinedFacts
  repeat' with_reducible refine and_mk ?_ ?_
  case refine_1.refine_1.refine_1.refine_1.refine_1.refine_1.refine_2 => exact enters
  case refine_1.refine_1.refine_1.refine_1.refine_1.refine_2 => exact (show (Rows.fnSureScoresRow.lifted == Try.prog.liftsFinal) = true by rw [final_no]; rfl)
  case refine_1.refine_1.refine_1.refine_1.refine_2 => exact (show (Try.prog.make == some Rows.fnSureScoresRow.make) = true by rw [make_cut]; rfl)
  case refine_1.refine_1.refine_1.refine_1.refine_1.refine_1.refine_1.refine_1.refine_1.refine_1.refine_1.refine_1.refine_1.refine_1.refine_1.refine_1.refine_1.refine_1.refine_1.refine_1.refine_1.refine_1.refine_1.refine_1.refine_1.refine_1.refine_1.refine_1.refine_1.refine_1.refine_2 => exact laidOut
  case refine_1.refine_1.refine_1.refine_1.refine_1.refine_1.refine_1.refine_1.refine_1.refine_1.refine_1.refine_1.refine_1.refine_1.refine_1.refine_1.refine_1.refine_1.refine_1.refine_1.refine_1.refine_1.refine_1.refine_1.refine_1.refine_1.refine_1.refine_1.refine_1.refine_2 => exact maps_rowed
  case refine_1.refine_1.refine_1.refine_1.refine_1.refine_1.refine_1.refine_2 => exact stops_heard
  all_goals (as_aux_lemma => kernel_rfl)
theorem proved : Rows.FnSureScoresSaid :=
  OpenClaim.holds_of_cond 10 Try.f10 rfl rfl rfl rfl rfl rfl rfl ⟨rfl, rfl, rfl, rfl, rfl⟩ rfl rfl rfl rfl rfl (by kernel_rfl) Try.func10 closed
    (of_decide_eq_true (by kernel_rfl)) (by unfold Func.isWrapper; first | (rw [if_pos (by decide +kernel)]; kernel_rfl) | (rw [if_neg (by decide +kernel)]; exact ⟨rfl, rfl⟩))
    (fun os started H enc _ F => by rw [OpenClaim.pre_eq_preRow]; exact lifted os started H enc F)
#print axioms proved
end Go.Proofs.Ytlboglcpbbnbcab.fnSureScores
