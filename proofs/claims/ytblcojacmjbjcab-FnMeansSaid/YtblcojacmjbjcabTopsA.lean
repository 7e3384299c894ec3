/-
  Several texts in one:
  The contract of the reference's l9Score, by the number of moves.
  The contracts of MeanSum, in the reference and in the program, for every board and number.
  The contracts of MeanScore, in the reference and in the program, for every board and number.
  The contracts of BestRoom, in the reference and in the program, for every board.
-/
import Derived.Test.YtblcojacmjbjcabSpecMA
import Derived.Test.YtblcojacmjbjcabFracA
import Derived.Test.YtblcojacmjbjcabSumOf
import Derived.Test.YtblcojacmjbjcabTellA
import Derived.Test.YtblcojacmjbjcabMeanA
namespace Go.Proofs.Ytblcojacmjbjcab
open Go.RowKit Plain
attribute [local go_sem] store_new
set_option linter.unusedVariables false
set_option linter.unusedSimpArgs false
def SSn (n : Nat) : Prop := ∀ (f : Nat → Int) (w : World), Vd f → Calls Try.prog 206 #[.agg (mk 16 f), .int .i64 (n : Int)] w fun e w' => e = .returned (.agg (mk 2 (fcF (ScF n f)))) ∧ Below w.heap.size w w'
set_option maxHeartbeats 1000000 in
theorem SSn_zero : SSn 0 := by
  intro f w hV
  show Calls _ _ _ _ fun e w' => e = .returned (.agg (mk 2 (fcF (0, 1)))) ∧ _
  have z2 := zero2
  have z16 := zero16
  have K2 := (Blk.new w 16 f 47).alloc (.cells (mk 2 fun _ => 0) 42)
  have K4 := Blk.new (w.alloc (.cells (mk 16 f) 47)) 2 (fun _ => 0) 42
  have HB := Lib.hid (((Below.refl w.heap.size w).alloc (Nat.le_refl _) (.cells (mk 16 f) 47)).alloc (by simp) (.cells (mk 2 fun _ => 0) 42))
  simp only [World.size_alloc] at K4
  have HM := Lib.hid (fun w => l2Moves_any f w hV)
  clear hV
  go_enter Try.func206, Try.ntmps206
  go_wp2_with ((with_reducible show wpList _ _ _ (Oper.mk _ (Op.load 47 _) _ _ _ _ :: _) _ _); refine loadB (K2) rfl rfl rfl ?_)
  refine (HM.out _).mono ?_
  rintro _ w2 ⟨gm, cm, rfl, hmo, hb⟩
  have hq : w.heap.size + 1 < w2.heap.size := (K4.below hb K4.lt).lt
  have K2 := (K2.below hb K2.lt).alloc (.cells (mk 2 (two 0 1)) 42)
  have K4 := (K4.below hb K4.lt).alloc (.cells (mk 2 (two 0 1)) 42)
  have K5 : Blk (w2.alloc (.cells (mk 2 (two 0 1)) 42)) w2.heap.size 2 (fcF (0, 1)) 42 := Blk.new w2 2 (two 0 1) 42
  have HB : Hid (Below w.heap.size w w2) := HB.out.trans (hb.mono HB.out.size)
  have HB : Hid (Below w.heap.size w (w2.alloc (.cells (mk 2 (two 0 1)) 42))) := HB.out.alloc HB.out.size _
  clear hb hmo
  go_wp2_with (first | ((with_reducible show wpList _ _ _ (Oper.mk _ (Op.store 42 _ _) _ _ _ _ :: _) _ _); refine storeC (g := two _ _) (Blk.new _ _ _ _) rfl rfl rfl rfl ?_; rw [World.setRow_alloc_new]))
  generalize (movL f 4).length = L at *
  go_loopg [7] 0 (fun gk sI wr => sI = .int .i64 0 ∧ Blk wr (w.heap.size + 1) 2 (fun _ => 0) 42 ∧ Blk wr w2.heap.size 2 (fcF (0, 1)) 42 ∧ Hid (Below w.heap.size w wr))
  case atStart => exact ⟨rfl, K4, K5, HB⟩
  case round =>
    obtain ⟨rfl, K4, K5, HB⟩ := hrel
    by_cases hL : 0 < L
    · have hLi : (0 : Int) < (L : Int) := by omega
      go_wp2_with (first | ((with_reducible show wpList _ _ _ (Oper.mk _ (Op.load 42 _) _ _ _ _ :: _) _ _); refine loadC (K5) rfl rfl rfl ?_) | ((with_reducible show wpList _ _ _ (Oper.mk _ (Op.store 42 _ _) _ _ _ _ :: _) _ _); refine storeC (K4) rfl rfl rfl rfl ?_))
      try simp only [Exit.inBlock, Exit.then]
      exact retcC (K4.row 2 _) rfl rfl rfl ⟨rfl, below_setRow HB.out (by omega) _⟩
    · have hLi : ¬ (0 : Int) < (L : Int) := by omega
      go_wp2_with (first | ((with_reducible show wpList _ _ _ (Oper.mk _ (Op.load 42 _) _ _ _ _ :: _) _ _); refine loadC (K5) rfl rfl rfl ?_) | ((with_reducible show wpList _ _ _ (Oper.mk _ (Op.store 42 _ _) _ _ _ _ :: _) _ _); refine storeC (K4) rfl rfl rfl rfl ?_))
      try simp only [Exit.inBlock, Exit.then]
      exact retcC (K4.row 2 _) rfl rfl rfl ⟨rfl, below_setRow HB.out (by omega) _⟩
set_option maxHeartbeats 4000000 in
set_option maxRecDepth 20000 in
theorem SSn_one : SSn 1 := by
  intro f w hV
  rw [scm_succ]
  show Calls Try.prog 206 #[.agg (mk 16 f), .int .i64 1] w _
  have z2 := zero2
  have z16 := zero16
  have K2 := (Blk.new w 16 f 47).alloc (.cells (mk 2 fun _ => 0) 42)
  have K4 := Blk.new (w.alloc (.cells (mk 16 f) 47)) 2 (fun _ => 0) 42
  have HB := Lib.hid (((Below.refl w.heap.size w).alloc (Nat.le_refl _) (.cells (mk 16 f) 47)).alloc (by simp) (.cells (mk 2 fun _ => 0) 42))
  simp only [World.size_alloc] at K4
  have HM := Lib.hid (fun w => l2Moves_any f w hV)
  have hle := movL_le f 4
  have HMA := Lib.hid (fun i (hi : i < (movL f 4).length) => mov_at hi)
  have HBD := Lib.hid (fun d (hm : isMv f d = true) => scm_ok (n := 0) (by omega) hV (d := d) hm)
  have HMX : Hid (∀ i, (mxL (scV 0 f) ((movL f 4).take i)).1 ≤ 1342177280 ∧ (mxL (scV 0 f) ((movL f 4).take i)).2 ≤ 160) := fun i => mxL_all (f := f) (V := scV 0 f) (P := fun p => p.1 ≤ 1342177280 ∧ p.2 ≤ 160) (by decide) (fun d hd hm => by have := scm_ok (n := 0) (by omega) hV (d := d) hm; omega) i
  have HEND : Hid (mxL (scV 0 f) (movL f 4) = (bmF f (scV 0 f) 4).v) := mxL_end fun d hd hm => (scm_ok (n := 0) (by omega) hV (d := d) hm).2.2.2.1
  have HSD := Lib.hid (fun (d : Nat) (hd : d < 4) w => l2Slide_nat f d w hV (by omega) (by omega))
  have HSB := Lib.hid (fun d => slideS_bd hV d 4 (Nat.le_refl _))
  have HONE := Lib.hid (fun d (hm : isMv f d = true) => scm_one hV (d := d) hm)
  rw [← HEND.out]
  clear HEND hV
  have HVE : Hid (∀ d, (scV 0 f) d = plusF ((slideS f d 4).toNat, 1) (mnF (ScF 0) (slideB f d))) := fun d => rfl
  generalize scV 0 f = V at *
  go_enter Try.func206, Try.ntmps206
  go_wp2_with ((with_reducible show wpList _ _ _ (Oper.mk _ (Op.load 47 _) _ _ _ _ :: _) _ _); refine loadB (K2) rfl rfl rfl ?_)
  refine (HM.out _).mono ?_
  rintro _ w2 ⟨gm, cm, rfl, hmo, hb⟩
  have CM := mov_mem hmo
  have hq : w.heap.size + 1 < w2.heap.size := (K4.below hb K4.lt).lt
  have K2 := (K2.below hb K2.lt).alloc (.cells (mk 2 (two 0 1)) 42)
  have K4 := (K4.below hb K4.lt).alloc (.cells (mk 2 (two 0 1)) 42)
  have K5 : Blk (w2.alloc (.cells (mk 2 (two 0 1)) 42)) w2.heap.size 2 (fcF (0, 1)) 42 := Blk.new w2 2 (two 0 1) 42
  have HB : Hid (Below w.heap.size w w2) := HB.out.trans (hb.mono HB.out.size)
  have HB : Hid (Below w.heap.size w (w2.alloc (.cells (mk 2 (two 0 1)) 42))) := HB.out.alloc HB.out.size _
  have CM := (CM.below (Below.refl _ _)).alloc (.cells (mk 2 (two 0 1)) 42)
  have hgm : gm < w2.heap.size := (hmo.lt gm rfl).2
  clear hb hmo
  generalize hMM : movL f 4 = M at *
  generalize hLL : M.length = L at *
  have HTL : Hid (M.take L = M) := by show _ = _; rw [← hLL]; exact List.take_length
  go_wp2_with (first | ((with_reducible show wpList _ _ _ (Oper.mk _ (Op.store 42 _ _) _ _ _ _ :: _) _ _); refine storeC (g := two _ _) (Blk.new _ _ _ _) rfl rfl rfl rfl ?_; rw [World.setRow_alloc_new]))
  have K5 : Blk (w2.alloc (.cells (mk 2 (two 0 1)) 42)) w2.heap.size 2 (fcF (mxL V (M.take 0))) 42 := K5
  generalize w2.alloc (.cells (mk 2 (two 0 1)) 42) = w3 at *
  generalize w2.heap.size = bq at *
  go_loopg [7] L (fun gq sI wr => ∃ (q : Nat), q + gq = L ∧ sI = .int .i64 q ∧ CAt wr gm L (fun i => M.getD i 0) ∧ Blk wr w.heap.size 16 f 47 ∧ Blk wr (w.heap.size + 1) 2 (fun _ => 0) 42 ∧ Blk wr bq 2 (fcF (mxL V (M.take q))) 42 ∧ Hid (Below w.heap.size w wr))
  case atStart => exact ⟨0, by omega, rfl, CM, K2, K4, K5, HB⟩
  case round =>
    obtain ⟨q, hqg, rfl, CM, K2, K4, K5, HB⟩ := hrel
    cases gk with
    | zero =>
      have hk : ¬ ((q : Int) < (L : Int)) := by omega
      obtain rfl : q = L := by omega
      clear hqg
      rw [HTL.out] at K5
      go_wp2_with (first | ((with_reducible show wpList _ _ _ (Oper.mk _ (Op.load 42 _) _ _ _ _ :: _) _ _); refine loadC (K5) rfl rfl rfl ?_) | ((with_reducible show wpList _ _ _ (Oper.mk _ (Op.store 42 _ _) _ _ _ _ :: _) _ _); refine storeC (K4) rfl rfl rfl rfl ?_))
      try simp only [Exit.inBlock, Exit.then]
      exact retcC (K4.row 2 _) rfl rfl rfl ⟨rfl, below_setRow HB.out (by omega) _⟩
    | succ gq2 =>
      have hq8 : (q : Int) < (L : Int) := by omega
      have hq9 : q < L := by omega
      have hq0 : (0 : Int) ≤ (q : Int) := by omega
      obtain ⟨d, hd4, _, hdm, hgd, htk⟩ := HMA.out q hq9
      have HGD : Hid (M.getD q 0 = (d : Int)) := hgd
      have HTK : Hid (M.take (q + 1) = M.take q ++ [(d : Int)]) := htk
      have HSL := Lib.hid (HSD.out d hd4)
      have hsb := HSB.out d
      obtain ⟨_, _, _, _, b1, b2⟩ := HBD.out d hdm
      obtain ⟨b3, b4⟩ := HMX.out q
      have HLS := Lib.hid (fun w => l9Less_any (mxL V (M.take q)) (V d) w (by have := fc_mul7 (a := (mxL V (M.take q)).1) (b := (V d).2) (by omega) (by omega); omega) (by have := fc_mul7 (a := (V d).1) (b := (mxL V (M.take q)).2) (by omega) (by omega); omega))
      have hvd := HONE.out d hdm
      have HVD : Hid (((slideS f d 4).toNat, 1) = V d) := hvd.symm
      clear hvd
      obtain ⟨sn, hsn⟩ : ∃ sn, sn = (slideS f d 4).toNat := ⟨_, rfl⟩
      have HSN : Hid (slideS f d 4 = (sn : Int)) := by show _ = _; omega
      rw [← hsn] at HVD
      clear hsn hsb b1 b2 b3 b4 hgd htk
      rw [HSN.out] at HSL
      generalize hSB : slideB f d = SB at *
      generalize hsc : (sn : Int) = sc at *
      have HSN : Hid (two sc 1 = fcF (sn, 1)) := by show _ = _; rw [← hsc]; rfl
      clear hsc
      go_wp2_with fail
      refine wp_region_held_drew (S := fun W => Blk W w.heap.size 16 f 47 ∧ CAt W gm L (fun i => M.getD i 0)) (by kernel_rfl) (⟨K2.drew, CM.drew⟩) (fun hHeld => ?_)
      have K2 := K2.drew
      have K4 := K4.drew
      have K5 := K5.drew
      have CM : CAt wr.drew gm L (fun i => M.getD i 0) := CM.drew
      have HB : Hid (Below w.heap.size w wr.drew) := HB.out.drew
      clear hHeld
      generalize wr.drew = x0 at *
      have hHeld : Blk x0 w.heap.size 16 f 47 ∧ CAt x0 gm L (fun i => M.getD i 0) := ⟨K2, CM⟩
      refine wpAnyH_take (i := 0) (oi := { dst := some 28, op := _, type := _, pos := _, after := _, guard := _ }) (v := .agg (mk 16 f)) rfl (by kernel_rfl) (by kernel_rfl) (by kernel_rfl) (fun _ _ _ h => h) (Or.inl ⟨by rfl, fun _ q => execB7 q.1 rfl rfl⟩) (by assumption) ?_
      try simp only [Act.put, List.setIfInBounds_toArray, List.set_cons_zero, List.set_cons_succ]
      refine wpAnyH_take (i := 1) (oi := { dst := some 29, op := _, type := _, pos := _, after := _, guard := _ }) (v := .slice (some ⟨gm, 0, none⟩) L cm) rfl (by kernel_rfl) (by kernel_rfl) (by kernel_rfl) (fun _ _ _ h => h) (Or.inl ⟨by rfl, by intro w hSw; clear hSw; go_simp; (try with_reducible rfl)⟩) (by assumption) ?_
      try simp only [Act.put, List.setIfInBounds_toArray, List.set_cons_zero, List.set_cons_succ]
      refine wpAnyH_take (i := 2) (oi := { dst := some 30, op := _, type := _, pos := _, after := _, guard := _ }) (v := .int .i64 (q : Int)) rfl (by kernel_rfl) (by kernel_rfl) (by kernel_rfl) (fun _ _ _ h => h) (Or.inl ⟨by rfl, by intro w hSw; clear hSw; go_simp; (try with_reducible rfl)⟩) (by assumption) ?_
      try simp only [Act.put, List.setIfInBounds_toArray, List.set_cons_zero, List.set_cons_succ]
      refine wpAnyH_take (i := 3) (oi := { dst := some 31, op := _, type := _, pos := _, after := _, guard := _ }) (v := .pointer (some ⟨gm, q, none⟩)) rfl (by kernel_rfl) (by kernel_rfl) (by kernel_rfl) (fun _ _ _ h => h) (Or.inl ⟨by rfl, by intro w hSw; clear hSw; go_simp; (try with_reducible rfl)⟩) (by assumption) ?_
      try simp only [Act.put, List.setIfInBounds_toArray, List.set_cons_zero, List.set_cons_succ]
      refine wpAnyH_take (i := 4) (oi := { dst := some 32, op := _, type := _, pos := _, after := _, guard := _ }) (v := .int .i64 (d : Int)) rfl (by kernel_rfl) (by kernel_rfl) (by kernel_rfl) (fun _ _ _ h => h) (Or.inl ⟨by rfl, by intro W q2; have c0 : W.cell? ⟨gm, q, none⟩ = some (.int .i64 (M.getD q 0)) := q2.2.2 q hq9; rw [HGD.out] at c0; clear q2; go_simp⟩) (by assumption) ?_
      try simp only [Act.put, List.setIfInBounds_toArray, List.set_cons_zero, List.set_cons_succ]
      refine wpAnyH_ready (rs := [5, 9]) (by kernel_rfl) (by simp) ?_
      refine AllReadyH.cons rfl (fun K hK => ?_) ?_
      · go_simp
        refine (HSL.out _).mono ?_
        rintro _ x1 ⟨rfl, hb⟩
        have K2 := K2.below hb K2.lt
        have K4 := K4.below hb K4.lt
        have K5 := K5.below hb K5.lt
        have CM := CM.below hb
        have HB : Hid (Below w.heap.size w x1) := HB.out.trans (hb.mono HB.out.size)
        clear hb hHeld
        go_wp2_with fail
        refine hK.out _ _ (⟨K2, CM⟩) (fun hHeld => ?_)
        clear hK K
        try simp only [Act.put, List.setIfInBounds_toArray, List.set_cons_zero, List.set_cons_succ]
        refine wpAnyH_take (i := 6) (oi := { dst := some 27, op := _, type := _, pos := _, after := _, guard := _ }) (v := .tuple #[.agg (mk 16 SB), .int .i64 sc]) rfl (by kernel_rfl) (by kernel_rfl) (by kernel_rfl) (fun _ _ _ h => h) (Or.inl ⟨by rfl, by intro w hSw; clear hSw; go_simp; (try with_reducible rfl)⟩) (by assumption) ?_
        try simp only [Act.put, List.setIfInBounds_toArray, List.set_cons_zero, List.set_cons_succ]
        refine wpAnyH_take (i := 7) (oi := { dst := some 34, op := _, type := _, pos := _, after := _, guard := _ }) (v := .agg (mk 16 SB)) rfl (by kernel_rfl) (by kernel_rfl) (by kernel_rfl) (fun _ _ _ h => h) (Or.inl ⟨by rfl, by intro w hSw; clear hSw; go_simp; (try with_reducible rfl)⟩) (by assumption) ?_
        try simp only [Act.put, List.setIfInBounds_toArray, List.set_cons_zero, List.set_cons_succ]
        refine wpAnyH_take (i := 8) (oi := { dst := some 35, op := _, type := _, pos := _, after := _, guard := _ }) (v := .int .i64 sc) rfl (by kernel_rfl) (by kernel_rfl) (by kernel_rfl) (fun _ _ _ h => h) (Or.inl ⟨by rfl, by intro w hSw; clear hSw; go_simp; (try with_reducible rfl)⟩) (by assumption) ?_
        try simp only [Act.put, List.setIfInBounds_toArray, List.set_cons_zero, List.set_cons_succ]
        refine wpAnyH_ready (rs := [9]) (by kernel_rfl) (by simp) ?_
        refine AllReadyH.cons rfl (fun K hK => ?_) AllReadyH.nil
        go_simp
        clear hHeld
        have hl4 : w.heap.size + 1 < x1.heap.size := K4.lt
        have hl5 : bq < x1.heap.size := K5.lt
        have hl6 : gm < x1.heap.size := CM.1
        have KN := Blk.new x1 16 (fun _ => 0) 47
        have K2 := K2.alloc (.cells (mk 16 fun _ => 0) 47)
        have K4 := K4.alloc (.cells (mk 16 fun _ => 0) 47)
        have K5 := K5.alloc (.cells (mk 16 fun _ => 0) 47)
        have CM := CM.alloc (.cells (mk 16 fun _ => 0) 47)
        have HB : Hid (Below w.heap.size w (x1.alloc (.cells (mk 16 fun _ => 0) 47))) := HB.out.alloc HB.out.size _
        generalize x1.alloc (.cells (mk 16 fun _ => 0) 47) = x2 at *
        generalize x1.heap.size = bN at *
        refine hK.out _ _ (⟨K2, CM⟩) (fun hHeld => ?_)
        clear hK K
        try simp only [Act.put, List.setIfInBounds_toArray, List.set_cons_zero, List.set_cons_succ]
        refine wpAnyH_ready (rs := [10]) (by kernel_rfl) (by simp) ?_
        refine AllReadyH.cons rfl (fun K hK => ?_) AllReadyH.nil
        have st1 := run_store_blk (P := Try.prog) (g := SB) KN
        have ms1 : (mk 16 SB).size = 16 := mk_size 16 _
        go_simp
        clear st1 ms1 hHeld
        have hgr : x2.grownBy (x2.setRow bN (mk 16 SB)) (some bN) := grown_row KN _
        have CM := CM.grown hgr (fun e => by cases e; omega)
        have K2 := K2.rowOther bN (mk 16 SB) (by omega)
        have K4 := K4.rowOther bN (mk 16 SB) (by omega)
        have K5 := K5.rowOther bN (mk 16 SB) (by omega)
        have HB : Hid (Below w.heap.size w (x2.setRow bN (mk 16 SB))) := below_setRow HB.out (by omega) _
        clear hgr KN
        generalize x2.setRow bN (mk 16 SB) = x3 at *
        refine hK.out _ _ (⟨K2, CM⟩) (fun hHeld => ?_)
        clear hK K
        try simp only [Act.put, List.setIfInBounds_toArray, List.set_cons_zero, List.set_cons_succ]
        refine wpAnyH_take (i := 11) (oi := { dst := some 9, op := _, type := _, pos := _, after := _, guard := _ }) (v := .int .i64 sc) rfl (by kernel_rfl) (by kernel_rfl) (by kernel_rfl) (fun _ _ _ h => h) (Or.inl ⟨by rfl, by intro w hSw; clear hSw; go_simp; (try with_reducible rfl)⟩) (by assumption) ?_
        try simp only [Act.put, List.setIfInBounds_toArray, List.set_cons_zero, List.set_cons_succ]
        refine wpAnyH_done (by kernel_rfl) ?_ _
        clear hHeld
        have hlS4 : w.heap.size + 1 < x3.heap.size := K4.lt
        have hlS5 : bq < x3.heap.size := K5.lt
        have hlS6 : gm < x3.heap.size := CM.1
        have K2 := K2.alloc (.cells (mk 2 (two sc 1)) 42)
        have K4 := K4.alloc (.cells (mk 2 (two sc 1)) 42)
        have K5 := K5.alloc (.cells (mk 2 (two sc 1)) 42)
        have CM := CM.alloc (.cells (mk 2 (two sc 1)) 42)
        have KS : Blk (x3.alloc (.cells (mk 2 (two sc 1)) 42)) x3.heap.size 2 (fcF (sn, 1)) 42 := by
          have := Blk.new x3 2 (two sc 1) 42
          rw [HSN.out] at *
          exact this
        have HB : Hid (Below w.heap.size w (x3.alloc (.cells (mk 2 (two sc 1)) 42))) := HB.out.alloc HB.out.size _
        rw [HVD.out] at KS
        go_wp2_with (first | ((with_reducible show wpList _ _ _ (Oper.mk _ (Op.load 42 _) _ _ _ _ :: _) _ _); refine loadC (K5) rfl rfl rfl ?_) | ((with_reducible show wpList _ _ _ (Oper.mk _ (Op.load 42 _) _ _ _ _ :: _) _ _); refine loadC (KS) rfl rfl rfl ?_) | ((with_reducible show wpList _ _ _ (Oper.mk _ (Op.store 42 _ _) _ _ _ _ :: _) _ _); refine storeC (g := two _ _) (Blk.new _ _ _ _) rfl rfl rfl rfl ?_; rw [World.setRow_alloc_new]))
        refine (HLS.out _).mono ?_
        rintro _ y1 ⟨rfl, hb⟩
        have K2 := K2.below hb K2.lt
        have K4 := K4.below hb K4.lt
        have K5 := K5.below hb K5.lt
        have KS := KS.below hb KS.lt
        have CM := CM.below hb
        have HB : Hid (Below w.heap.size w y1) := HB.out.trans (hb.mono HB.out.size)
        clear hb
        cases hlt : ltF (mxL V (M.take q)) (V d) with
        | true =>
          have HN : Hid (mxL V (M.take (q + 1)) = V d) := by
            show _ = _; rw [HTK.out, mxL_snoc]; unfold mxS; rw [Int.toNat_natCast, hlt]; rfl
          clear hlt
          go_wp2_with (first | ((with_reducible show wpList _ _ _ (Oper.mk _ (Op.load 42 _) _ _ _ _ :: _) _ _); refine loadC (KS) rfl rfl rfl ?_) | ((with_reducible show wpList _ _ _ (Oper.mk _ (Op.store 42 _ _) _ _ _ _ :: _) _ _); refine storeC (K5) rfl rfl rfl rfl ?_))
          have hgr : y1.grownBy (y1.setRow bq (mk 2 (fcF (V d)))) (some bq) := grown_row K5 _
          have CM := CM.grown hgr (fun e => by cases e; omega)
          have K2 := K2.rowOther bq (mk 2 (fcF (V d))) (by omega)
          have K4 := K4.rowOther bq (mk 2 (fcF (V d))) (by omega)
          have HB : Hid (Below w.heap.size w (y1.setRow bq (mk 2 (fcF (V d))))) := below_setRow HB.out (by omega) _
          have K5 := K5.row 2 (fcF (V d))
          rw [← HN.out] at K5
          clear hgr
          rw [← HN.out] at *
          go_roundg gq2
          case rel => exact ⟨q + 1, by omega, by go_num, CM, K2, K4, K5, HB⟩
          case measure => omega
        | false =>
          have HN : Hid (mxL V (M.take (q + 1)) = mxL V (M.take q)) := by
            show _ = _; rw [HTK.out, mxL_snoc]; unfold mxS; rw [Int.toNat_natCast, hlt]; rfl
          clear hlt
          rw [← HN.out] at K5
          go_wp2_with fail
          go_roundg gq2
          case rel => exact ⟨q + 1, by omega, by go_num, CM, K2, K4, K5, HB⟩
          case measure => omega
      refine AllReadyH.cons rfl (fun K hK => ?_) AllReadyH.nil
      go_simp
      clear hHeld
      have hl4 : w.heap.size + 1 < x0.heap.size := K4.lt
      have hl5 : bq < x0.heap.size := K5.lt
      have hl6 : gm < x0.heap.size := CM.1
      have KN := Blk.new x0 16 (fun _ => 0) 47
      have K2 := K2.alloc (.cells (mk 16 fun _ => 0) 47)
      have K4 := K4.alloc (.cells (mk 16 fun _ => 0) 47)
      have K5 := K5.alloc (.cells (mk 16 fun _ => 0) 47)
      have CM := CM.alloc (.cells (mk 16 fun _ => 0) 47)
      have HB : Hid (Below w.heap.size w (x0.alloc (.cells (mk 16 fun _ => 0) 47))) := HB.out.alloc HB.out.size _
      generalize x0.alloc (.cells (mk 16 fun _ => 0) 47) = x1 at *
      generalize x0.heap.size = bN at *
      refine hK.out _ _ (⟨K2, CM⟩) (fun hHeld => ?_)
      clear hK K
      try simp only [Act.put, List.setIfInBounds_toArray, List.set_cons_zero, List.set_cons_succ]
      refine wpAnyH_ready (rs := [5]) (by kernel_rfl) (by simp) ?_
      refine AllReadyH.cons rfl (fun K hK => ?_) AllReadyH.nil
      go_simp
      refine (HSL.out _).mono ?_
      rintro _ x2 ⟨rfl, hb⟩
      have K2 := K2.below hb K2.lt
      have K4 := K4.below hb K4.lt
      have K5 := K5.below hb K5.lt
      have KN := KN.below hb KN.lt
      have CM := CM.below hb
      have HB : Hid (Below w.heap.size w x2) := HB.out.trans (hb.mono HB.out.size)
      clear hb hHeld
      go_wp2_with fail
      refine hK.out _ _ (⟨K2, CM⟩) (fun hHeld => ?_)
      clear hK K
      try simp only [Act.put, List.setIfInBounds_toArray, List.set_cons_zero, List.set_cons_succ]
      refine wpAnyH_take (i := 6) (oi := { dst := some 27, op := _, type := _, pos := _, after := _, guard := _ }) (v := .tuple #[.agg (mk 16 SB), .int .i64 sc]) rfl (by kernel_rfl) (by kernel_rfl) (by kernel_rfl) (fun _ _ _ h => h) (Or.inl ⟨by rfl, by intro w hSw; clear hSw; go_simp; (try with_reducible rfl)⟩) (by assumption) ?_
      try simp only [Act.put, List.setIfInBounds_toArray, List.set_cons_zero, List.set_cons_succ]
      refine wpAnyH_take (i := 7) (oi := { dst := some 34, op := _, type := _, pos := _, after := _, guard := _ }) (v := .agg (mk 16 SB)) rfl (by kernel_rfl) (by kernel_rfl) (by kernel_rfl) (fun _ _ _ h => h) (Or.inl ⟨by rfl, by intro w hSw; clear hSw; go_simp; (try with_reducible rfl)⟩) (by assumption) ?_
      try simp only [Act.put, List.setIfInBounds_toArray, List.set_cons_zero, List.set_cons_succ]
      refine wpAnyH_take (i := 8) (oi := { dst := some 35, op := _, type := _, pos := _, after := _, guard := _ }) (v := .int .i64 sc) rfl (by kernel_rfl) (by kernel_rfl) (by kernel_rfl) (fun _ _ _ h => h) (Or.inl ⟨by rfl, by intro w hSw; clear hSw; go_simp; (try with_reducible rfl)⟩) (by assumption) ?_
      try simp only [Act.put, List.setIfInBounds_toArray, List.set_cons_zero, List.set_cons_succ]
      refine wpAnyH_ready (rs := [10]) (by kernel_rfl) (by simp) ?_
      refine AllReadyH.cons rfl (fun K hK => ?_) AllReadyH.nil
      have st1 := run_store_blk (P := Try.prog) (g := SB) KN
      have ms1 : (mk 16 SB).size = 16 := mk_size 16 _
      go_simp
      clear st1 ms1 hHeld
      have hgr : x2.grownBy (x2.setRow bN (mk 16 SB)) (some bN) := grown_row KN _
      have CM := CM.grown hgr (fun e => by cases e; omega)
      have K2 := K2.rowOther bN (mk 16 SB) (by omega)
      have K4 := K4.rowOther bN (mk 16 SB) (by omega)
      have K5 := K5.rowOther bN (mk 16 SB) (by omega)
      have HB : Hid (Below w.heap.size w (x2.setRow bN (mk 16 SB))) := below_setRow HB.out (by omega) _
      clear hgr KN
      generalize x2.setRow bN (mk 16 SB) = x3 at *
      refine hK.out _ _ (⟨K2, CM⟩) (fun hHeld => ?_)
      clear hK K
      try simp only [Act.put, List.setIfInBounds_toArray, List.set_cons_zero, List.set_cons_succ]
      refine wpAnyH_take (i := 11) (oi := { dst := some 9, op := _, type := _, pos := _, after := _, guard := _ }) (v := .int .i64 sc) rfl (by kernel_rfl) (by kernel_rfl) (by kernel_rfl) (fun _ _ _ h => h) (Or.inl ⟨by rfl, by intro w hSw; clear hSw; go_simp; (try with_reducible rfl)⟩) (by assumption) ?_
      try simp only [Act.put, List.setIfInBounds_toArray, List.set_cons_zero, List.set_cons_succ]
      refine wpAnyH_done (by kernel_rfl) ?_ _
      clear hHeld
      have hlS4 : w.heap.size + 1 < x3.heap.size := K4.lt
      have hlS5 : bq < x3.heap.size := K5.lt
      have hlS6 : gm < x3.heap.size := CM.1
      have K2 := K2.alloc (.cells (mk 2 (two sc 1)) 42)
      have K4 := K4.alloc (.cells (mk 2 (two sc 1)) 42)
      have K5 := K5.alloc (.cells (mk 2 (two sc 1)) 42)
      have CM := CM.alloc (.cells (mk 2 (two sc 1)) 42)
      have KS : Blk (x3.alloc (.cells (mk 2 (two sc 1)) 42)) x3.heap.size 2 (fcF (sn, 1)) 42 := by
        have := Blk.new x3 2 (two sc 1) 42
        rw [HSN.out] at *
        exact this
      have HB : Hid (Below w.heap.size w (x3.alloc (.cells (mk 2 (two sc 1)) 42))) := HB.out.alloc HB.out.size _
      rw [HVD.out] at KS
      go_wp2_with (first | ((with_reducible show wpList _ _ _ (Oper.mk _ (Op.load 42 _) _ _ _ _ :: _) _ _); refine loadC (K5) rfl rfl rfl ?_) | ((with_reducible show wpList _ _ _ (Oper.mk _ (Op.load 42 _) _ _ _ _ :: _) _ _); refine loadC (KS) rfl rfl rfl ?_) | ((with_reducible show wpList _ _ _ (Oper.mk _ (Op.store 42 _ _) _ _ _ _ :: _) _ _); refine storeC (g := two _ _) (Blk.new _ _ _ _) rfl rfl rfl rfl ?_; rw [World.setRow_alloc_new]))
      refine (HLS.out _).mono ?_
      rintro _ y1 ⟨rfl, hb⟩
      have K2 := K2.below hb K2.lt
      have K4 := K4.below hb K4.lt
      have K5 := K5.below hb K5.lt
      have KS := KS.below hb KS.lt
      have CM := CM.below hb
      have HB : Hid (Below w.heap.size w y1) := HB.out.trans (hb.mono HB.out.size)
      clear hb
      cases hlt : ltF (mxL V (M.take q)) (V d) with
      | true =>
        have HN : Hid (mxL V (M.take (q + 1)) = V d) := by
          show _ = _; rw [HTK.out, mxL_snoc]; unfold mxS; rw [Int.toNat_natCast, hlt]; rfl
        clear hlt
        go_wp2_with (first | ((with_reducible show wpList _ _ _ (Oper.mk _ (Op.load 42 _) _ _ _ _ :: _) _ _); refine loadC (KS) rfl rfl rfl ?_) | ((with_reducible show wpList _ _ _ (Oper.mk _ (Op.store 42 _ _) _ _ _ _ :: _) _ _); refine storeC (K5) rfl rfl rfl rfl ?_))
        have hgr : y1.grownBy (y1.setRow bq (mk 2 (fcF (V d)))) (some bq) := grown_row K5 _
        have CM := CM.grown hgr (fun e => by cases e; omega)
        have K2 := K2.rowOther bq (mk 2 (fcF (V d))) (by omega)
        have K4 := K4.rowOther bq (mk 2 (fcF (V d))) (by omega)
        have HB : Hid (Below w.heap.size w (y1.setRow bq (mk 2 (fcF (V d))))) := below_setRow HB.out (by omega) _
        have K5 := K5.row 2 (fcF (V d))
        rw [← HN.out] at K5
        clear hgr
        rw [← HN.out] at *
        go_roundg gq2
        case rel => exact ⟨q + 1, by omega, by go_num, CM, K2, K4, K5, HB⟩
        case measure => omega
      | false =>
        have HN : Hid (mxL V (M.take (q + 1)) = mxL V (M.take q)) := by
          show _ = _; rw [HTK.out, mxL_snoc]; unfold mxS; rw [Int.toNat_natCast, hlt]; rfl
        clear hlt
        rw [← HN.out] at K5
        go_wp2_with fail
        go_roundg gq2
        case rel => exact ⟨q + 1, by omega, by go_num, CM, K2, K4, K5, HB⟩
        case measure => omega
set_option maxHeartbeats 8000000 in
set_option maxRecDepth 20000 in
theorem SSn_two (h : SSn 1) : SSn 2 := by
  intro f w hV
  rw [scm_succ]
  show Calls Try.prog 206 #[.agg (mk 16 f), .int .i64 2] w _
  have z2 := zero2
  have z16 := zero16
  have K2 := (Blk.new w 16 f 47).alloc (.cells (mk 2 fun _ => 0) 42)
  have K4 := Blk.new (w.alloc (.cells (mk 16 f) 47)) 2 (fun _ => 0) 42
  have HB := Lib.hid (((Below.refl w.heap.size w).alloc (Nat.le_refl _) (.cells (mk 16 f) 47)).alloc (by simp) (.cells (mk 2 fun _ => 0) 42))
  simp only [World.size_alloc] at K4
  have HM := Lib.hid (fun w => l2Moves_any f w hV)
  have hle := movL_le f 4
  have HMA := Lib.hid (fun i (hi : i < (movL f 4).length) => mov_at hi)
  have HBD := Lib.hid (fun d (hm : isMv f d = true) => scm_ok (n := 1) (by omega) hV (d := d) hm)
  have HMX : Hid (∀ i, (mxL (scV 1 f) ((movL f 4).take i)).1 ≤ 1342177280 ∧ (mxL (scV 1 f) ((movL f 4).take i)).2 ≤ 160) := fun i => mxL_all (f := f) (V := scV 1 f) (P := fun p => p.1 ≤ 1342177280 ∧ p.2 ≤ 160) (by decide) (fun d hd hm => by have := scm_ok (n := 1) (by omega) hV (d := d) hm; omega) i
  have HEND : Hid (mxL (scV 1 f) (movL f 4) = (bmF f (scV 1 f) 4).v) := mxL_end fun d hd hm => (scm_ok (n := 1) (by omega) hV (d := d) hm).2.2.2.1
  have HSD := Lib.hid (fun (d : Nat) (hd : d < 4) w => l2Slide_nat f d w hV (by omega) (by omega))
  have HSB := Lib.hid (fun d => slideS_bd hV d 4 (Nat.le_refl _))
  have HCC1 := Lib.hid (fun g w (hg : Vd g) => show Calls Try.prog 206 #[.agg (mk 16 g), .int .i64 1] w fun e w' => e = .returned (.agg (mk 2 (fcF (ScF 1 g)))) ∧ Below w.heap.size w w' from h g w hg)
  have HVV := Lib.hid hV
  have HV := Lib.hid hV
  rw [← HEND.out]
  clear HEND h hV
  have HVE : Hid (∀ d, (scV 1 f) d = plusF ((slideS f d 4).toNat, 1) (mnF (ScF 1) (slideB f d))) := fun d => rfl
  generalize scV 1 f = V at *
  go_enter Try.func206, Try.ntmps206
  go_wp2_with ((with_reducible show wpList _ _ _ (Oper.mk _ (Op.load 47 _) _ _ _ _ :: _) _ _); refine loadB (K2) rfl rfl rfl ?_)
  refine (HM.out _).mono ?_
  rintro _ w2 ⟨gm, cm, rfl, hmo, hb⟩
  have CM := mov_mem hmo
  have hq : w.heap.size + 1 < w2.heap.size := (K4.below hb K4.lt).lt
  have K2 := (K2.below hb K2.lt).alloc (.cells (mk 2 (two 0 1)) 42)
  have K4 := (K4.below hb K4.lt).alloc (.cells (mk 2 (two 0 1)) 42)
  have K5 : Blk (w2.alloc (.cells (mk 2 (two 0 1)) 42)) w2.heap.size 2 (fcF (0, 1)) 42 := Blk.new w2 2 (two 0 1) 42
  have HB : Hid (Below w.heap.size w w2) := HB.out.trans (hb.mono HB.out.size)
  have HB : Hid (Below w.heap.size w (w2.alloc (.cells (mk 2 (two 0 1)) 42))) := HB.out.alloc HB.out.size _
  have CM := (CM.below (Below.refl _ _)).alloc (.cells (mk 2 (two 0 1)) 42)
  have hgm : gm < w2.heap.size := (hmo.lt gm rfl).2
  clear hb hmo
  generalize hMM : movL f 4 = M at *
  generalize hLL : M.length = L at *
  have HTL : Hid (M.take L = M) := by show _ = _; rw [← hLL]; exact List.take_length
  go_wp2_with (first | ((with_reducible show wpList _ _ _ (Oper.mk _ (Op.store 42 _ _) _ _ _ _ :: _) _ _); refine storeC (g := two _ _) (Blk.new _ _ _ _) rfl rfl rfl rfl ?_; rw [World.setRow_alloc_new]))
  have K5 : Blk (w2.alloc (.cells (mk 2 (two 0 1)) 42)) w2.heap.size 2 (fcF (mxL V (M.take 0))) 42 := K5
  generalize w2.alloc (.cells (mk 2 (two 0 1)) 42) = w3 at *
  generalize w2.heap.size = bq at *
  go_loopg [7] L (fun gq sI wr => ∃ (q : Nat), q + gq = L ∧ sI = .int .i64 q ∧ CAt wr gm L (fun i => M.getD i 0) ∧ Blk wr w.heap.size 16 f 47 ∧ Blk wr (w.heap.size + 1) 2 (fun _ => 0) 42 ∧ Blk wr bq 2 (fcF (mxL V (M.take q))) 42 ∧ Hid (Below w.heap.size w wr))
  case atStart => exact ⟨0, by omega, rfl, CM, K2, K4, K5, HB⟩
  case round =>
    obtain ⟨q, hqg, rfl, CM, K2, K4, K5, HB⟩ := hrel
    cases gk with
    | zero =>
      have hk : ¬ ((q : Int) < (L : Int)) := by omega
      obtain rfl : q = L := by omega
      clear hqg
      rw [HTL.out] at K5
      go_wp2_with (first | ((with_reducible show wpList _ _ _ (Oper.mk _ (Op.load 42 _) _ _ _ _ :: _) _ _); refine loadC (K5) rfl rfl rfl ?_) | ((with_reducible show wpList _ _ _ (Oper.mk _ (Op.store 42 _ _) _ _ _ _ :: _) _ _); refine storeC (K4) rfl rfl rfl rfl ?_))
      try simp only [Exit.inBlock, Exit.then]
      exact retcC (K4.row 2 _) rfl rfl rfl ⟨rfl, below_setRow HB.out (by omega) _⟩
    | succ gq2 =>
      have hq8 : (q : Int) < (L : Int) := by omega
      have hq9 : q < L := by omega
      have hq0 : (0 : Int) ≤ (q : Int) := by omega
      obtain ⟨d, hd4, _, hdm, hgd, htk⟩ := HMA.out q hq9
      have HGD : Hid (M.getD q 0 = (d : Int)) := hgd
      have HTK : Hid (M.take (q + 1) = M.take q ++ [(d : Int)]) := htk
      have HSL := Lib.hid (HSD.out d hd4)
      have hsb := HSB.out d
      obtain ⟨_, _, _, _, b1, b2⟩ := HBD.out d hdm
      obtain ⟨b3, b4⟩ := HMX.out q
      have HLS := Lib.hid (fun w => l9Less_any (mxL V (M.take q)) (V d) w (by have := fc_mul7 (a := (mxL V (M.take q)).1) (b := (V d).2) (by omega) (by omega); omega) (by have := fc_mul7 (a := (V d).1) (b := (mxL V (M.take q)).2) (by omega) (by omega); omega))
      have hE := mv_room HVV.out hdm
      have hlen := mv_len hdm
      have hdn := scm_dn (n := 1) (by omega) (slideB_vd HVV.out d)
      have hpo := pt_ok (c := (slideS f d 4).toNat) hdn hE (by omega) (by omega) (.inr ⟨by omega, rfl, by omega⟩)
      have HMN : Hid (ptF ((slideS f d 4).toNat, 1) (ScF 1) (slideB f d) (5 * (empN (slideB f d) 16 * 2)) (empN (slideB f d) 16 * 2) = V d) := by
        show _ = _
        rw [show 5 * (empN (slideB f d) 16 * 2) = 10 * empN (slideB f d) 16 by omega, HVE.out d]
        exact pt_score hdn hE _
      rw [← hlen] at HMN hpo
      have HST := Lib.hid (fun w => l5Steps_any f d w HVV.out hd4)
      have HSM := Lib.hid (fun k (hk : k < (stepL f d).length) => step_mem7 (k := k) hd4 hdm hk)
      have HPV := Lib.hid (fun k (hk : k < (stepL f d).length) => plB_vd (slideB_vd HVV.out d) (ps_ok (S := slideB f d) (k := k) (by omega)))
      have HSA := Lib.hid (step_all f d hd4)
      obtain ⟨S, hS⟩ : ∃ S, S = slideB f d := ⟨_, rfl⟩
      obtain ⟨T, hT⟩ : ∃ T, T = ScF 1 := ⟨_, rfl⟩
      obtain ⟨s0, hs0⟩ : ∃ s0 : Fc, s0 = ((slideS f d 4).toNat, 1) := ⟨_, rfl⟩
      rw [← hS] at HSM HPV HMN hpo
      rw [← hT] at HMN hpo
      rw [← hs0] at HMN
      have HPO := Lib.hid hpo
      obtain ⟨F, hF⟩ : ∃ F : Nat → Nat → Int, F = fun k => plB S (psF S k) := ⟨_, rfl⟩
      have HF : Hid (∀ k, k < (stepL f d).length → doB f (fun j => flatF (stepL f d) (k * 4 + j)) = F k) := by intro k hk; rw [hF]; exact (HSM.out k hk).1
      have HWI : Hid (∀ k, k < (stepL f d).length → wtI (flatF (stepL f d) (k * 4 + 3)) = wtP (psF S k)) := by intro k hk; exact (HSM.out k hk).2
      have HVF : Hid (∀ k, k < (stepL f d).length → Vd (F k)) := by intro k hk; rw [hF]; exact HPV.out k hk
      have HFK : Hid (∀ k, plB S (psF S k) = F k) := by intro k; rw [hF]
      have HS0 : Hid (s0 = ((slideS f d 4).toNat, 1)) := hs0
      have HTT : Hid (T = ScF 1) := hT
      have hn2 : (stepL f d).length ≤ 32 := hpo.le
      clear hE hlen hdn hpo HSM HPV hF hs0 hT hS
      obtain ⟨sn, hsn⟩ : ∃ sn, sn = (slideS f d 4).toNat := ⟨_, rfl⟩
      have HSN : Hid (slideS f d 4 = (sn : Int)) := by show _ = _; omega
      rw [← hsn] at HPO HS0
      clear hsn hsb b1 b2 b3 b4 hgd htk
      rw [HSN.out] at HSL
      generalize hSB : slideB f d = SB at *
      generalize hsc : (sn : Int) = sc at *
      have HSN : Hid (two sc 1 = fcF (sn, 1)) := by show _ = _; rw [← hsc]; rfl
      clear hsc
      go_wp2_with fail
      refine wp_region_held_drew (S := fun W => Blk W w.heap.size 16 f 47 ∧ CAt W gm L (fun i => M.getD i 0)) (by kernel_rfl) (⟨K2.drew, CM.drew⟩) (fun hHeld => ?_)
      have K2 := K2.drew
      have K4 := K4.drew
      have K5 := K5.drew
      have CM : CAt wr.drew gm L (fun i => M.getD i 0) := CM.drew
      have HB : Hid (Below w.heap.size w wr.drew) := HB.out.drew
      clear hHeld
      generalize wr.drew = x0 at *
      have hHeld : Blk x0 w.heap.size 16 f 47 ∧ CAt x0 gm L (fun i => M.getD i 0) := ⟨K2, CM⟩
      refine wpAnyH_take (i := 0) (oi := { dst := some 28, op := _, type := _, pos := _, after := _, guard := _ }) (v := .agg (mk 16 f)) rfl (by kernel_rfl) (by kernel_rfl) (by kernel_rfl) (fun _ _ _ h => h) (Or.inl ⟨by rfl, fun _ q => execB7 q.1 rfl rfl⟩) (by assumption) ?_
      try simp only [Act.put, List.setIfInBounds_toArray, List.set_cons_zero, List.set_cons_succ]
      refine wpAnyH_take (i := 1) (oi := { dst := some 29, op := _, type := _, pos := _, after := _, guard := _ }) (v := .slice (some ⟨gm, 0, none⟩) L cm) rfl (by kernel_rfl) (by kernel_rfl) (by kernel_rfl) (fun _ _ _ h => h) (Or.inl ⟨by rfl, by intro w hSw; clear hSw; go_simp; (try with_reducible rfl)⟩) (by assumption) ?_
      try simp only [Act.put, List.setIfInBounds_toArray, List.set_cons_zero, List.set_cons_succ]
      refine wpAnyH_take (i := 2) (oi := { dst := some 30, op := _, type := _, pos := _, after := _, guard := _ }) (v := .int .i64 (q : Int)) rfl (by kernel_rfl) (by kernel_rfl) (by kernel_rfl) (fun _ _ _ h => h) (Or.inl ⟨by rfl, by intro w hSw; clear hSw; go_simp; (try with_reducible rfl)⟩) (by assumption) ?_
      try simp only [Act.put, List.setIfInBounds_toArray, List.set_cons_zero, List.set_cons_succ]
      refine wpAnyH_take (i := 3) (oi := { dst := some 31, op := _, type := _, pos := _, after := _, guard := _ }) (v := .pointer (some ⟨gm, q, none⟩)) rfl (by kernel_rfl) (by kernel_rfl) (by kernel_rfl) (fun _ _ _ h => h) (Or.inl ⟨by rfl, by intro w hSw; clear hSw; go_simp; (try with_reducible rfl)⟩) (by assumption) ?_
      try simp only [Act.put, List.setIfInBounds_toArray, List.set_cons_zero, List.set_cons_succ]
      refine wpAnyH_take (i := 4) (oi := { dst := some 32, op := _, type := _, pos := _, after := _, guard := _ }) (v := .int .i64 (d : Int)) rfl (by kernel_rfl) (by kernel_rfl) (by kernel_rfl) (fun _ _ _ h => h) (Or.inl ⟨by rfl, by intro W q2; have c0 : W.cell? ⟨gm, q, none⟩ = some (.int .i64 (M.getD q 0)) := q2.2.2 q hq9; rw [HGD.out] at c0; clear q2; go_simp⟩) (by assumption) ?_
      try simp only [Act.put, List.setIfInBounds_toArray, List.set_cons_zero, List.set_cons_succ]
      refine wpAnyH_ready (rs := [5, 9]) (by kernel_rfl) (by simp) ?_
      refine AllReadyH.cons rfl (fun K hK => ?_) ?_
      · go_simp
        refine (HSL.out _).mono ?_
        rintro _ x1 ⟨rfl, hb⟩
        have K2 := K2.below hb K2.lt
        have K4 := K4.below hb K4.lt
        have K5 := K5.below hb K5.lt
        have CM := CM.below hb
        have HB : Hid (Below w.heap.size w x1) := HB.out.trans (hb.mono HB.out.size)
        clear hb hHeld
        go_wp2_with fail
        refine hK.out _ _ (⟨K2, CM⟩) (fun hHeld => ?_)
        clear hK K
        try simp only [Act.put, List.setIfInBounds_toArray, List.set_cons_zero, List.set_cons_succ]
        refine wpAnyH_take (i := 6) (oi := { dst := some 27, op := _, type := _, pos := _, after := _, guard := _ }) (v := .tuple #[.agg (mk 16 SB), .int .i64 sc]) rfl (by kernel_rfl) (by kernel_rfl) (by kernel_rfl) (fun _ _ _ h => h) (Or.inl ⟨by rfl, by intro w hSw; clear hSw; go_simp; (try with_reducible rfl)⟩) (by assumption) ?_
        try simp only [Act.put, List.setIfInBounds_toArray, List.set_cons_zero, List.set_cons_succ]
        refine wpAnyH_take (i := 7) (oi := { dst := some 34, op := _, type := _, pos := _, after := _, guard := _ }) (v := .agg (mk 16 SB)) rfl (by kernel_rfl) (by kernel_rfl) (by kernel_rfl) (fun _ _ _ h => h) (Or.inl ⟨by rfl, by intro w hSw; clear hSw; go_simp; (try with_reducible rfl)⟩) (by assumption) ?_
        try simp only [Act.put, List.setIfInBounds_toArray, List.set_cons_zero, List.set_cons_succ]
        refine wpAnyH_take (i := 8) (oi := { dst := some 35, op := _, type := _, pos := _, after := _, guard := _ }) (v := .int .i64 sc) rfl (by kernel_rfl) (by kernel_rfl) (by kernel_rfl) (fun _ _ _ h => h) (Or.inl ⟨by rfl, by intro w hSw; clear hSw; go_simp; (try with_reducible rfl)⟩) (by assumption) ?_
        try simp only [Act.put, List.setIfInBounds_toArray, List.set_cons_zero, List.set_cons_succ]
        refine wpAnyH_ready (rs := [9]) (by kernel_rfl) (by simp) ?_
        refine AllReadyH.cons rfl (fun K hK => ?_) AllReadyH.nil
        go_simp
        clear hHeld
        have hl4 : w.heap.size + 1 < x1.heap.size := K4.lt
        have hl5 : bq < x1.heap.size := K5.lt
        have hl6 : gm < x1.heap.size := CM.1
        have KN := Blk.new x1 16 (fun _ => 0) 47
        have K2 := K2.alloc (.cells (mk 16 fun _ => 0) 47)
        have K4 := K4.alloc (.cells (mk 16 fun _ => 0) 47)
        have K5 := K5.alloc (.cells (mk 16 fun _ => 0) 47)
        have CM := CM.alloc (.cells (mk 16 fun _ => 0) 47)
        have HB : Hid (Below w.heap.size w (x1.alloc (.cells (mk 16 fun _ => 0) 47))) := HB.out.alloc HB.out.size _
        generalize x1.alloc (.cells (mk 16 fun _ => 0) 47) = x2 at *
        generalize x1.heap.size = bN at *
        refine hK.out _ _ (⟨K2, CM⟩) (fun hHeld => ?_)
        clear hK K
        try simp only [Act.put, List.setIfInBounds_toArray, List.set_cons_zero, List.set_cons_succ]
        refine wpAnyH_ready (rs := [10]) (by kernel_rfl) (by simp) ?_
        refine AllReadyH.cons rfl (fun K hK => ?_) AllReadyH.nil
        have st1 := run_store_blk (P := Try.prog) (g := SB) KN
        have ms1 : (mk 16 SB).size = 16 := mk_size 16 _
        go_simp
        clear st1 ms1 hHeld
        have hgr : x2.grownBy (x2.setRow bN (mk 16 SB)) (some bN) := grown_row KN _
        have CM := CM.grown hgr (fun e => by cases e; omega)
        have K2 := K2.rowOther bN (mk 16 SB) (by omega)
        have K4 := K4.rowOther bN (mk 16 SB) (by omega)
        have K5 := K5.rowOther bN (mk 16 SB) (by omega)
        have HB : Hid (Below w.heap.size w (x2.setRow bN (mk 16 SB))) := below_setRow HB.out (by omega) _
        clear hgr KN
        generalize x2.setRow bN (mk 16 SB) = x3 at *
        refine hK.out _ _ (⟨K2, CM⟩) (fun hHeld => ?_)
        clear hK K
        try simp only [Act.put, List.setIfInBounds_toArray, List.set_cons_zero, List.set_cons_succ]
        refine wpAnyH_take (i := 11) (oi := { dst := some 9, op := _, type := _, pos := _, after := _, guard := _ }) (v := .int .i64 sc) rfl (by kernel_rfl) (by kernel_rfl) (by kernel_rfl) (fun _ _ _ h => h) (Or.inl ⟨by rfl, by intro w hSw; clear hSw; go_simp; (try with_reducible rfl)⟩) (by assumption) ?_
        try simp only [Act.put, List.setIfInBounds_toArray, List.set_cons_zero, List.set_cons_succ]
        refine wpAnyH_done (by kernel_rfl) ?_ _
        clear hHeld
        have hlS4 : w.heap.size + 1 < x3.heap.size := K4.lt
        have hlS5 : bq < x3.heap.size := K5.lt
        have hlS6 : gm < x3.heap.size := CM.1
        have K2 := K2.alloc (.cells (mk 2 (two sc 1)) 42)
        have K4 := K4.alloc (.cells (mk 2 (two sc 1)) 42)
        have K5 := K5.alloc (.cells (mk 2 (two sc 1)) 42)
        have CM := CM.alloc (.cells (mk 2 (two sc 1)) 42)
        have KS : Blk (x3.alloc (.cells (mk 2 (two sc 1)) 42)) x3.heap.size 2 (fcF (sn, 1)) 42 := by
          have := Blk.new x3 2 (two sc 1) 42
          rw [HSN.out] at *
          exact this
        have HB : Hid (Below w.heap.size w (x3.alloc (.cells (mk 2 (two sc 1)) 42))) := HB.out.alloc HB.out.size _
        have hbS1 : w.heap.size + 1 < x3.heap.size := hlS4
        go_wp2_with (first | ((with_reducible show wpList _ _ _ (Oper.mk _ (Op.store 42 _ _) _ _ _ _ :: _) _ _); refine storeC (g := two _ _) (Blk.new _ _ _ _) rfl rfl rfl rfl ?_; rw [World.setRow_alloc_new]))
        generalize x3.alloc (.cells (mk 2 (two sc 1)) 42) = z0 at *
        generalize x3.heap.size = bS at *
        refine wp_region_held_drew (S := fun W => Blk W w.heap.size 16 f 47 ∧ CAt W gm L (fun i => M.getD i 0)) (by kernel_rfl) (⟨K2.drew, CM.drew⟩) (fun hHeld => ?_)
        have K2 := K2.drew
        have K4 := K4.drew
        have K5 := K5.drew
        have KS := KS.drew
        have CM : CAt z0.drew gm L (fun i => M.getD i 0) := CM.drew
        have HB : Hid (Below w.heap.size w z0.drew) := HB.out.drew
        clear hHeld
        generalize z0.drew = z1 at *
        have hHeld : Blk z1 w.heap.size 16 f 47 ∧ CAt z1 gm L (fun i => M.getD i 0) := ⟨K2, CM⟩
        refine wpAnyH_take (i := 0) (oi := { dst := some 40, op := _, type := _, pos := _, after := _, guard := _ }) (v := .agg (mk 16 f)) rfl (by kernel_rfl) (by kernel_rfl) (by kernel_rfl) (fun _ _ _ h => h) (Or.inl ⟨by rfl, fun _ q => execB7 q.1 rfl rfl⟩) (by assumption) ?_
        try simp only [Act.put, List.setIfInBounds_toArray, List.set_cons_zero, List.set_cons_succ]
        refine wpAnyH_take (i := 1) (oi := { dst := some 41, op := _, type := _, pos := _, after := _, guard := _ }) (v := .slice (some ⟨gm, 0, none⟩) L cm) rfl (by kernel_rfl) (by kernel_rfl) (by kernel_rfl) (fun _ _ _ h => h) (Or.inl ⟨by rfl, by intro w hSw; clear hSw; go_simp; (try with_reducible rfl)⟩) (by assumption) ?_
        try simp only [Act.put, List.setIfInBounds_toArray, List.set_cons_zero, List.set_cons_succ]
        refine wpAnyH_take (i := 2) (oi := { dst := some 42, op := _, type := _, pos := _, after := _, guard := _ }) (v := .int .i64 (q : Int)) rfl (by kernel_rfl) (by kernel_rfl) (by kernel_rfl) (fun _ _ _ h => h) (Or.inl ⟨by rfl, by intro w hSw; clear hSw; go_simp; (try with_reducible rfl)⟩) (by assumption) ?_
        try simp only [Act.put, List.setIfInBounds_toArray, List.set_cons_zero, List.set_cons_succ]
        refine wpAnyH_take (i := 3) (oi := { dst := some 43, op := _, type := _, pos := _, after := _, guard := _ }) (v := .pointer (some ⟨gm, q, none⟩)) rfl (by kernel_rfl) (by kernel_rfl) (by kernel_rfl) (fun _ _ _ h => h) (Or.inl ⟨by rfl, by intro w hSw; clear hSw; go_simp; (try with_reducible rfl)⟩) (by assumption) ?_
        try simp only [Act.put, List.setIfInBounds_toArray, List.set_cons_zero, List.set_cons_succ]
        refine wpAnyH_take (i := 4) (oi := { dst := some 44, op := _, type := _, pos := _, after := _, guard := _ }) (v := .int .i64 (d : Int)) rfl (by kernel_rfl) (by kernel_rfl) (by kernel_rfl) (fun _ _ _ h => h) (Or.inl ⟨by rfl, by intro W q2; have c0 : W.cell? ⟨gm, q, none⟩ = some (.int .i64 (M.getD q 0)) := q2.2.2 q hq9; rw [HGD.out] at c0; clear q2; go_simp⟩) (by assumption) ?_
        try simp only [Act.put, List.setIfInBounds_toArray, List.set_cons_zero, List.set_cons_succ]
        refine wpAnyH_ready (rs := [5]) (by kernel_rfl) (by simp) ?_
        refine AllReadyH.cons rfl (fun K hK => ?_) AllReadyH.nil
        go_simp
        refine (HST.out _).mono ?_
        rintro _ z2 ⟨gs, cs, rfl, hs, hb⟩
        have CS : CAt z2 gs ((stepL f d).length * 4) (flatF (stepL f d)) := by
          obtain ⟨_, _, e1, _, hc⟩ := KRow.of_list HSA.out hs
          cases e1
          exact hc
        have hgsS : bS < gs := by have h1 := (hs.lt gs rfl).1; have h2 := KS.lt; omega
        have K2 := K2.below hb K2.lt
        have K4 := K4.below hb K4.lt
        have K5 := K5.below hb K5.lt
        have KS := KS.below hb KS.lt
        have CM := CM.below hb
        have HB : Hid (Below w.heap.size w z2) := HB.out.trans (hb.mono HB.out.size)
        clear hb hs hHeld
        go_wp2_with fail
        refine hK.out _ _ ⟨K2, CM⟩ (fun hHeld => ?_)
        clear hK K
        try simp only [Act.put, List.setIfInBounds_toArray, List.set_cons_zero, List.set_cons_succ]
        refine wpAnyH_take (i := 6) (oi := { dst := some 11, op := _, type := _, pos := _, after := _, guard := _ }) (v := .slice (some ⟨gs, 0, none⟩) (stepL f d).length cs) rfl (by kernel_rfl) (by kernel_rfl) (by kernel_rfl) (fun _ _ _ h => h) (Or.inl ⟨by rfl, by intro w hSw; clear hSw; go_simp; (try with_reducible rfl)⟩) (by assumption) ?_
        try simp only [Act.put, List.setIfInBounds_toArray, List.set_cons_zero, List.set_cons_succ]
        refine wpAnyH_done (by kernel_rfl) ?_ _
        clear hHeld
        generalize hNN : (stepL f d).length = n at *
        generalize hHH : flatF (stepL f d) = hh at *
        go_wp2_with ((with_reducible show wpList _ _ _ (Oper.mk _ (Op.load 47 _) _ _ _ _ :: _) _ _); refine loadB (K2) rfl rfl rfl ?_)
        refine (l9Boards_any f gs cs n hh F _ HV.out CS hn2 HF.out).mono ?_
        rintro _ z3 ⟨gb, cb, rfl, hbo, hb⟩
        have hgbS : bS < gb := by have h1 := (hbo.lt gb rfl).1; have h2 := KS.lt; omega
        have CB := bd_mem7 hbo
        have K2 := K2.below hb K2.lt
        have K4 := K4.below hb K4.lt
        have K5 := K5.below hb K5.lt
        have KS := KS.below hb KS.lt
        have CM := CM.below hb
        have CS := CS.below hb
        have HB : Hid (Below w.heap.size w z3) := HB.out.trans (hb.mono HB.out.size)
        have HNB : Hid (gb ≠ bS) := by show _ ≠ _; omega
        have HNS : Hid (gs ≠ bS) := by show _ ≠ _; omega
        rw [← HS0.out] at KS
        have KS : Blk z3 bS 2 (fcF (ptF s0 T S (5 * n) 0)) 42 := KS
        clear hb hbo
        have HAT : Hid (∀ k, k < n → mk 16 (fun j => flatF (bdL F n) (k * 16 + j)) = mk 16 (F k)) := fun k hk => by
          rw [flatF_mk (bdL_all F n) (bdL_at F hk)]
          exact mk_congr fun i hi => fn_cl _ i hi
        generalize flatF (bdL F n) = hb at *
        go_wp2_with fail
        go_loopg [13] n (fun gk sI wr => ∃ (k : Nat), k + gk = n ∧ sI = .int .i64 k ∧ CAt wr gm L (fun i => M.getD i 0) ∧ CAt wr gb (n * 16) hb ∧ CAt wr gs (n * 4) hh ∧ Blk wr w.heap.size 16 f 47 ∧ Blk wr (w.heap.size + 1) 2 (fun _ => 0) 42 ∧ Blk wr bq 2 (fcF (mxL V (M.take q))) 42 ∧ Blk wr bS 2 (fcF (ptF s0 T S (5 * n) k)) 42 ∧ Hid (Below w.heap.size w wr))
        case atStart => exact ⟨0, by omega, rfl, CM, CB, CS, K2, K4, K5, KS, HB⟩
        case round =>
          obtain ⟨k, hkg, rfl, CM, CB, CS, K2, K4, K5, KS, HB⟩ := hrel
          cases gk with
          | zero =>
            have hk : ¬ ((k : Int) < (n : Int)) := by omega
            obtain rfl : k = n := by omega
            clear hkg
            rw [HMN.out] at KS
            go_wp2_with (first | ((with_reducible show wpList _ _ _ (Oper.mk _ (Op.load 42 _) _ _ _ _ :: _) _ _); refine loadC (K5) rfl rfl rfl ?_) | ((with_reducible show wpList _ _ _ (Oper.mk _ (Op.load 42 _) _ _ _ _ :: _) _ _); refine loadC (KS) rfl rfl rfl ?_))
            refine (HLS.out _).mono ?_
            rintro _ y1 ⟨rfl, hb⟩
            have K2 := K2.below hb K2.lt
            have K4 := K4.below hb K4.lt
            have K5 := K5.below hb K5.lt
            have KS := KS.below hb KS.lt
            have CM := CM.below hb
            have HB : Hid (Below w.heap.size w y1) := HB.out.trans (hb.mono HB.out.size)
            clear hb
            cases hlt : ltF (mxL V (M.take q)) (V d) with
            | true =>
              have HN : Hid (mxL V (M.take (q + 1)) = V d) := by
                show _ = _; rw [HTK.out, mxL_snoc]; unfold mxS; rw [Int.toNat_natCast, hlt]; rfl
              clear hlt
              go_wp2_with (first | ((with_reducible show wpList _ _ _ (Oper.mk _ (Op.load 42 _) _ _ _ _ :: _) _ _); refine loadC (KS) rfl rfl rfl ?_) | ((with_reducible show wpList _ _ _ (Oper.mk _ (Op.store 42 _ _) _ _ _ _ :: _) _ _); refine storeC (K5) rfl rfl rfl rfl ?_))
              have hgr : y1.grownBy (y1.setRow bq (mk 2 (fcF (V d)))) (some bq) := grown_row K5 _
              have CM := CM.grown hgr (fun e => by cases e; omega)
              have K2 := K2.rowOther bq (mk 2 (fcF (V d))) (by omega)
              have K4 := K4.rowOther bq (mk 2 (fcF (V d))) (by omega)
              have HB : Hid (Below w.heap.size w (y1.setRow bq (mk 2 (fcF (V d))))) := below_setRow HB.out (by omega) _
              have K5 := K5.row 2 (fcF (V d))
              rw [← HN.out] at K5
              clear hgr
              rw [← HN.out] at *
              go_roundg gq2
              case rel => exact ⟨q + 1, by omega, by go_num, CM, K2, K4, K5, HB⟩
              case measure => omega
            | false =>
              have HN : Hid (mxL V (M.take (q + 1)) = mxL V (M.take q)) := by
                show _ = _; rw [HTK.out, mxL_snoc]; unfold mxS; rw [Int.toNat_natCast, hlt]; rfl
              clear hlt
              rw [← HN.out] at K5
              go_wp2_with fail
              go_roundg gq2
              case rel => exact ⟨q + 1, by omega, by go_num, CM, K2, K4, K5, HB⟩
              case measure => omega
          | succ gk2 =>
            have hk8 : (k : Int) < (n : Int) := by omega
            have hk9 : k < n := by omega
            have hk0 : (0 : Int) ≤ (k : Int) := by omega
            have HAK : Hid (mk 16 (fun j => hb (k * 16 + j)) = mk 16 (F k)) := HAT.out k hk9
            have HWT : Hid (wtI (hh (k * 4 + 3)) = wtP (psF S k)) := HWI.out k hk9
            have H5 : Hid ((5 : Int) * (n : Int) = ((5 * n : Nat) : Int)) := by show _ = _; omega
            have HPT := Lib.hid (HPO.out.part k hk9)
            have HSU := Lib.hid (HPO.out.sum k hk9)
            rw [HFK.out k] at HPT HSU
            rw [← HS0.out] at HSU
            have HPS : Hid (plusF (ptF s0 T S (5 * n) k) (partF (T (F k)) (wtP (psF S k)) (5 * n)) = ptF s0 T S (5 * n) (k + 1)) := by
              show _ = plusF _ (partF (T (plB S (psF S k))) _ _)
              rw [HFK.out k]
            have HCK := Lib.hid (fun w => show Calls Try.prog 206 #[.agg (mk 16 (F k)), .int .i64 1] w fun e w' => e = .returned (.agg (mk 2 (fcF (ScF 1 (F k))))) ∧ Below w.heap.size w w' from HCC1.out (F k) w (HVF.out k hk9))
            rw [← HTT.out] at HCK
            go_wp2_with fail
            refine wp_region_held_drew (S := fun W => CAt W gb (n * 16) hb ∧ CAt W gs (n * 4) hh) (by kernel_rfl) (⟨CB.drew, CS.drew⟩) (fun hHeld => ?_)
            have K2 := K2.drew
            have K4 := K4.drew
            have K5 := K5.drew
            have KS := KS.drew
            have CM : CAt wr.drew gm L (fun i => M.getD i 0) := CM.drew
            have CB : CAt wr.drew gb (n * 16) hb := CB.drew
            have CS : CAt wr.drew gs (n * 4) hh := CS.drew
            have HB : Hid (Below w.heap.size w wr.drew) := HB.out.drew
            clear hHeld
            generalize wr.drew = x0 at *
            have hHeld : CAt x0 gb (n * 16) hb ∧ CAt x0 gs (n * 4) hh := ⟨CB, CS⟩
            refine wpAnyH_take (i := 1) (oi := { dst := some 56, op := _, type := _, pos := _, after := _, guard := _ }) (v := .slice (some ⟨gb, 0, none⟩) n cb) rfl (by kernel_rfl) (by kernel_rfl) (by kernel_rfl) (fun _ _ _ h => h) (Or.inl ⟨by rfl, by intro w hSw; clear hSw; go_simp; (try with_reducible rfl)⟩) (by assumption) ?_
            try simp only [Act.put, List.setIfInBounds_toArray, List.set_cons_zero, List.set_cons_succ]
            refine wpAnyH_take (i := 2) (oi := { dst := some 57, op := _, type := _, pos := _, after := _, guard := _ }) (v := .int .i64 (k : Int)) rfl (by kernel_rfl) (by kernel_rfl) (by kernel_rfl) (fun _ _ _ h => h) (Or.inl ⟨by rfl, by intro w hSw; clear hSw; go_simp; (try with_reducible rfl)⟩) (by assumption) ?_
            try simp only [Act.put, List.setIfInBounds_toArray, List.set_cons_zero, List.set_cons_succ]
            refine wpAnyH_take (i := 3) (oi := { dst := some 58, op := _, type := _, pos := _, after := _, guard := _ }) (v := .pointer (some ⟨gb, k * 16, none⟩)) rfl (by kernel_rfl) (by kernel_rfl) (by kernel_rfl) (fun _ _ _ h => h) (Or.inl ⟨by rfl, by intro w hSw; clear hSw; go_simp; (try with_reducible rfl)⟩) (by assumption) ?_
            try simp only [Act.put, List.setIfInBounds_toArray, List.set_cons_zero, List.set_cons_succ]
            refine wpAnyH_take (i := 4) (oi := { dst := some 59, op := _, type := _, pos := _, after := _, guard := _ }) (v := .agg (mk 16 (F k))) rfl (by kernel_rfl) (by kernel_rfl) (by kernel_rfl) (fun _ _ _ h => h) (Or.inl ⟨by rfl, by intro W p; rw [← HAK.out]; exact execAB7 p.1 (by omega) rfl rfl⟩) (by assumption) ?_
            try simp only [Act.put, List.setIfInBounds_toArray, List.set_cons_zero, List.set_cons_succ]
            refine wpAnyH_take (i := 5) (oi := { dst := some 60, op := _, type := _, pos := _, after := _, guard := _ }) (v := .int .i64 2) rfl (by kernel_rfl) (by kernel_rfl) (by kernel_rfl) (fun _ _ _ h => h) (Or.inl ⟨by rfl, by intro w hSw; clear hSw; go_simp; (try with_reducible rfl)⟩) (by assumption) ?_
            try simp only [Act.put, List.setIfInBounds_toArray, List.set_cons_zero, List.set_cons_succ]
            refine wpAnyH_take (i := 6) (oi := { dst := some 61, op := _, type := _, pos := _, after := _, guard := _ }) (v := .int .i64 1) rfl (by kernel_rfl) (by kernel_rfl) (by kernel_rfl) (fun _ _ _ h => h) (Or.inl ⟨by rfl, by intro W q2; clear q2; go_simp; exact fit9 (a := 1) (by decide)⟩) (by assumption) ?_
            try simp only [Act.put, List.setIfInBounds_toArray, List.set_cons_zero, List.set_cons_succ]
            refine wpAnyH_take (i := 8) (oi := { dst := some 63, op := _, type := _, pos := _, after := _, guard := _ }) (v := .slice (some ⟨gs, 0, none⟩) n cs) rfl (by kernel_rfl) (by kernel_rfl) (by kernel_rfl) (fun _ _ _ h => h) (Or.inl ⟨by rfl, by intro w hSw; clear hSw; go_simp; (try with_reducible rfl)⟩) (by assumption) ?_
            try simp only [Act.put, List.setIfInBounds_toArray, List.set_cons_zero, List.set_cons_succ]
            refine wpAnyH_take (i := 9) (oi := { dst := some 64, op := _, type := _, pos := _, after := _, guard := _ }) (v := .int .i64 (k : Int)) rfl (by kernel_rfl) (by kernel_rfl) (by kernel_rfl) (fun _ _ _ h => h) (Or.inl ⟨by rfl, by intro w hSw; clear hSw; go_simp; (try with_reducible rfl)⟩) (by assumption) ?_
            try simp only [Act.put, List.setIfInBounds_toArray, List.set_cons_zero, List.set_cons_succ]
            refine wpAnyH_take (i := 10) (oi := { dst := some 65, op := _, type := _, pos := _, after := _, guard := _ }) (v := .pointer (some ⟨gs, k * 4, none⟩)) rfl (by kernel_rfl) (by kernel_rfl) (by kernel_rfl) (fun _ _ _ h => h) (Or.inl ⟨by rfl, by intro w hSw; clear hSw; go_simp; (try with_reducible rfl)⟩) (by assumption) ?_
            try simp only [Act.put, List.setIfInBounds_toArray, List.set_cons_zero, List.set_cons_succ]
            refine wpAnyH_take (i := 11) (oi := { dst := some 66, op := _, type := _, pos := _, after := _, guard := _ }) (v := .agg (mk 4 fun j => hh (k * 4 + j))) rfl (by kernel_rfl) (by kernel_rfl) (by kernel_rfl) (fun _ _ _ h => h) (Or.inl ⟨by rfl, fun _ q => execAT q.2 (by omega) rfl rfl⟩) (by assumption) ?_
            try simp only [Act.put, List.setIfInBounds_toArray, List.set_cons_zero, List.set_cons_succ]
            refine wpAnyH_take (i := 13) (oi := { dst := some 68, op := _, type := _, pos := _, after := _, guard := _ }) (v := .slice (some ⟨gs, 0, none⟩) n cs) rfl (by kernel_rfl) (by kernel_rfl) (by kernel_rfl) (fun _ _ _ h => h) (Or.inl ⟨by rfl, by intro w hSw; clear hSw; go_simp; (try with_reducible rfl)⟩) (by assumption) ?_
            try simp only [Act.put, List.setIfInBounds_toArray, List.set_cons_zero, List.set_cons_succ]
            refine wpAnyH_take (i := 14) (oi := { dst := some 69, op := _, type := _, pos := _, after := _, guard := _ }) (v := .int .i64 (n : Int)) rfl (by kernel_rfl) (by kernel_rfl) (by kernel_rfl) (fun _ _ _ h => h) (Or.inl ⟨by rfl, by intro w hSw; clear hSw; go_simp; (try with_reducible rfl)⟩) (by assumption) ?_
            try simp only [Act.put, List.setIfInBounds_toArray, List.set_cons_zero, List.set_cons_succ]
            refine wpAnyH_take (i := 15) (oi := { dst := some 70, op := _, type := _, pos := _, after := _, guard := _ }) (v := .int .i64 ((5 * n : Nat) : Int)) rfl (by kernel_rfl) (by kernel_rfl) (by kernel_rfl) (fun _ _ _ h => h) (Or.inl ⟨by rfl, by intro W q; clear q; go_simp; (try rw [H5.out]); (try exact fit9 (by omega))⟩) (by assumption) ?_
            try simp only [Act.put, List.setIfInBounds_toArray, List.set_cons_zero, List.set_cons_succ]
            refine wpAnyH_ready (rs := [0, 7]) (by kernel_rfl) (by simp) ?_
            refine AllReadyH.cons rfl (fun K hK => ?_) ?_
            · rw [if_pos (by rfl)]
              refine wp_ldC7 KS rfl rfl ?_
              refine hK.out _ _ ⟨CB, CS⟩ (fun hHeld => ?_)
              clear hK K
              try simp only [Act.put, List.setIfInBounds_toArray, List.set_cons_zero, List.set_cons_succ]
              refine wpAnyH_ready (rs := [7]) (by kernel_rfl) (by simp) ?_
              refine AllReadyH.cons rfl (fun K hK => ?_) AllReadyH.nil
              go_simp
              refine (HCK.out _).mono ?_
              rintro _ x1 ⟨rfl, hb2⟩
              have K2 := K2.below hb2 K2.lt
              have K4 := K4.below hb2 K4.lt
              have K5 := K5.below hb2 K5.lt
              have KS := KS.below hb2 KS.lt
              have CM := CM.below hb2
              have CB := CB.below hb2
              have CS := CS.below hb2
              have HB : Hid (Below w.heap.size w x1) := HB.out.trans (hb2.mono HB.out.size)
              clear hb2 hHeld
              go_wp2_with fail
              refine hK.out _ _ ⟨CB, CS⟩ (fun hHeld => ?_)
              clear hK K
              try simp only [Act.put, List.setIfInBounds_toArray, List.set_cons_zero, List.set_cons_succ]
              refine wpAnyH_ready (rs := [12]) (by kernel_rfl) (by simp) ?_
              refine AllReadyH.cons rfl (fun K hK => ?_) AllReadyH.nil
              have HWC := l9Weight_any (fun j => hh (k * 4 + j)) x1
              rw [HWT.out] at HWC
              go_simp
              refine HWC.mono ?_
              rintro _ x2 ⟨rfl, hb2⟩
              clear HWC
              have K2 := K2.below hb2 K2.lt
              have K4 := K4.below hb2 K4.lt
              have K5 := K5.below hb2 K5.lt
              have KS := KS.below hb2 KS.lt
              have CM := CM.below hb2
              have CB := CB.below hb2
              have CS := CS.below hb2
              have HB : Hid (Below w.heap.size w x2) := HB.out.trans (hb2.mono HB.out.size)
              clear hb2 hHeld
              go_wp2_with fail
              refine hK.out _ _ ⟨CB, CS⟩ (fun hHeld => ?_)
              clear hK K
              try simp only [Act.put, List.setIfInBounds_toArray, List.set_cons_zero, List.set_cons_succ]
              refine wpAnyH_ready (rs := [16]) (by kernel_rfl) (by simp) ?_
              refine AllReadyH.cons rfl (fun K hK => ?_) AllReadyH.nil
              go_simp
              refine (l9Part_any (T (F k)) (wtP (psF S k)) (5 * n) _ HPT.out.1 (by omega) HPT.out.2.1 HPT.out.2.2).mono ?_
              rintro _ x3 ⟨rfl, hb2⟩
              have K2 := K2.below hb2 K2.lt
              have K4 := K4.below hb2 K4.lt
              have K5 := K5.below hb2 K5.lt
              have KS := KS.below hb2 KS.lt
              have CM := CM.below hb2
              have CB := CB.below hb2
              have CS := CS.below hb2
              have HB : Hid (Below w.heap.size w x3) := HB.out.trans (hb2.mono HB.out.size)
              clear hb2 hHeld
              go_wp2_with fail
              refine hK.out _ _ ⟨CB, CS⟩ (fun hHeld => ?_)
              clear hK K
              try simp only [Act.put, List.setIfInBounds_toArray, List.set_cons_zero, List.set_cons_succ]
              refine wpAnyH_ready (rs := [17]) (by kernel_rfl) (by simp) ?_
              refine AllReadyH.cons rfl (fun K hK => ?_) AllReadyH.nil
              go_simp
              refine (l9Plus_any (ptF s0 T S (5 * n) k) (partF (T (F k)) (wtP (psF S k)) (5 * n)) _ HSU.out.1 HSU.out.2.1 HSU.out.2.2.1 HSU.out.2.2.2.1 HSU.out.2.2.2.2).mono ?_
              rintro _ x4 ⟨rfl, hb2⟩
              have K2 := K2.below hb2 K2.lt
              have K4 := K4.below hb2 K4.lt
              have K5 := K5.below hb2 K5.lt
              have KS := KS.below hb2 KS.lt
              have CM := CM.below hb2
              have CB := CB.below hb2
              have CS := CS.below hb2
              have HB : Hid (Below w.heap.size w x4) := HB.out.trans (hb2.mono HB.out.size)
              clear hb2 hHeld
              go_wp2_with fail
              refine hK.out _ _ ⟨CB, CS⟩ (fun hHeld => ?_)
              clear hK K
              try simp only [Act.put, List.setIfInBounds_toArray, List.set_cons_zero, List.set_cons_succ]
              refine wpAnyH_ready (rs := [18]) (by kernel_rfl) (by simp) ?_
              refine AllReadyH.cons rfl (fun K hK => ?_) AllReadyH.nil
              have st1 := run_store_blk (P := Try.prog) (g := fcF (plusF (ptF s0 T S (5 * n) k) (partF (T (F k)) (wtP (psF S k)) (5 * n)))) KS
              have ms1 : (mk 2 (fcF (plusF (ptF s0 T S (5 * n) k) (partF (T (F k)) (wtP (psF S k)) (5 * n))))).size = 2 := mk_size 2 _
              rw [HPS.out] at *
              go_simp
              clear st1 ms1 hHeld
              have hgr : x4.grownBy (x4.setRow bS (mk 2 (fcF (ptF s0 T S (5 * n) (k + 1))))) (some bS) := grown_row KS _
              have CM := CM.grown hgr (fun e => by cases e; omega)
              have CB := CB.grown hgr (fun e => by cases e; exact absurd rfl HNB.out)
              have CS := CS.grown hgr (fun e => by cases e; exact absurd rfl HNS.out)
              have K2 := K2.rowOther bS (mk 2 (fcF (ptF s0 T S (5 * n) (k + 1)))) (by omega)
              have K4 := K4.rowOther bS (mk 2 (fcF (ptF s0 T S (5 * n) (k + 1)))) (by omega)
              have K5 := K5.rowOther bS (mk 2 (fcF (ptF s0 T S (5 * n) (k + 1)))) (by omega)
              have HB : Hid (Below w.heap.size w (x4.setRow bS (mk 2 (fcF (ptF s0 T S (5 * n) (k + 1)))))) := below_setRow HB.out (by omega) _
              have KS := KS.row 2 (fcF (ptF s0 T S (5 * n) (k + 1)))
              clear hgr
              generalize x4.setRow bS (mk 2 (fcF (ptF s0 T S (5 * n) (k + 1)))) = x5 at *
              refine hK.out _ _ ⟨CB, CS⟩ (fun hHeld => ?_)
              clear hK K
              try simp only [Act.put, List.setIfInBounds_toArray, List.set_cons_zero, List.set_cons_succ]
              refine wpAnyH_done (by kernel_rfl) ?_ _
              clear hHeld
              go_wp2_with fail
              go_roundg gk2
              case rel => exact ⟨k + 1, by omega, by go_num, CM, CB, CS, K2, K4, K5, KS, HB⟩
              case measure => omega
            refine AllReadyH.cons rfl (fun K hK => ?_) AllReadyH.nil
            go_simp
            refine (HCK.out _).mono ?_
            rintro _ x6 ⟨rfl, hb2⟩
            have K2 := K2.below hb2 K2.lt
            have K4 := K4.below hb2 K4.lt
            have K5 := K5.below hb2 K5.lt
            have KS := KS.below hb2 KS.lt
            have CM := CM.below hb2
            have CB := CB.below hb2
            have CS := CS.below hb2
            have HB : Hid (Below w.heap.size w x6) := HB.out.trans (hb2.mono HB.out.size)
            clear hb2 hHeld
            go_wp2_with fail
            refine hK.out _ _ ⟨CB, CS⟩ (fun hHeld => ?_)
            clear hK K
            try simp only [Act.put, List.setIfInBounds_toArray, List.set_cons_zero, List.set_cons_succ]
            refine wpAnyH_ready (rs := [0, 12]) (by kernel_rfl) (by simp) ?_
            refine AllReadyH.cons rfl (fun K hK => ?_) ?_
            · rw [if_pos (by rfl)]
              refine wp_ldC7 KS rfl rfl ?_
              refine hK.out _ _ ⟨CB, CS⟩ (fun hHeld => ?_)
              clear hK K
              try simp only [Act.put, List.setIfInBounds_toArray, List.set_cons_zero, List.set_cons_succ]
              refine wpAnyH_ready (rs := [12]) (by kernel_rfl) (by simp) ?_
              refine AllReadyH.cons rfl (fun K hK => ?_) AllReadyH.nil
              have HWC := l9Weight_any (fun j => hh (k * 4 + j)) x6
              rw [HWT.out] at HWC
              go_simp
              refine HWC.mono ?_
              rintro _ x7 ⟨rfl, hb2⟩
              clear HWC
              have K2 := K2.below hb2 K2.lt
              have K4 := K4.below hb2 K4.lt
              have K5 := K5.below hb2 K5.lt
              have KS := KS.below hb2 KS.lt
              have CM := CM.below hb2
              have CB := CB.below hb2
              have CS := CS.below hb2
              have HB : Hid (Below w.heap.size w x7) := HB.out.trans (hb2.mono HB.out.size)
              clear hb2 hHeld
              go_wp2_with fail
              refine hK.out _ _ ⟨CB, CS⟩ (fun hHeld => ?_)
              clear hK K
              try simp only [Act.put, List.setIfInBounds_toArray, List.set_cons_zero, List.set_cons_succ]
              refine wpAnyH_ready (rs := [16]) (by kernel_rfl) (by simp) ?_
              refine AllReadyH.cons rfl (fun K hK => ?_) AllReadyH.nil
              go_simp
              refine (l9Part_any (T (F k)) (wtP (psF S k)) (5 * n) _ HPT.out.1 (by omega) HPT.out.2.1 HPT.out.2.2).mono ?_
              rintro _ x8 ⟨rfl, hb2⟩
              have K2 := K2.below hb2 K2.lt
              have K4 := K4.below hb2 K4.lt
              have K5 := K5.below hb2 K5.lt
              have KS := KS.below hb2 KS.lt
              have CM := CM.below hb2
              have CB := CB.below hb2
              have CS := CS.below hb2
              have HB : Hid (Below w.heap.size w x8) := HB.out.trans (hb2.mono HB.out.size)
              clear hb2 hHeld
              go_wp2_with fail
              refine hK.out _ _ ⟨CB, CS⟩ (fun hHeld => ?_)
              clear hK K
              try simp only [Act.put, List.setIfInBounds_toArray, List.set_cons_zero, List.set_cons_succ]
              refine wpAnyH_ready (rs := [17]) (by kernel_rfl) (by simp) ?_
              refine AllReadyH.cons rfl (fun K hK => ?_) AllReadyH.nil
              go_simp
              refine (l9Plus_any (ptF s0 T S (5 * n) k) (partF (T (F k)) (wtP (psF S k)) (5 * n)) _ HSU.out.1 HSU.out.2.1 HSU.out.2.2.1 HSU.out.2.2.2.1 HSU.out.2.2.2.2).mono ?_
              rintro _ x9 ⟨rfl, hb2⟩
              have K2 := K2.below hb2 K2.lt
              have K4 := K4.below hb2 K4.lt
              have K5 := K5.below hb2 K5.lt
              have KS := KS.below hb2 KS.lt
              have CM := CM.below hb2
              have CB := CB.below hb2
              have CS := CS.below hb2
              have HB : Hid (Below w.heap.size w x9) := HB.out.trans (hb2.mono HB.out.size)
              clear hb2 hHeld
              go_wp2_with fail
              refine hK.out _ _ ⟨CB, CS⟩ (fun hHeld => ?_)
              clear hK K
              try simp only [Act.put, List.setIfInBounds_toArray, List.set_cons_zero, List.set_cons_succ]
              refine wpAnyH_ready (rs := [18]) (by kernel_rfl) (by simp) ?_
              refine AllReadyH.cons rfl (fun K hK => ?_) AllReadyH.nil
              have st1 := run_store_blk (P := Try.prog) (g := fcF (plusF (ptF s0 T S (5 * n) k) (partF (T (F k)) (wtP (psF S k)) (5 * n)))) KS
              have ms1 : (mk 2 (fcF (plusF (ptF s0 T S (5 * n) k) (partF (T (F k)) (wtP (psF S k)) (5 * n))))).size = 2 := mk_size 2 _
              rw [HPS.out] at *
              go_simp
              clear st1 ms1 hHeld
              have hgr : x9.grownBy (x9.setRow bS (mk 2 (fcF (ptF s0 T S (5 * n) (k + 1))))) (some bS) := grown_row KS _
              have CM := CM.grown hgr (fun e => by cases e; omega)
              have CB := CB.grown hgr (fun e => by cases e; exact absurd rfl HNB.out)
              have CS := CS.grown hgr (fun e => by cases e; exact absurd rfl HNS.out)
              have K2 := K2.rowOther bS (mk 2 (fcF (ptF s0 T S (5 * n) (k + 1)))) (by omega)
              have K4 := K4.rowOther bS (mk 2 (fcF (ptF s0 T S (5 * n) (k + 1)))) (by omega)
              have K5 := K5.rowOther bS (mk 2 (fcF (ptF s0 T S (5 * n) (k + 1)))) (by omega)
              have HB : Hid (Below w.heap.size w (x9.setRow bS (mk 2 (fcF (ptF s0 T S (5 * n) (k + 1)))))) := below_setRow HB.out (by omega) _
              have KS := KS.row 2 (fcF (ptF s0 T S (5 * n) (k + 1)))
              clear hgr
              generalize x9.setRow bS (mk 2 (fcF (ptF s0 T S (5 * n) (k + 1)))) = x10 at *
              refine hK.out _ _ ⟨CB, CS⟩ (fun hHeld => ?_)
              clear hK K
              try simp only [Act.put, List.setIfInBounds_toArray, List.set_cons_zero, List.set_cons_succ]
              refine wpAnyH_done (by kernel_rfl) ?_ _
              clear hHeld
              go_wp2_with fail
              go_roundg gk2
              case rel => exact ⟨k + 1, by omega, by go_num, CM, CB, CS, K2, K4, K5, KS, HB⟩
              case measure => omega
            refine AllReadyH.cons rfl (fun K hK => ?_) AllReadyH.nil
            have HWC := l9Weight_any (fun j => hh (k * 4 + j)) x6
            rw [HWT.out] at HWC
            go_simp
            refine HWC.mono ?_
            rintro _ x11 ⟨rfl, hb2⟩
            clear HWC
            have K2 := K2.below hb2 K2.lt
            have K4 := K4.below hb2 K4.lt
            have K5 := K5.below hb2 K5.lt
            have KS := KS.below hb2 KS.lt
            have CM := CM.below hb2
            have CB := CB.below hb2
            have CS := CS.below hb2
            have HB : Hid (Below w.heap.size w x11) := HB.out.trans (hb2.mono HB.out.size)
            clear hb2 hHeld
            go_wp2_with fail
            refine hK.out _ _ ⟨CB, CS⟩ (fun hHeld => ?_)
            clear hK K
            try simp only [Act.put, List.setIfInBounds_toArray, List.set_cons_zero, List.set_cons_succ]
            refine wpAnyH_ready (rs := [0, 16]) (by kernel_rfl) (by simp) ?_
            refine AllReadyH.cons rfl (fun K hK => ?_) ?_
            · rw [if_pos (by rfl)]
              refine wp_ldC7 KS rfl rfl ?_
              refine hK.out _ _ ⟨CB, CS⟩ (fun hHeld => ?_)
              clear hK K
              try simp only [Act.put, List.setIfInBounds_toArray, List.set_cons_zero, List.set_cons_succ]
              refine wpAnyH_ready (rs := [16]) (by kernel_rfl) (by simp) ?_
              refine AllReadyH.cons rfl (fun K hK => ?_) AllReadyH.nil
              go_simp
              refine (l9Part_any (T (F k)) (wtP (psF S k)) (5 * n) _ HPT.out.1 (by omega) HPT.out.2.1 HPT.out.2.2).mono ?_
              rintro _ x12 ⟨rfl, hb2⟩
              have K2 := K2.below hb2 K2.lt
              have K4 := K4.below hb2 K4.lt
              have K5 := K5.below hb2 K5.lt
              have KS := KS.below hb2 KS.lt
              have CM := CM.below hb2
              have CB := CB.below hb2
              have CS := CS.below hb2
              have HB : Hid (Below w.heap.size w x12) := HB.out.trans (hb2.mono HB.out.size)
              clear hb2 hHeld
              go_wp2_with fail
              refine hK.out _ _ ⟨CB, CS⟩ (fun hHeld => ?_)
              clear hK K
              try simp only [Act.put, List.setIfInBounds_toArray, List.set_cons_zero, List.set_cons_succ]
              refine wpAnyH_ready (rs := [17]) (by kernel_rfl) (by simp) ?_
              refine AllReadyH.cons rfl (fun K hK => ?_) AllReadyH.nil
              go_simp
              refine (l9Plus_any (ptF s0 T S (5 * n) k) (partF (T (F k)) (wtP (psF S k)) (5 * n)) _ HSU.out.1 HSU.out.2.1 HSU.out.2.2.1 HSU.out.2.2.2.1 HSU.out.2.2.2.2).mono ?_
              rintro _ x13 ⟨rfl, hb2⟩
              have K2 := K2.below hb2 K2.lt
              have K4 := K4.below hb2 K4.lt
              have K5 := K5.below hb2 K5.lt
              have KS := KS.below hb2 KS.lt
              have CM := CM.below hb2
              have CB := CB.below hb2
              have CS := CS.below hb2
              have HB : Hid (Below w.heap.size w x13) := HB.out.trans (hb2.mono HB.out.size)
              clear hb2 hHeld
              go_wp2_with fail
              refine hK.out _ _ ⟨CB, CS⟩ (fun hHeld => ?_)
              clear hK K
              try simp only [Act.put, List.setIfInBounds_toArray, List.set_cons_zero, List.set_cons_succ]
              refine wpAnyH_ready (rs := [18]) (by kernel_rfl) (by simp) ?_
              refine AllReadyH.cons rfl (fun K hK => ?_) AllReadyH.nil
              have st1 := run_store_blk (P := Try.prog) (g := fcF (plusF (ptF s0 T S (5 * n) k) (partF (T (F k)) (wtP (psF S k)) (5 * n)))) KS
              have ms1 : (mk 2 (fcF (plusF (ptF s0 T S (5 * n) k) (partF (T (F k)) (wtP (psF S k)) (5 * n))))).size = 2 := mk_size 2 _
              rw [HPS.out] at *
              go_simp
              clear st1 ms1 hHeld
              have hgr : x13.grownBy (x13.setRow bS (mk 2 (fcF (ptF s0 T S (5 * n) (k + 1))))) (some bS) := grown_row KS _
              have CM := CM.grown hgr (fun e => by cases e; omega)
              have CB := CB.grown hgr (fun e => by cases e; exact absurd rfl HNB.out)
              have CS := CS.grown hgr (fun e => by cases e; exact absurd rfl HNS.out)
              have K2 := K2.rowOther bS (mk 2 (fcF (ptF s0 T S (5 * n) (k + 1)))) (by omega)
              have K4 := K4.rowOther bS (mk 2 (fcF (ptF s0 T S (5 * n) (k + 1)))) (by omega)
              have K5 := K5.rowOther bS (mk 2 (fcF (ptF s0 T S (5 * n) (k + 1)))) (by omega)
              have HB : Hid (Below w.heap.size w (x13.setRow bS (mk 2 (fcF (ptF s0 T S (5 * n) (k + 1)))))) := below_setRow HB.out (by omega) _
              have KS := KS.row 2 (fcF (ptF s0 T S (5 * n) (k + 1)))
              clear hgr
              generalize x13.setRow bS (mk 2 (fcF (ptF s0 T S (5 * n) (k + 1)))) = x14 at *
              refine hK.out _ _ ⟨CB, CS⟩ (fun hHeld => ?_)
              clear hK K
              try simp only [Act.put, List.setIfInBounds_toArray, List.set_cons_zero, List.set_cons_succ]
              refine wpAnyH_done (by kernel_rfl) ?_ _
              clear hHeld
              go_wp2_with fail
              go_roundg gk2
              case rel => exact ⟨k + 1, by omega, by go_num, CM, CB, CS, K2, K4, K5, KS, HB⟩
              case measure => omega
            refine AllReadyH.cons rfl (fun K hK => ?_) AllReadyH.nil
            go_simp
            refine (l9Part_any (T (F k)) (wtP (psF S k)) (5 * n) _ HPT.out.1 (by omega) HPT.out.2.1 HPT.out.2.2).mono ?_
            rintro _ x15 ⟨rfl, hb2⟩
            have K2 := K2.below hb2 K2.lt
            have K4 := K4.below hb2 K4.lt
            have K5 := K5.below hb2 K5.lt
            have KS := KS.below hb2 KS.lt
            have CM := CM.below hb2
            have CB := CB.below hb2
            have CS := CS.below hb2
            have HB : Hid (Below w.heap.size w x15) := HB.out.trans (hb2.mono HB.out.size)
            clear hb2 hHeld
            go_wp2_with fail
            refine hK.out _ _ ⟨CB, CS⟩ (fun hHeld => ?_)
            clear hK K
            try simp only [Act.put, List.setIfInBounds_toArray, List.set_cons_zero, List.set_cons_succ]
            refine wpAnyH_ready (rs := [0]) (by kernel_rfl) (by simp) ?_
            refine AllReadyH.cons rfl (fun K hK => ?_) AllReadyH.nil
            rw [if_pos (by rfl)]
            refine wp_ldC7 KS rfl rfl ?_
            refine hK.out _ _ ⟨CB, CS⟩ (fun hHeld => ?_)
            clear hK K
            try simp only [Act.put, List.setIfInBounds_toArray, List.set_cons_zero, List.set_cons_succ]
            refine wpAnyH_ready (rs := [17]) (by kernel_rfl) (by simp) ?_
            refine AllReadyH.cons rfl (fun K hK => ?_) AllReadyH.nil
            go_simp
            refine (l9Plus_any (ptF s0 T S (5 * n) k) (partF (T (F k)) (wtP (psF S k)) (5 * n)) _ HSU.out.1 HSU.out.2.1 HSU.out.2.2.1 HSU.out.2.2.2.1 HSU.out.2.2.2.2).mono ?_
            rintro _ x16 ⟨rfl, hb2⟩
            have K2 := K2.below hb2 K2.lt
            have K4 := K4.below hb2 K4.lt
            have K5 := K5.below hb2 K5.lt
            have KS := KS.below hb2 KS.lt
            have CM := CM.below hb2
            have CB := CB.below hb2
            have CS := CS.below hb2
            have HB : Hid (Below w.heap.size w x16) := HB.out.trans (hb2.mono HB.out.size)
            clear hb2 hHeld
            go_wp2_with fail
            refine hK.out _ _ ⟨CB, CS⟩ (fun hHeld => ?_)
            clear hK K
            try simp only [Act.put, List.setIfInBounds_toArray, List.set_cons_zero, List.set_cons_succ]
            refine wpAnyH_ready (rs := [18]) (by kernel_rfl) (by simp) ?_
            refine AllReadyH.cons rfl (fun K hK => ?_) AllReadyH.nil
            have st1 := run_store_blk (P := Try.prog) (g := fcF (plusF (ptF s0 T S (5 * n) k) (partF (T (F k)) (wtP (psF S k)) (5 * n)))) KS
            have ms1 : (mk 2 (fcF (plusF (ptF s0 T S (5 * n) k) (partF (T (F k)) (wtP (psF S k)) (5 * n))))).size = 2 := mk_size 2 _
            rw [HPS.out] at *
            go_simp
            clear st1 ms1 hHeld
            have hgr : x16.grownBy (x16.setRow bS (mk 2 (fcF (ptF s0 T S (5 * n) (k + 1))))) (some bS) := grown_row KS _
            have CM := CM.grown hgr (fun e => by cases e; omega)
            have CB := CB.grown hgr (fun e => by cases e; exact absurd rfl HNB.out)
            have CS := CS.grown hgr (fun e => by cases e; exact absurd rfl HNS.out)
            have K2 := K2.rowOther bS (mk 2 (fcF (ptF s0 T S (5 * n) (k + 1)))) (by omega)
            have K4 := K4.rowOther bS (mk 2 (fcF (ptF s0 T S (5 * n) (k + 1)))) (by omega)
            have K5 := K5.rowOther bS (mk 2 (fcF (ptF s0 T S (5 * n) (k + 1)))) (by omega)
            have HB : Hid (Below w.heap.size w (x16.setRow bS (mk 2 (fcF (ptF s0 T S (5 * n) (k + 1)))))) := below_setRow HB.out (by omega) _
            have KS := KS.row 2 (fcF (ptF s0 T S (5 * n) (k + 1)))
            clear hgr
            generalize x16.setRow bS (mk 2 (fcF (ptF s0 T S (5 * n) (k + 1)))) = x17 at *
            refine hK.out _ _ ⟨CB, CS⟩ (fun hHeld => ?_)
            clear hK K
            try simp only [Act.put, List.setIfInBounds_toArray, List.set_cons_zero, List.set_cons_succ]
            refine wpAnyH_done (by kernel_rfl) ?_ _
            clear hHeld
            go_wp2_with fail
            go_roundg gk2
            case rel => exact ⟨k + 1, by omega, by go_num, CM, CB, CS, K2, K4, K5, KS, HB⟩
            case measure => omega
      refine AllReadyH.cons rfl (fun K hK => ?_) AllReadyH.nil
      go_simp
      clear hHeld
      have hl4 : w.heap.size + 1 < x0.heap.size := K4.lt
      have hl5 : bq < x0.heap.size := K5.lt
      have hl6 : gm < x0.heap.size := CM.1
      have KN := Blk.new x0 16 (fun _ => 0) 47
      have K2 := K2.alloc (.cells (mk 16 fun _ => 0) 47)
      have K4 := K4.alloc (.cells (mk 16 fun _ => 0) 47)
      have K5 := K5.alloc (.cells (mk 16 fun _ => 0) 47)
      have CM := CM.alloc (.cells (mk 16 fun _ => 0) 47)
      have HB : Hid (Below w.heap.size w (x0.alloc (.cells (mk 16 fun _ => 0) 47))) := HB.out.alloc HB.out.size _
      generalize x0.alloc (.cells (mk 16 fun _ => 0) 47) = x1 at *
      generalize x0.heap.size = bN at *
      refine hK.out _ _ (⟨K2, CM⟩) (fun hHeld => ?_)
      clear hK K
      try simp only [Act.put, List.setIfInBounds_toArray, List.set_cons_zero, List.set_cons_succ]
      refine wpAnyH_ready (rs := [5]) (by kernel_rfl) (by simp) ?_
      refine AllReadyH.cons rfl (fun K hK => ?_) AllReadyH.nil
      go_simp
      refine (HSL.out _).mono ?_
      rintro _ x2 ⟨rfl, hb⟩
      have K2 := K2.below hb K2.lt
      have K4 := K4.below hb K4.lt
      have K5 := K5.below hb K5.lt
      have KN := KN.below hb KN.lt
      have CM := CM.below hb
      have HB : Hid (Below w.heap.size w x2) := HB.out.trans (hb.mono HB.out.size)
      clear hb hHeld
      go_wp2_with fail
      refine hK.out _ _ (⟨K2, CM⟩) (fun hHeld => ?_)
      clear hK K
      try simp only [Act.put, List.setIfInBounds_toArray, List.set_cons_zero, List.set_cons_succ]
      refine wpAnyH_take (i := 6) (oi := { dst := some 27, op := _, type := _, pos := _, after := _, guard := _ }) (v := .tuple #[.agg (mk 16 SB), .int .i64 sc]) rfl (by kernel_rfl) (by kernel_rfl) (by kernel_rfl) (fun _ _ _ h => h) (Or.inl ⟨by rfl, by intro w hSw; clear hSw; go_simp; (try with_reducible rfl)⟩) (by assumption) ?_
      try simp only [Act.put, List.setIfInBounds_toArray, List.set_cons_zero, List.set_cons_succ]
      refine wpAnyH_take (i := 7) (oi := { dst := some 34, op := _, type := _, pos := _, after := _, guard := _ }) (v := .agg (mk 16 SB)) rfl (by kernel_rfl) (by kernel_rfl) (by kernel_rfl) (fun _ _ _ h => h) (Or.inl ⟨by rfl, by intro w hSw; clear hSw; go_simp; (try with_reducible rfl)⟩) (by assumption) ?_
      try simp only [Act.put, List.setIfInBounds_toArray, List.set_cons_zero, List.set_cons_succ]
      refine wpAnyH_take (i := 8) (oi := { dst := some 35, op := _, type := _, pos := _, after := _, guard := _ }) (v := .int .i64 sc) rfl (by kernel_rfl) (by kernel_rfl) (by kernel_rfl) (fun _ _ _ h => h) (Or.inl ⟨by rfl, by intro w hSw; clear hSw; go_simp; (try with_reducible rfl)⟩) (by assumption) ?_
      try simp only [Act.put, List.setIfInBounds_toArray, List.set_cons_zero, List.set_cons_succ]
      refine wpAnyH_ready (rs := [10]) (by kernel_rfl) (by simp) ?_
      refine AllReadyH.cons rfl (fun K hK => ?_) AllReadyH.nil
      have st1 := run_store_blk (P := Try.prog) (g := SB) KN
      have ms1 : (mk 16 SB).size = 16 := mk_size 16 _
      go_simp
      clear st1 ms1 hHeld
      have hgr : x2.grownBy (x2.setRow bN (mk 16 SB)) (some bN) := grown_row KN _
      have CM := CM.grown hgr (fun e => by cases e; omega)
      have K2 := K2.rowOther bN (mk 16 SB) (by omega)
      have K4 := K4.rowOther bN (mk 16 SB) (by omega)
      have K5 := K5.rowOther bN (mk 16 SB) (by omega)
      have HB : Hid (Below w.heap.size w (x2.setRow bN (mk 16 SB))) := below_setRow HB.out (by omega) _
      clear hgr KN
      generalize x2.setRow bN (mk 16 SB) = x3 at *
      refine hK.out _ _ (⟨K2, CM⟩) (fun hHeld => ?_)
      clear hK K
      try simp only [Act.put, List.setIfInBounds_toArray, List.set_cons_zero, List.set_cons_succ]
      refine wpAnyH_take (i := 11) (oi := { dst := some 9, op := _, type := _, pos := _, after := _, guard := _ }) (v := .int .i64 sc) rfl (by kernel_rfl) (by kernel_rfl) (by kernel_rfl) (fun _ _ _ h => h) (Or.inl ⟨by rfl, by intro w hSw; clear hSw; go_simp; (try with_reducible rfl)⟩) (by assumption) ?_
      try simp only [Act.put, List.setIfInBounds_toArray, List.set_cons_zero, List.set_cons_succ]
      refine wpAnyH_done (by kernel_rfl) ?_ _
      clear hHeld
      have hlS4 : w.heap.size + 1 < x3.heap.size := K4.lt
      have hlS5 : bq < x3.heap.size := K5.lt
      have hlS6 : gm < x3.heap.size := CM.1
      have K2 := K2.alloc (.cells (mk 2 (two sc 1)) 42)
      have K4 := K4.alloc (.cells (mk 2 (two sc 1)) 42)
      have K5 := K5.alloc (.cells (mk 2 (two sc 1)) 42)
      have CM := CM.alloc (.cells (mk 2 (two sc 1)) 42)
      have KS : Blk (x3.alloc (.cells (mk 2 (two sc 1)) 42)) x3.heap.size 2 (fcF (sn, 1)) 42 := by
        have := Blk.new x3 2 (two sc 1) 42
        rw [HSN.out] at *
        exact this
      have HB : Hid (Below w.heap.size w (x3.alloc (.cells (mk 2 (two sc 1)) 42))) := HB.out.alloc HB.out.size _
      have hbS1 : w.heap.size + 1 < x3.heap.size := hlS4
      go_wp2_with (first | ((with_reducible show wpList _ _ _ (Oper.mk _ (Op.store 42 _ _) _ _ _ _ :: _) _ _); refine storeC (g := two _ _) (Blk.new _ _ _ _) rfl rfl rfl rfl ?_; rw [World.setRow_alloc_new]))
      generalize x3.alloc (.cells (mk 2 (two sc 1)) 42) = z0 at *
      generalize x3.heap.size = bS at *
      refine wp_region_held_drew (S := fun W => Blk W w.heap.size 16 f 47 ∧ CAt W gm L (fun i => M.getD i 0)) (by kernel_rfl) (⟨K2.drew, CM.drew⟩) (fun hHeld => ?_)
      have K2 := K2.drew
      have K4 := K4.drew
      have K5 := K5.drew
      have KS := KS.drew
      have CM : CAt z0.drew gm L (fun i => M.getD i 0) := CM.drew
      have HB : Hid (Below w.heap.size w z0.drew) := HB.out.drew
      clear hHeld
      generalize z0.drew = z1 at *
      have hHeld : Blk z1 w.heap.size 16 f 47 ∧ CAt z1 gm L (fun i => M.getD i 0) := ⟨K2, CM⟩
      refine wpAnyH_take (i := 0) (oi := { dst := some 40, op := _, type := _, pos := _, after := _, guard := _ }) (v := .agg (mk 16 f)) rfl (by kernel_rfl) (by kernel_rfl) (by kernel_rfl) (fun _ _ _ h => h) (Or.inl ⟨by rfl, fun _ q => execB7 q.1 rfl rfl⟩) (by assumption) ?_
      try simp only [Act.put, List.setIfInBounds_toArray, List.set_cons_zero, List.set_cons_succ]
      refine wpAnyH_take (i := 1) (oi := { dst := some 41, op := _, type := _, pos := _, after := _, guard := _ }) (v := .slice (some ⟨gm, 0, none⟩) L cm) rfl (by kernel_rfl) (by kernel_rfl) (by kernel_rfl) (fun _ _ _ h => h) (Or.inl ⟨by rfl, by intro w hSw; clear hSw; go_simp; (try with_reducible rfl)⟩) (by assumption) ?_
      try simp only [Act.put, List.setIfInBounds_toArray, List.set_cons_zero, List.set_cons_succ]
      refine wpAnyH_take (i := 2) (oi := { dst := some 42, op := _, type := _, pos := _, after := _, guard := _ }) (v := .int .i64 (q : Int)) rfl (by kernel_rfl) (by kernel_rfl) (by kernel_rfl) (fun _ _ _ h => h) (Or.inl ⟨by rfl, by intro w hSw; clear hSw; go_simp; (try with_reducible rfl)⟩) (by assumption) ?_
      try simp only [Act.put, List.setIfInBounds_toArray, List.set_cons_zero, List.set_cons_succ]
      refine wpAnyH_take (i := 3) (oi := { dst := some 43, op := _, type := _, pos := _, after := _, guard := _ }) (v := .pointer (some ⟨gm, q, none⟩)) rfl (by kernel_rfl) (by kernel_rfl) (by kernel_rfl) (fun _ _ _ h => h) (Or.inl ⟨by rfl, by intro w hSw; clear hSw; go_simp; (try with_reducible rfl)⟩) (by assumption) ?_
      try simp only [Act.put, List.setIfInBounds_toArray, List.set_cons_zero, List.set_cons_succ]
      refine wpAnyH_take (i := 4) (oi := { dst := some 44, op := _, type := _, pos := _, after := _, guard := _ }) (v := .int .i64 (d : Int)) rfl (by kernel_rfl) (by kernel_rfl) (by kernel_rfl) (fun _ _ _ h => h) (Or.inl ⟨by rfl, by intro W q2; have c0 : W.cell? ⟨gm, q, none⟩ = some (.int .i64 (M.getD q 0)) := q2.2.2 q hq9; rw [HGD.out] at c0; clear q2; go_simp⟩) (by assumption) ?_
      try simp only [Act.put, List.setIfInBounds_toArray, List.set_cons_zero, List.set_cons_succ]
      refine wpAnyH_ready (rs := [5]) (by kernel_rfl) (by simp) ?_
      refine AllReadyH.cons rfl (fun K hK => ?_) AllReadyH.nil
      go_simp
      refine (HST.out _).mono ?_
      rintro _ z2 ⟨gs, cs, rfl, hs, hb⟩
      have CS : CAt z2 gs ((stepL f d).length * 4) (flatF (stepL f d)) := by
        obtain ⟨_, _, e1, _, hc⟩ := KRow.of_list HSA.out hs
        cases e1
        exact hc
      have hgsS : bS < gs := by have h1 := (hs.lt gs rfl).1; have h2 := KS.lt; omega
      have K2 := K2.below hb K2.lt
      have K4 := K4.below hb K4.lt
      have K5 := K5.below hb K5.lt
      have KS := KS.below hb KS.lt
      have CM := CM.below hb
      have HB : Hid (Below w.heap.size w z2) := HB.out.trans (hb.mono HB.out.size)
      clear hb hs hHeld
      go_wp2_with fail
      refine hK.out _ _ ⟨K2, CM⟩ (fun hHeld => ?_)
      clear hK K
      try simp only [Act.put, List.setIfInBounds_toArray, List.set_cons_zero, List.set_cons_succ]
      refine wpAnyH_take (i := 6) (oi := { dst := some 11, op := _, type := _, pos := _, after := _, guard := _ }) (v := .slice (some ⟨gs, 0, none⟩) (stepL f d).length cs) rfl (by kernel_rfl) (by kernel_rfl) (by kernel_rfl) (fun _ _ _ h => h) (Or.inl ⟨by rfl, by intro w hSw; clear hSw; go_simp; (try with_reducible rfl)⟩) (by assumption) ?_
      try simp only [Act.put, List.setIfInBounds_toArray, List.set_cons_zero, List.set_cons_succ]
      refine wpAnyH_done (by kernel_rfl) ?_ _
      clear hHeld
      generalize hNN : (stepL f d).length = n at *
      generalize hHH : flatF (stepL f d) = hh at *
      go_wp2_with ((with_reducible show wpList _ _ _ (Oper.mk _ (Op.load 47 _) _ _ _ _ :: _) _ _); refine loadB (K2) rfl rfl rfl ?_)
      refine (l9Boards_any f gs cs n hh F _ HV.out CS hn2 HF.out).mono ?_
      rintro _ z3 ⟨gb, cb, rfl, hbo, hb⟩
      have hgbS : bS < gb := by have h1 := (hbo.lt gb rfl).1; have h2 := KS.lt; omega
      have CB := bd_mem7 hbo
      have K2 := K2.below hb K2.lt
      have K4 := K4.below hb K4.lt
      have K5 := K5.below hb K5.lt
      have KS := KS.below hb KS.lt
      have CM := CM.below hb
      have CS := CS.below hb
      have HB : Hid (Below w.heap.size w z3) := HB.out.trans (hb.mono HB.out.size)
      have HNB : Hid (gb ≠ bS) := by show _ ≠ _; omega
      have HNS : Hid (gs ≠ bS) := by show _ ≠ _; omega
      rw [← HS0.out] at KS
      have KS : Blk z3 bS 2 (fcF (ptF s0 T S (5 * n) 0)) 42 := KS
      clear hb hbo
      have HAT : Hid (∀ k, k < n → mk 16 (fun j => flatF (bdL F n) (k * 16 + j)) = mk 16 (F k)) := fun k hk => by
        rw [flatF_mk (bdL_all F n) (bdL_at F hk)]
        exact mk_congr fun i hi => fn_cl _ i hi
      generalize flatF (bdL F n) = hb at *
      go_wp2_with fail
      go_loopg [13] n (fun gk sI wr => ∃ (k : Nat), k + gk = n ∧ sI = .int .i64 k ∧ CAt wr gm L (fun i => M.getD i 0) ∧ CAt wr gb (n * 16) hb ∧ CAt wr gs (n * 4) hh ∧ Blk wr w.heap.size 16 f 47 ∧ Blk wr (w.heap.size + 1) 2 (fun _ => 0) 42 ∧ Blk wr bq 2 (fcF (mxL V (M.take q))) 42 ∧ Blk wr bS 2 (fcF (ptF s0 T S (5 * n) k)) 42 ∧ Hid (Below w.heap.size w wr))
      case atStart => exact ⟨0, by omega, rfl, CM, CB, CS, K2, K4, K5, KS, HB⟩
      case round =>
        obtain ⟨k, hkg, rfl, CM, CB, CS, K2, K4, K5, KS, HB⟩ := hrel
        cases gk with
        | zero =>
          have hk : ¬ ((k : Int) < (n : Int)) := by omega
          obtain rfl : k = n := by omega
          clear hkg
          rw [HMN.out] at KS
          go_wp2_with (first | ((with_reducible show wpList _ _ _ (Oper.mk _ (Op.load 42 _) _ _ _ _ :: _) _ _); refine loadC (K5) rfl rfl rfl ?_) | ((with_reducible show wpList _ _ _ (Oper.mk _ (Op.load 42 _) _ _ _ _ :: _) _ _); refine loadC (KS) rfl rfl rfl ?_))
          refine (HLS.out _).mono ?_
          rintro _ y1 ⟨rfl, hb⟩
          have K2 := K2.below hb K2.lt
          have K4 := K4.below hb K4.lt
          have K5 := K5.below hb K5.lt
          have KS := KS.below hb KS.lt
          have CM := CM.below hb
          have HB : Hid (Below w.heap.size w y1) := HB.out.trans (hb.mono HB.out.size)
          clear hb
          cases hlt : ltF (mxL V (M.take q)) (V d) with
          | true =>
            have HN : Hid (mxL V (M.take (q + 1)) = V d) := by
              show _ = _; rw [HTK.out, mxL_snoc]; unfold mxS; rw [Int.toNat_natCast, hlt]; rfl
            clear hlt
            go_wp2_with (first | ((with_reducible show wpList _ _ _ (Oper.mk _ (Op.load 42 _) _ _ _ _ :: _) _ _); refine loadC (KS) rfl rfl rfl ?_) | ((with_reducible show wpList _ _ _ (Oper.mk _ (Op.store 42 _ _) _ _ _ _ :: _) _ _); refine storeC (K5) rfl rfl rfl rfl ?_))
            have hgr : y1.grownBy (y1.setRow bq (mk 2 (fcF (V d)))) (some bq) := grown_row K5 _
            have CM := CM.grown hgr (fun e => by cases e; omega)
            have K2 := K2.rowOther bq (mk 2 (fcF (V d))) (by omega)
            have K4 := K4.rowOther bq (mk 2 (fcF (V d))) (by omega)
            have HB : Hid (Below w.heap.size w (y1.setRow bq (mk 2 (fcF (V d))))) := below_setRow HB.out (by omega) _
            have K5 := K5.row 2 (fcF (V d))
            rw [← HN.out] at K5
            clear hgr
            rw [← HN.out] at *
            go_roundg gq2
            case rel => exact ⟨q + 1, by omega, by go_num, CM, K2, K4, K5, HB⟩
            case measure => omega
          | false =>
            have HN : Hid (mxL V (M.take (q + 1)) = mxL V (M.take q)) := by
              show _ = _; rw [HTK.out, mxL_snoc]; unfold mxS; rw [Int.toNat_natCast, hlt]; rfl
            clear hlt
            rw [← HN.out] at K5
            go_wp2_with fail
            go_roundg gq2
            case rel => exact ⟨q + 1, by omega, by go_num, CM, K2, K4, K5, HB⟩
            case measure => omega
        | succ gk2 =>
          have hk8 : (k : Int) < (n : Int) := by omega
          have hk9 : k < n := by omega
          have hk0 : (0 : Int) ≤ (k : Int) := by omega
          have HAK : Hid (mk 16 (fun j => hb (k * 16 + j)) = mk 16 (F k)) := HAT.out k hk9
          have HWT : Hid (wtI (hh (k * 4 + 3)) = wtP (psF S k)) := HWI.out k hk9
          have H5 : Hid ((5 : Int) * (n : Int) = ((5 * n : Nat) : Int)) := by show _ = _; omega
          have HPT := Lib.hid (HPO.out.part k hk9)
          have HSU := Lib.hid (HPO.out.sum k hk9)
          rw [HFK.out k] at HPT HSU
          rw [← HS0.out] at HSU
          have HPS : Hid (plusF (ptF s0 T S (5 * n) k) (partF (T (F k)) (wtP (psF S k)) (5 * n)) = ptF s0 T S (5 * n) (k + 1)) := by
            show _ = plusF _ (partF (T (plB S (psF S k))) _ _)
            rw [HFK.out k]
          have HCK := Lib.hid (fun w => show Calls Try.prog 206 #[.agg (mk 16 (F k)), .int .i64 1] w fun e w' => e = .returned (.agg (mk 2 (fcF (ScF 1 (F k))))) ∧ Below w.heap.size w w' from HCC1.out (F k) w (HVF.out k hk9))
          rw [← HTT.out] at HCK
          go_wp2_with fail
          refine wp_region_held_drew (S := fun W => CAt W gb (n * 16) hb ∧ CAt W gs (n * 4) hh) (by kernel_rfl) (⟨CB.drew, CS.drew⟩) (fun hHeld => ?_)
          have K2 := K2.drew
          have K4 := K4.drew
          have K5 := K5.drew
          have KS := KS.drew
          have CM : CAt wr.drew gm L (fun i => M.getD i 0) := CM.drew
          have CB : CAt wr.drew gb (n * 16) hb := CB.drew
          have CS : CAt wr.drew gs (n * 4) hh := CS.drew
          have HB : Hid (Below w.heap.size w wr.drew) := HB.out.drew
          clear hHeld
          generalize wr.drew = x0 at *
          have hHeld : CAt x0 gb (n * 16) hb ∧ CAt x0 gs (n * 4) hh := ⟨CB, CS⟩
          refine wpAnyH_take (i := 1) (oi := { dst := some 56, op := _, type := _, pos := _, after := _, guard := _ }) (v := .slice (some ⟨gb, 0, none⟩) n cb) rfl (by kernel_rfl) (by kernel_rfl) (by kernel_rfl) (fun _ _ _ h => h) (Or.inl ⟨by rfl, by intro w hSw; clear hSw; go_simp; (try with_reducible rfl)⟩) (by assumption) ?_
          try simp only [Act.put, List.setIfInBounds_toArray, List.set_cons_zero, List.set_cons_succ]
          refine wpAnyH_take (i := 2) (oi := { dst := some 57, op := _, type := _, pos := _, after := _, guard := _ }) (v := .int .i64 (k : Int)) rfl (by kernel_rfl) (by kernel_rfl) (by kernel_rfl) (fun _ _ _ h => h) (Or.inl ⟨by rfl, by intro w hSw; clear hSw; go_simp; (try with_reducible rfl)⟩) (by assumption) ?_
          try simp only [Act.put, List.setIfInBounds_toArray, List.set_cons_zero, List.set_cons_succ]
          refine wpAnyH_take (i := 3) (oi := { dst := some 58, op := _, type := _, pos := _, after := _, guard := _ }) (v := .pointer (some ⟨gb, k * 16, none⟩)) rfl (by kernel_rfl) (by kernel_rfl) (by kernel_rfl) (fun _ _ _ h => h) (Or.inl ⟨by rfl, by intro w hSw; clear hSw; go_simp; (try with_reducible rfl)⟩) (by assumption) ?_
          try simp only [Act.put, List.setIfInBounds_toArray, List.set_cons_zero, List.set_cons_succ]
          refine wpAnyH_take (i := 4) (oi := { dst := some 59, op := _, type := _, pos := _, after := _, guard := _ }) (v := .agg (mk 16 (F k))) rfl (by kernel_rfl) (by kernel_rfl) (by kernel_rfl) (fun _ _ _ h => h) (Or.inl ⟨by rfl, by intro W p; rw [← HAK.out]; exact execAB7 p.1 (by omega) rfl rfl⟩) (by assumption) ?_
          try simp only [Act.put, List.setIfInBounds_toArray, List.set_cons_zero, List.set_cons_succ]
          refine wpAnyH_take (i := 5) (oi := { dst := some 60, op := _, type := _, pos := _, after := _, guard := _ }) (v := .int .i64 2) rfl (by kernel_rfl) (by kernel_rfl) (by kernel_rfl) (fun _ _ _ h => h) (Or.inl ⟨by rfl, by intro w hSw; clear hSw; go_simp; (try with_reducible rfl)⟩) (by assumption) ?_
          try simp only [Act.put, List.setIfInBounds_toArray, List.set_cons_zero, List.set_cons_succ]
          refine wpAnyH_take (i := 6) (oi := { dst := some 61, op := _, type := _, pos := _, after := _, guard := _ }) (v := .int .i64 1) rfl (by kernel_rfl) (by kernel_rfl) (by kernel_rfl) (fun _ _ _ h => h) (Or.inl ⟨by rfl, by intro W q2; clear q2; go_simp; exact fit9 (a := 1) (by decide)⟩) (by assumption) ?_
          try simp only [Act.put, List.setIfInBounds_toArray, List.set_cons_zero, List.set_cons_succ]
          refine wpAnyH_take (i := 8) (oi := { dst := some 63, op := _, type := _, pos := _, after := _, guard := _ }) (v := .slice (some ⟨gs, 0, none⟩) n cs) rfl (by kernel_rfl) (by kernel_rfl) (by kernel_rfl) (fun _ _ _ h => h) (Or.inl ⟨by rfl, by intro w hSw; clear hSw; go_simp; (try with_reducible rfl)⟩) (by assumption) ?_
          try simp only [Act.put, List.setIfInBounds_toArray, List.set_cons_zero, List.set_cons_succ]
          refine wpAnyH_take (i := 9) (oi := { dst := some 64, op := _, type := _, pos := _, after := _, guard := _ }) (v := .int .i64 (k : Int)) rfl (by kernel_rfl) (by kernel_rfl) (by kernel_rfl) (fun _ _ _ h => h) (Or.inl ⟨by rfl, by intro w hSw; clear hSw; go_simp; (try with_reducible rfl)⟩) (by assumption) ?_
          try simp only [Act.put, List.setIfInBounds_toArray, List.set_cons_zero, List.set_cons_succ]
          refine wpAnyH_take (i := 10) (oi := { dst := some 65, op := _, type := _, pos := _, after := _, guard := _ }) (v := .pointer (some ⟨gs, k * 4, none⟩)) rfl (by kernel_rfl) (by kernel_rfl) (by kernel_rfl) (fun _ _ _ h => h) (Or.inl ⟨by rfl, by intro w hSw; clear hSw; go_simp; (try with_reducible rfl)⟩) (by assumption) ?_
          try simp only [Act.put, List.setIfInBounds_toArray, List.set_cons_zero, List.set_cons_succ]
          refine wpAnyH_take (i := 11) (oi := { dst := some 66, op := _, type := _, pos := _, after := _, guard := _ }) (v := .agg (mk 4 fun j => hh (k * 4 + j))) rfl (by kernel_rfl) (by kernel_rfl) (by kernel_rfl) (fun _ _ _ h => h) (Or.inl ⟨by rfl, fun _ q => execAT q.2 (by omega) rfl rfl⟩) (by assumption) ?_
          try simp only [Act.put, List.setIfInBounds_toArray, List.set_cons_zero, List.set_cons_succ]
          refine wpAnyH_take (i := 13) (oi := { dst := some 68, op := _, type := _, pos := _, after := _, guard := _ }) (v := .slice (some ⟨gs, 0, none⟩) n cs) rfl (by kernel_rfl) (by kernel_rfl) (by kernel_rfl) (fun _ _ _ h => h) (Or.inl ⟨by rfl, by intro w hSw; clear hSw; go_simp; (try with_reducible rfl)⟩) (by assumption) ?_
          try simp only [Act.put, List.setIfInBounds_toArray, List.set_cons_zero, List.set_cons_succ]
          refine wpAnyH_take (i := 14) (oi := { dst := some 69, op := _, type := _, pos := _, after := _, guard := _ }) (v := .int .i64 (n : Int)) rfl (by kernel_rfl) (by kernel_rfl) (by kernel_rfl) (fun _ _ _ h => h) (Or.inl ⟨by rfl, by intro w hSw; clear hSw; go_simp; (try with_reducible rfl)⟩) (by assumption) ?_
          try simp only [Act.put, List.setIfInBounds_toArray, List.set_cons_zero, List.set_cons_succ]
          refine wpAnyH_take (i := 15) (oi := { dst := some 70, op := _, type := _, pos := _, after := _, guard := _ }) (v := .int .i64 ((5 * n : Nat) : Int)) rfl (by kernel_rfl) (by kernel_rfl) (by kernel_rfl) (fun _ _ _ h => h) (Or.inl ⟨by rfl, by intro W q; clear q; go_simp; (try rw [H5.out]); (try exact fit9 (by omega))⟩) (by assumption) ?_
          try simp only [Act.put, List.setIfInBounds_toArray, List.set_cons_zero, List.set_cons_succ]
          refine wpAnyH_ready (rs := [0, 7]) (by kernel_rfl) (by simp) ?_
          refine AllReadyH.cons rfl (fun K hK => ?_) ?_
          · rw [if_pos (by rfl)]
            refine wp_ldC7 KS rfl rfl ?_
            refine hK.out _ _ ⟨CB, CS⟩ (fun hHeld => ?_)
            clear hK K
            try simp only [Act.put, List.setIfInBounds_toArray, List.set_cons_zero, List.set_cons_succ]
            refine wpAnyH_ready (rs := [7]) (by kernel_rfl) (by simp) ?_
            refine AllReadyH.cons rfl (fun K hK => ?_) AllReadyH.nil
            go_simp
            refine (HCK.out _).mono ?_
            rintro _ x1 ⟨rfl, hb2⟩
            have K2 := K2.below hb2 K2.lt
            have K4 := K4.below hb2 K4.lt
            have K5 := K5.below hb2 K5.lt
            have KS := KS.below hb2 KS.lt
            have CM := CM.below hb2
            have CB := CB.below hb2
            have CS := CS.below hb2
            have HB : Hid (Below w.heap.size w x1) := HB.out.trans (hb2.mono HB.out.size)
            clear hb2 hHeld
            go_wp2_with fail
            refine hK.out _ _ ⟨CB, CS⟩ (fun hHeld => ?_)
            clear hK K
            try simp only [Act.put, List.setIfInBounds_toArray, List.set_cons_zero, List.set_cons_succ]
            refine wpAnyH_ready (rs := [12]) (by kernel_rfl) (by simp) ?_
            refine AllReadyH.cons rfl (fun K hK => ?_) AllReadyH.nil
            have HWC := l9Weight_any (fun j => hh (k * 4 + j)) x1
            rw [HWT.out] at HWC
            go_simp
            refine HWC.mono ?_
            rintro _ x2 ⟨rfl, hb2⟩
            clear HWC
            have K2 := K2.below hb2 K2.lt
            have K4 := K4.below hb2 K4.lt
            have K5 := K5.below hb2 K5.lt
            have KS := KS.below hb2 KS.lt
            have CM := CM.below hb2
            have CB := CB.below hb2
            have CS := CS.below hb2
            have HB : Hid (Below w.heap.size w x2) := HB.out.trans (hb2.mono HB.out.size)
            clear hb2 hHeld
            go_wp2_with fail
            refine hK.out _ _ ⟨CB, CS⟩ (fun hHeld => ?_)
            clear hK K
            try simp only [Act.put, List.setIfInBounds_toArray, List.set_cons_zero, List.set_cons_succ]
            refine wpAnyH_ready (rs := [16]) (by kernel_rfl) (by simp) ?_
            refine AllReadyH.cons rfl (fun K hK => ?_) AllReadyH.nil
            go_simp
            refine (l9Part_any (T (F k)) (wtP (psF S k)) (5 * n) _ HPT.out.1 (by omega) HPT.out.2.1 HPT.out.2.2).mono ?_
            rintro _ x3 ⟨rfl, hb2⟩
            have K2 := K2.below hb2 K2.lt
            have K4 := K4.below hb2 K4.lt
            have K5 := K5.below hb2 K5.lt
            have KS := KS.below hb2 KS.lt
            have CM := CM.below hb2
            have CB := CB.below hb2
            have CS := CS.below hb2
            have HB : Hid (Below w.heap.size w x3) := HB.out.trans (hb2.mono HB.out.size)
            clear hb2 hHeld
            go_wp2_with fail
            refine hK.out _ _ ⟨CB, CS⟩ (fun hHeld => ?_)
            clear hK K
            try simp only [Act.put, List.setIfInBounds_toArray, List.set_cons_zero, List.set_cons_succ]
            refine wpAnyH_ready (rs := [17]) (by kernel_rfl) (by simp) ?_
            refine AllReadyH.cons rfl (fun K hK => ?_) AllReadyH.nil
            go_simp
            refine (l9Plus_any (ptF s0 T S (5 * n) k) (partF (T (F k)) (wtP (psF S k)) (5 * n)) _ HSU.out.1 HSU.out.2.1 HSU.out.2.2.1 HSU.out.2.2.2.1 HSU.out.2.2.2.2).mono ?_
            rintro _ x4 ⟨rfl, hb2⟩
            have K2 := K2.below hb2 K2.lt
            have K4 := K4.below hb2 K4.lt
            have K5 := K5.below hb2 K5.lt
            have KS := KS.below hb2 KS.lt
            have CM := CM.below hb2
            have CB := CB.below hb2
            have CS := CS.below hb2
            have HB : Hid (Below w.heap.size w x4) := HB.out.trans (hb2.mono HB.out.size)
            clear hb2 hHeld
            go_wp2_with fail
            refine hK.out _ _ ⟨CB, CS⟩ (fun hHeld => ?_)
            clear hK K
            try simp only [Act.put, List.setIfInBounds_toArray, List.set_cons_zero, List.set_cons_succ]
            refine wpAnyH_ready (rs := [18]) (by kernel_rfl) (by simp) ?_
            refine AllReadyH.cons rfl (fun K hK => ?_) AllReadyH.nil
            have st1 := run_store_blk (P := Try.prog) (g := fcF (plusF (ptF s0 T S (5 * n) k) (partF (T (F k)) (wtP (psF S k)) (5 * n)))) KS
            have ms1 : (mk 2 (fcF (plusF (ptF s0 T S (5 * n) k) (partF (T (F k)) (wtP (psF S k)) (5 * n))))).size = 2 := mk_size 2 _
            rw [HPS.out] at *
            go_simp
            clear st1 ms1 hHeld
            have hgr : x4.grownBy (x4.setRow bS (mk 2 (fcF (ptF s0 T S (5 * n) (k + 1))))) (some bS) := grown_row KS _
            have CM := CM.grown hgr (fun e => by cases e; omega)
            have CB := CB.grown hgr (fun e => by cases e; exact absurd rfl HNB.out)
            have CS := CS.grown hgr (fun e => by cases e; exact absurd rfl HNS.out)
            have K2 := K2.rowOther bS (mk 2 (fcF (ptF s0 T S (5 * n) (k + 1)))) (by omega)
            have K4 := K4.rowOther bS (mk 2 (fcF (ptF s0 T S (5 * n) (k + 1)))) (by omega)
            have K5 := K5.rowOther bS (mk 2 (fcF (ptF s0 T S (5 * n) (k + 1)))) (by omega)
            have HB : Hid (Below w.heap.size w (x4.setRow bS (mk 2 (fcF (ptF s0 T S (5 * n) (k + 1)))))) := below_setRow HB.out (by omega) _
            have KS := KS.row 2 (fcF (ptF s0 T S (5 * n) (k + 1)))
            clear hgr
            generalize x4.setRow bS (mk 2 (fcF (ptF s0 T S (5 * n) (k + 1)))) = x5 at *
            refine hK.out _ _ ⟨CB, CS⟩ (fun hHeld => ?_)
            clear hK K
            try simp only [Act.put, List.setIfInBounds_toArray, List.set_cons_zero, List.set_cons_succ]
            refine wpAnyH_done (by kernel_rfl) ?_ _
            clear hHeld
            go_wp2_with fail
            go_roundg gk2
            case rel => exact ⟨k + 1, by omega, by go_num, CM, CB, CS, K2, K4, K5, KS, HB⟩
            case measure => omega
          refine AllReadyH.cons rfl (fun K hK => ?_) AllReadyH.nil
          go_simp
          refine (HCK.out _).mono ?_
          rintro _ x6 ⟨rfl, hb2⟩
          have K2 := K2.below hb2 K2.lt
          have K4 := K4.below hb2 K4.lt
          have K5 := K5.below hb2 K5.lt
          have KS := KS.below hb2 KS.lt
          have CM := CM.below hb2
          have CB := CB.below hb2
          have CS := CS.below hb2
          have HB : Hid (Below w.heap.size w x6) := HB.out.trans (hb2.mono HB.out.size)
          clear hb2 hHeld
          go_wp2_with fail
          refine hK.out _ _ ⟨CB, CS⟩ (fun hHeld => ?_)
          clear hK K
          try simp only [Act.put, List.setIfInBounds_toArray, List.set_cons_zero, List.set_cons_succ]
          refine wpAnyH_ready (rs := [0, 12]) (by kernel_rfl) (by simp) ?_
          refine AllReadyH.cons rfl (fun K hK => ?_) ?_
          · rw [if_pos (by rfl)]
            refine wp_ldC7 KS rfl rfl ?_
            refine hK.out _ _ ⟨CB, CS⟩ (fun hHeld => ?_)
            clear hK K
            try simp only [Act.put, List.setIfInBounds_toArray, List.set_cons_zero, List.set_cons_succ]
            refine wpAnyH_ready (rs := [12]) (by kernel_rfl) (by simp) ?_
            refine AllReadyH.cons rfl (fun K hK => ?_) AllReadyH.nil
            have HWC := l9Weight_any (fun j => hh (k * 4 + j)) x6
            rw [HWT.out] at HWC
            go_simp
            refine HWC.mono ?_
            rintro _ x7 ⟨rfl, hb2⟩
            clear HWC
            have K2 := K2.below hb2 K2.lt
            have K4 := K4.below hb2 K4.lt
            have K5 := K5.below hb2 K5.lt
            have KS := KS.below hb2 KS.lt
            have CM := CM.below hb2
            have CB := CB.below hb2
            have CS := CS.below hb2
            have HB : Hid (Below w.heap.size w x7) := HB.out.trans (hb2.mono HB.out.size)
            clear hb2 hHeld
            go_wp2_with fail
            refine hK.out _ _ ⟨CB, CS⟩ (fun hHeld => ?_)
            clear hK K
            try simp only [Act.put, List.setIfInBounds_toArray, List.set_cons_zero, List.set_cons_succ]
            refine wpAnyH_ready (rs := [16]) (by kernel_rfl) (by simp) ?_
            refine AllReadyH.cons rfl (fun K hK => ?_) AllReadyH.nil
            go_simp
            refine (l9Part_any (T (F k)) (wtP (psF S k)) (5 * n) _ HPT.out.1 (by omega) HPT.out.2.1 HPT.out.2.2).mono ?_
            rintro _ x8 ⟨rfl, hb2⟩
            have K2 := K2.below hb2 K2.lt
            have K4 := K4.below hb2 K4.lt
            have K5 := K5.below hb2 K5.lt
            have KS := KS.below hb2 KS.lt
            have CM := CM.below hb2
            have CB := CB.below hb2
            have CS := CS.below hb2
            have HB : Hid (Below w.heap.size w x8) := HB.out.trans (hb2.mono HB.out.size)
            clear hb2 hHeld
            go_wp2_with fail
            refine hK.out _ _ ⟨CB, CS⟩ (fun hHeld => ?_)
            clear hK K
            try simp only [Act.put, List.setIfInBounds_toArray, List.set_cons_zero, List.set_cons_succ]
            refine wpAnyH_ready (rs := [17]) (by kernel_rfl) (by simp) ?_
            refine AllReadyH.cons rfl (fun K hK => ?_) AllReadyH.nil
            go_simp
            refine (l9Plus_any (ptF s0 T S (5 * n) k) (partF (T (F k)) (wtP (psF S k)) (5 * n)) _ HSU.out.1 HSU.out.2.1 HSU.out.2.2.1 HSU.out.2.2.2.1 HSU.out.2.2.2.2).mono ?_
            rintro _ x9 ⟨rfl, hb2⟩
            have K2 := K2.below hb2 K2.lt
            have K4 := K4.below hb2 K4.lt
            have K5 := K5.below hb2 K5.lt
            have KS := KS.below hb2 KS.lt
            have CM := CM.below hb2
            have CB := CB.below hb2
            have CS := CS.below hb2
            have HB : Hid (Below w.heap.size w x9) := HB.out.trans (hb2.mono HB.out.size)
            clear hb2 hHeld
            go_wp2_with fail
            refine hK.out _ _ ⟨CB, CS⟩ (fun hHeld => ?_)
            clear hK K
            try simp only [Act.put, List.setIfInBounds_toArray, List.set_cons_zero, List.set_cons_succ]
            refine wpAnyH_ready (rs := [18]) (by kernel_rfl) (by simp) ?_
            refine AllReadyH.cons rfl (fun K hK => ?_) AllReadyH.nil
            have st1 := run_store_blk (P := Try.prog) (g := fcF (plusF (ptF s0 T S (5 * n) k) (partF (T (F k)) (wtP (psF S k)) (5 * n)))) KS
            have ms1 : (mk 2 (fcF (plusF (ptF s0 T S (5 * n) k) (partF (T (F k)) (wtP (psF S k)) (5 * n))))).size = 2 := mk_size 2 _
            rw [HPS.out] at *
            go_simp
            clear st1 ms1 hHeld
            have hgr : x9.grownBy (x9.setRow bS (mk 2 (fcF (ptF s0 T S (5 * n) (k + 1))))) (some bS) := grown_row KS _
            have CM := CM.grown hgr (fun e => by cases e; omega)
            have CB := CB.grown hgr (fun e => by cases e; exact absurd rfl HNB.out)
            have CS := CS.grown hgr (fun e => by cases e; exact absurd rfl HNS.out)
            have K2 := K2.rowOther bS (mk 2 (fcF (ptF s0 T S (5 * n) (k + 1)))) (by omega)
            have K4 := K4.rowOther bS (mk 2 (fcF (ptF s0 T S (5 * n) (k + 1)))) (by omega)
            have K5 := K5.rowOther bS (mk 2 (fcF (ptF s0 T S (5 * n) (k + 1)))) (by omega)
            have HB : Hid (Below w.heap.size w (x9.setRow bS (mk 2 (fcF (ptF s0 T S (5 * n) (k + 1)))))) := below_setRow HB.out (by omega) _
            have KS := KS.row 2 (fcF (ptF s0 T S (5 * n) (k + 1)))
            clear hgr
            generalize x9.setRow bS (mk 2 (fcF (ptF s0 T S (5 * n) (k + 1)))) = x10 at *
            refine hK.out _ _ ⟨CB, CS⟩ (fun hHeld => ?_)
            clear hK K
            try simp only [Act.put, List.setIfInBounds_toArray, List.set_cons_zero, List.set_cons_succ]
            refine wpAnyH_done (by kernel_rfl) ?_ _
            clear hHeld
            go_wp2_with fail
            go_roundg gk2
            case rel => exact ⟨k + 1, by omega, by go_num, CM, CB, CS, K2, K4, K5, KS, HB⟩
            case measure => omega
          refine AllReadyH.cons rfl (fun K hK => ?_) AllReadyH.nil
          have HWC := l9Weight_any (fun j => hh (k * 4 + j)) x6
          rw [HWT.out] at HWC
          go_simp
          refine HWC.mono ?_
          rintro _ x11 ⟨rfl, hb2⟩
          clear HWC
          have K2 := K2.below hb2 K2.lt
          have K4 := K4.below hb2 K4.lt
          have K5 := K5.below hb2 K5.lt
          have KS := KS.below hb2 KS.lt
          have CM := CM.below hb2
          have CB := CB.below hb2
          have CS := CS.below hb2
          have HB : Hid (Below w.heap.size w x11) := HB.out.trans (hb2.mono HB.out.size)
          clear hb2 hHeld
          go_wp2_with fail
          refine hK.out _ _ ⟨CB, CS⟩ (fun hHeld => ?_)
          clear hK K
          try simp only [Act.put, List.setIfInBounds_toArray, List.set_cons_zero, List.set_cons_succ]
          refine wpAnyH_ready (rs := [0, 16]) (by kernel_rfl) (by simp) ?_
          refine AllReadyH.cons rfl (fun K hK => ?_) ?_
          · rw [if_pos (by rfl)]
            refine wp_ldC7 KS rfl rfl ?_
            refine hK.out _ _ ⟨CB, CS⟩ (fun hHeld => ?_)
            clear hK K
            try simp only [Act.put, List.setIfInBounds_toArray, List.set_cons_zero, List.set_cons_succ]
            refine wpAnyH_ready (rs := [16]) (by kernel_rfl) (by simp) ?_
            refine AllReadyH.cons rfl (fun K hK => ?_) AllReadyH.nil
            go_simp
            refine (l9Part_any (T (F k)) (wtP (psF S k)) (5 * n) _ HPT.out.1 (by omega) HPT.out.2.1 HPT.out.2.2).mono ?_
            rintro _ x12 ⟨rfl, hb2⟩
            have K2 := K2.below hb2 K2.lt
            have K4 := K4.below hb2 K4.lt
            have K5 := K5.below hb2 K5.lt
            have KS := KS.below hb2 KS.lt
            have CM := CM.below hb2
            have CB := CB.below hb2
            have CS := CS.below hb2
            have HB : Hid (Below w.heap.size w x12) := HB.out.trans (hb2.mono HB.out.size)
            clear hb2 hHeld
            go_wp2_with fail
            refine hK.out _ _ ⟨CB, CS⟩ (fun hHeld => ?_)
            clear hK K
            try simp only [Act.put, List.setIfInBounds_toArray, List.set_cons_zero, List.set_cons_succ]
            refine wpAnyH_ready (rs := [17]) (by kernel_rfl) (by simp) ?_
            refine AllReadyH.cons rfl (fun K hK => ?_) AllReadyH.nil
            go_simp
            refine (l9Plus_any (ptF s0 T S (5 * n) k) (partF (T (F k)) (wtP (psF S k)) (5 * n)) _ HSU.out.1 HSU.out.2.1 HSU.out.2.2.1 HSU.out.2.2.2.1 HSU.out.2.2.2.2).mono ?_
            rintro _ x13 ⟨rfl, hb2⟩
            have K2 := K2.below hb2 K2.lt
            have K4 := K4.below hb2 K4.lt
            have K5 := K5.below hb2 K5.lt
            have KS := KS.below hb2 KS.lt
            have CM := CM.below hb2
            have CB := CB.below hb2
            have CS := CS.below hb2
            have HB : Hid (Below w.heap.size w x13) := HB.out.trans (hb2.mono HB.out.size)
            clear hb2 hHeld
            go_wp2_with fail
            refine hK.out _ _ ⟨CB, CS⟩ (fun hHeld => ?_)
            clear hK K
            try simp only [Act.put, List.setIfInBounds_toArray, List.set_cons_zero, List.set_cons_succ]
            refine wpAnyH_ready (rs := [18]) (by kernel_rfl) (by simp) ?_
            refine AllReadyH.cons rfl (fun K hK => ?_) AllReadyH.nil
            have st1 := run_store_blk (P := Try.prog) (g := fcF (plusF (ptF s0 T S (5 * n) k) (partF (T (F k)) (wtP (psF S k)) (5 * n)))) KS
            have ms1 : (mk 2 (fcF (plusF (ptF s0 T S (5 * n) k) (partF (T (F k)) (wtP (psF S k)) (5 * n))))).size = 2 := mk_size 2 _
            rw [HPS.out] at *
            go_simp
            clear st1 ms1 hHeld
            have hgr : x13.grownBy (x13.setRow bS (mk 2 (fcF (ptF s0 T S (5 * n) (k + 1))))) (some bS) := grown_row KS _
            have CM := CM.grown hgr (fun e => by cases e; omega)
            have CB := CB.grown hgr (fun e => by cases e; exact absurd rfl HNB.out)
            have CS := CS.grown hgr (fun e => by cases e; exact absurd rfl HNS.out)
            have K2 := K2.rowOther bS (mk 2 (fcF (ptF s0 T S (5 * n) (k + 1)))) (by omega)
            have K4 := K4.rowOther bS (mk 2 (fcF (ptF s0 T S (5 * n) (k + 1)))) (by omega)
            have K5 := K5.rowOther bS (mk 2 (fcF (ptF s0 T S (5 * n) (k + 1)))) (by omega)
            have HB : Hid (Below w.heap.size w (x13.setRow bS (mk 2 (fcF (ptF s0 T S (5 * n) (k + 1)))))) := below_setRow HB.out (by omega) _
            have KS := KS.row 2 (fcF (ptF s0 T S (5 * n) (k + 1)))
            clear hgr
            generalize x13.setRow bS (mk 2 (fcF (ptF s0 T S (5 * n) (k + 1)))) = x14 at *
            refine hK.out _ _ ⟨CB, CS⟩ (fun hHeld => ?_)
            clear hK K
            try simp only [Act.put, List.setIfInBounds_toArray, List.set_cons_zero, List.set_cons_succ]
            refine wpAnyH_done (by kernel_rfl) ?_ _
            clear hHeld
            go_wp2_with fail
            go_roundg gk2
            case rel => exact ⟨k + 1, by omega, by go_num, CM, CB, CS, K2, K4, K5, KS, HB⟩
            case measure => omega
          refine AllReadyH.cons rfl (fun K hK => ?_) AllReadyH.nil
          go_simp
          refine (l9Part_any (T (F k)) (wtP (psF S k)) (5 * n) _ HPT.out.1 (by omega) HPT.out.2.1 HPT.out.2.2).mono ?_
          rintro _ x15 ⟨rfl, hb2⟩
          have K2 := K2.below hb2 K2.lt
          have K4 := K4.below hb2 K4.lt
          have K5 := K5.below hb2 K5.lt
          have KS := KS.below hb2 KS.lt
          have CM := CM.below hb2
          have CB := CB.below hb2
          have CS := CS.below hb2
          have HB : Hid (Below w.heap.size w x15) := HB.out.trans (hb2.mono HB.out.size)
          clear hb2 hHeld
          go_wp2_with fail
          refine hK.out _ _ ⟨CB, CS⟩ (fun hHeld => ?_)
          clear hK K
          try simp only [Act.put, List.setIfInBounds_toArray, List.set_cons_zero, List.set_cons_succ]
          refine wpAnyH_ready (rs := [0]) (by kernel_rfl) (by simp) ?_
          refine AllReadyH.cons rfl (fun K hK => ?_) AllReadyH.nil
          rw [if_pos (by rfl)]
          refine wp_ldC7 KS rfl rfl ?_
          refine hK.out _ _ ⟨CB, CS⟩ (fun hHeld => ?_)
          clear hK K
          try simp only [Act.put, List.setIfInBounds_toArray, List.set_cons_zero, List.set_cons_succ]
          refine wpAnyH_ready (rs := [17]) (by kernel_rfl) (by simp) ?_
          refine AllReadyH.cons rfl (fun K hK => ?_) AllReadyH.nil
          go_simp
          refine (l9Plus_any (ptF s0 T S (5 * n) k) (partF (T (F k)) (wtP (psF S k)) (5 * n)) _ HSU.out.1 HSU.out.2.1 HSU.out.2.2.1 HSU.out.2.2.2.1 HSU.out.2.2.2.2).mono ?_
          rintro _ x16 ⟨rfl, hb2⟩
          have K2 := K2.below hb2 K2.lt
          have K4 := K4.below hb2 K4.lt
          have K5 := K5.below hb2 K5.lt
          have KS := KS.below hb2 KS.lt
          have CM := CM.below hb2
          have CB := CB.below hb2
          have CS := CS.below hb2
          have HB : Hid (Below w.heap.size w x16) := HB.out.trans (hb2.mono HB.out.size)
          clear hb2 hHeld
          go_wp2_with fail
          refine hK.out _ _ ⟨CB, CS⟩ (fun hHeld => ?_)
          clear hK K
          try simp only [Act.put, List.setIfInBounds_toArray, List.set_cons_zero, List.set_cons_succ]
          refine wpAnyH_ready (rs := [18]) (by kernel_rfl) (by simp) ?_
          refine AllReadyH.cons rfl (fun K hK => ?_) AllReadyH.nil
          have st1 := run_store_blk (P := Try.prog) (g := fcF (plusF (ptF s0 T S (5 * n) k) (partF (T (F k)) (wtP (psF S k)) (5 * n)))) KS
          have ms1 : (mk 2 (fcF (plusF (ptF s0 T S (5 * n) k) (partF (T (F k)) (wtP (psF S k)) (5 * n))))).size = 2 := mk_size 2 _
          rw [HPS.out] at *
          go_simp
          clear st1 ms1 hHeld
          have hgr : x16.grownBy (x16.setRow bS (mk 2 (fcF (ptF s0 T S (5 * n) (k + 1))))) (some bS) := grown_row KS _
          have CM := CM.grown hgr (fun e => by cases e; omega)
          have CB := CB.grown hgr (fun e => by cases e; exact absurd rfl HNB.out)
          have CS := CS.grown hgr (fun e => by cases e; exact absurd rfl HNS.out)
          have K2 := K2.rowOther bS (mk 2 (fcF (ptF s0 T S (5 * n) (k + 1)))) (by omega)
          have K4 := K4.rowOther bS (mk 2 (fcF (ptF s0 T S (5 * n) (k + 1)))) (by omega)
          have K5 := K5.rowOther bS (mk 2 (fcF (ptF s0 T S (5 * n) (k + 1)))) (by omega)
          have HB : Hid (Below w.heap.size w (x16.setRow bS (mk 2 (fcF (ptF s0 T S (5 * n) (k + 1)))))) := below_setRow HB.out (by omega) _
          have KS := KS.row 2 (fcF (ptF s0 T S (5 * n) (k + 1)))
          clear hgr
          generalize x16.setRow bS (mk 2 (fcF (ptF s0 T S (5 * n) (k + 1)))) = x17 at *
          refine hK.out _ _ ⟨CB, CS⟩ (fun hHeld => ?_)
          clear hK K
          try simp only [Act.put, List.setIfInBounds_toArray, List.set_cons_zero, List.set_cons_succ]
          refine wpAnyH_done (by kernel_rfl) ?_ _
          clear hHeld
          go_wp2_with fail
          go_roundg gk2
          case rel => exact ⟨k + 1, by omega, by go_num, CM, CB, CS, K2, K4, K5, KS, HB⟩
          case measure => omega
theorem ss_all : ∀ n, n ≤ 2 → SSn n
  | 0, _ => SSn_zero
  | 1, _ => SSn_one
  | 2, _ => SSn_two SSn_one
end Go.Proofs.Ytblcojacmjbjcab
namespace Go.Proofs.Ytblcojacmjbjcab
open Go.RowKit Plain
attribute [local go_sem] store_new
set_option linter.unusedVariables false
set_option linter.unusedSimpArgs false
def MsOk (f : Nat → Int) (n : Int) : Prop := Vd f ∧ 0 ≤ n ∧ n ≤ 1000
instance (f : Nat → Int) (n : Int) : Decidable (MsOk f n) := by unfold MsOk; infer_instance
def msF (f : Nat → Int) (n : Int) : Fc := if MsOk f n then plusF ((sumF f 16).toNat, 1) (rd (11 * n.toNat) 5) else (0, 0)
def msO (f : Nat → Int) (n : Int) : Bool := decide (MsOk f n)
set_option maxHeartbeats 1000000 in
theorem specMeanSum_any (f : Nat → Int) (n : Int) (w : World) :
    Calls Try.prog 86 #[.agg (mk 16 f), .int .i64 n] w fun e w' => e = .returned (.tuple #[.agg (mk 2 (fcF (msF f n))), .bool (msO f n)]) ∧ Below w.heap.size w w' := by
  have z2 := zero2
  have K1 := (Blk.new w 16 f 47).alloc (.cells (mk 2 fun _ => 0) 42)
  have KR := Blk.new (w.alloc (.cells (mk 16 f) 47)) 2 (fun _ => 0) 42
  have HB := Lib.hid (((Below.refl w.heap.size w).alloc (Nat.le_refl _) (.cells (mk 16 f) 47)).alloc (by simp) (.cells (mk 2 fun _ => 0) 42))
  simp only [World.size_alloc] at KR
  by_cases hV : Vd f
  · have HV := Lib.hid hV
    by_cases hn : 0 ≤ n ∧ n ≤ 1000
    · obtain ⟨h0, h1⟩ := hn
      have e0 : msF f n = _ := if_pos ⟨hV, h0, h1⟩
      have e9 : msO f n = true := decide_eq_true ⟨hV, h0, h1⟩
      rw [e0, e9]
      clear e0 e9
      obtain ⟨m, rfl⟩ := Int.eq_ofNat_of_zero_le h0
      have hb := sumF_bd hV 16 (Nat.le_refl _)
      have HPL := Lib.hid (fun w => l9Plus_any ((sumF f 16).toNat, 1) (rd (11 * m) 5) w Nat.one_pos (rd_ok (by decide)).pos (by have := rd_le2 (11 * m) 5; have := Nat.mul_le_mul (show (sumF f 16).toNat ≤ 4194304 by omega) this; show (sumF f 16).toNat * (rd (11 * m) 5).2 ≤ _; omega) (by have := rd_le1 (11 * m) 5; show (rd (11 * m) 5).1 * 1 ≤ _; omega) (by have := rd_le2 (11 * m) 5; show 1 * (rd (11 * m) 5).2 ≤ _; omega))
      have HRD := Lib.hid (fun w => l9Cut_any (11 * m) 5 w (by decide) (by omega) (by decide))
      show Calls _ _ _ _ fun e w' => e = .returned (.tuple #[.agg (mk 2 (fcF (plusF ((sumF f 16).toNat, 1) (rd (11 * m) 5)))), .bool true]) ∧ _
      have e11 : (11 : Int) * (m : Int) = ((11 * m : Nat) : Int) := by omega
      have h11 : 11 * m ≤ 11000 := by omega
      have hsb : (sumF f 16).toNat ≤ 4194304 := by omega
      have hsi : sumF f 16 = (((sumF f 16).toNat : Nat) : Int) := by omega
      have HSU := Lib.hid (fun w => l2Sum_any f w hV)
      rw [hsi] at HSU
      clear hsi hV
      generalize rd (11 * m) 5 = Q at *
      generalize plusF ((sumF f 16).toNat, 1) Q = R at *
      generalize (sumF f 16).toNat = s at *
      generalize 11 * m = q at *
      clear hb
      go_enter Try.func86, Try.ntmps86
      go_wp2_with ((with_reducible show wpList _ _ _ (Oper.mk _ (Op.load 47 _) _ _ _ _ :: _) _ _); refine loadB (K1) rfl rfl rfl ?_)
      refine (l2Board_yes _ _ HV.out).mono ?_
      rintro _ w1 ⟨rfl, hb⟩
      have K1 := K1.below hb K1.lt
      have KR := KR.below hb KR.lt
      have HB : Hid (Below w.heap.size w w1) := HB.out.trans (hb.mono HB.out.size)
      clear hb
      go_wp2_with fail
      refine (l1In_yes _ 0 1000 _ h0 h1).mono ?_
      rintro _ w2 ⟨rfl, rfl⟩
      go_wp2_with ((with_reducible show wpList _ _ _ (Oper.mk _ (Op.load 47 _) _ _ _ _ :: _) _ _); refine loadB (K1) rfl rfl rfl ?_)
      refine (HSU.out _).mono ?_
      rintro _ w3 ⟨rfl, hb⟩
      have K1 := K1.below hb K1.lt
      have KR := KR.below hb KR.lt
      have HB : Hid (Below w.heap.size w w3) := HB.out.trans (hb.mono HB.out.size)
      clear hb
      go_wp2_with fail
      refine (HRD.out _).mono ?_
      rintro _ w4 ⟨rfl, hb⟩
      have K1 := K1.below hb K1.lt
      have KR := KR.below hb KR.lt
      have HB : Hid (Below w.heap.size w w4) := HB.out.trans (hb.mono HB.out.size)
      clear hb
      have HPL2 := HPL.out w4
      go_wp2_with fail
      refine HPL2.mono ?_
      rintro _ w5 ⟨rfl, hb⟩
      have K1 := K1.below hb K1.lt
      have KR := KR.below hb KR.lt
      have HB : Hid (Below w.heap.size w w5) := HB.out.trans (hb.mono HB.out.size)
      clear hb
      go_wp2_with ((with_reducible show wpList _ _ _ (Oper.mk _ (Op.store 42 _ _) _ _ _ _ :: _) _ _); refine storeC (KR) rfl rfl rfl rfl ?_)
      try simp only [Exit.inBlock, Exit.then]
      exact retctC (KR.row 2 _) rfl rfl rfl ⟨rfl, below_setRow HB.out (by omega) _⟩
    · have hno : ¬ MsOk f n := fun h => hn h.2
      have e0 : msF f n = (0, 0) := if_neg hno
      have e9 : msO f n = false := decide_eq_false hno
      rw [e0, e9, show mk 2 (fcF (0, 0)) = mk 2 fun _ => 0 from rfl]
      clear e0 e9
      have HN := Lib.hid (show n < 0 ∨ 1000 < n by omega)
      clear hno hn hV
      go_enter Try.func86, Try.ntmps86
      go_wp2_with ((with_reducible show wpList _ _ _ (Oper.mk _ (Op.load 47 _) _ _ _ _ :: _) _ _); refine loadB (K1) rfl rfl rfl ?_)
      refine (l2Board_yes _ _ HV.out).mono ?_
      rintro _ w1 ⟨rfl, hb⟩
      have K1 := K1.below hb K1.lt
      have KR := KR.below hb KR.lt
      have HB : Hid (Below w.heap.size w w1) := HB.out.trans (hb.mono HB.out.size)
      clear hb
      go_wp2_with fail
      refine (l1In_no _ 0 1000 _ HN.out).mono ?_
      rintro _ w2 ⟨rfl, rfl⟩
      go_wp2_with ((with_reducible show wpList _ _ _ (Oper.mk _ (Op.store 42 _ _) _ _ _ _ :: _) _ _); refine storeC (KR) rfl rfl rfl rfl ?_)
      try simp only [Exit.inBlock, Exit.then]
      exact retctC (KR.row 2 _) rfl rfl rfl ⟨rfl, below_setRow HB.out (by omega) _⟩
  · have hno : ¬ MsOk f n := fun h => hV h.1
    have e0 : msF f n = (0, 0) := if_neg hno
    have e9 : msO f n = false := decide_eq_false hno
    rw [e0, e9, show mk 2 (fcF (0, 0)) = mk 2 fun _ => 0 from rfl]
    clear e0 e9
    have HV := Lib.hid hV
    clear hno hV
    go_enter Try.func86, Try.ntmps86
    go_wp2_with ((with_reducible show wpList _ _ _ (Oper.mk _ (Op.load 47 _) _ _ _ _ :: _) _ _); refine loadB (K1) rfl rfl rfl ?_)
    refine (l2Board_no _ _ HV.out).mono ?_
    rintro _ w1 ⟨rfl, hb⟩
    have K1 := K1.below hb K1.lt
    have KR := KR.below hb KR.lt
    have HB : Hid (Below w.heap.size w w1) := HB.out.trans (hb.mono HB.out.size)
    clear hb
    go_wp2_with ((with_reducible show wpList _ _ _ (Oper.mk _ (Op.store 42 _ _) _ _ _ _ :: _) _ _); refine storeC (KR) rfl rfl rfl rfl ?_)
    try simp only [Exit.inBlock, Exit.then]
    exact retctC (KR.row 2 _) rfl rfl rfl ⟨rfl, below_setRow HB.out (by omega) _⟩
set_option maxHeartbeats 1000000 in
theorem implMeanSum_any (f : Nat → Int) (n : Int) (w : World) :
    Calls Try.prog 85 #[.agg (mk 16 f), .int .i64 n] w fun e w' => e = .returned (.tuple #[.agg (mk 2 (fcF (msF f n))), .bool (msO f n)]) ∧ Below w.heap.size w w' := by
  have z2 := zero2
  have K1 := (Blk.new w 16 f 47).alloc (.cells (mk 2 fun _ => 0) 42)
  have KR := Blk.new (w.alloc (.cells (mk 16 f) 47)) 2 (fun _ => 0) 42
  have HB := Lib.hid (((Below.refl w.heap.size w).alloc (Nat.le_refl _) (.cells (mk 16 f) 47)).alloc (by simp) (.cells (mk 2 fun _ => 0) 42))
  simp only [World.size_alloc] at KR
  by_cases hV : Vd f
  · have HV := Lib.hid hV
    by_cases hn : 0 ≤ n ∧ n ≤ 1000
    · obtain ⟨h0, h1⟩ := hn
      have e0 : msF f n = _ := if_pos ⟨hV, h0, h1⟩
      have e9 : msO f n = true := decide_eq_true ⟨hV, h0, h1⟩
      rw [e0, e9]
      clear e0 e9
      obtain ⟨m, rfl⟩ := Int.eq_ofNat_of_zero_le h0
      have hb := sumF_bd hV 16 (Nat.le_refl _)
      have HPL := Lib.hid (fun w => plus_any ((sumF f 16).toNat, 1) (rd (11 * m) 5) w Nat.one_pos (rd_ok (by decide)).pos (by have := rd_le2 (11 * m) 5; have := Nat.mul_le_mul (show (sumF f 16).toNat ≤ 4194304 by omega) this; show (sumF f 16).toNat * (rd (11 * m) 5).2 ≤ _; omega) (by have := rd_le1 (11 * m) 5; show (rd (11 * m) 5).1 * 1 ≤ _; omega) (by have := rd_le2 (11 * m) 5; show 1 * (rd (11 * m) 5).2 ≤ _; omega))
      have HRD := Lib.hid (fun w => reduced_any (11 * m) 5 w (by decide) (by omega) (by decide))
      show Calls _ _ _ _ fun e w' => e = .returned (.tuple #[.agg (mk 2 (fcF (plusF ((sumF f 16).toNat, 1) (rd (11 * m) 5)))), .bool true]) ∧ _
      have e11 : (11 : Int) * (m : Int) = ((11 * m : Nat) : Int) := by omega
      have h11 : 11 * m ≤ 11000 := by omega
      have hsb : (sumF f 16).toNat ≤ 4194304 := by omega
      have hsi : sumF f 16 = (((sumF f 16).toNat : Nat) : Int) := by omega
      have HSM := Lib.hid (implSum_any f)
      rw [sumR_yes hV, vdO_yes hV, hsi] at HSM
      clear hsi hV
      have h1g : ¬ (m : Int) > 1000 := by omega
      have h0g : ¬ (m : Int) < 0 := by omega
      generalize rd (11 * m) 5 = Q at *
      generalize plusF ((sumF f 16).toNat, 1) Q = R at *
      generalize (sumF f 16).toNat = s at *
      generalize 11 * m = q at *
      clear hb
      go_enter Try.func85, Try.ntmps85
      go_wp2_with ((with_reducible show wpList _ _ _ (Oper.mk _ (Op.load 47 _) _ _ _ _ :: _) _ _); refine loadB (K1) rfl rfl rfl ?_)
      refine (HSM.out _).mono ?_
      rintro _ w1 ⟨rfl, hb⟩
      have K1 := K1.below hb K1.lt
      have KR := KR.below hb KR.lt
      have HB : Hid (Below w.heap.size w w1) := HB.out.trans (hb.mono HB.out.size)
      clear hb
      go_wp2_with fail
      refine (whole_any _ s _ rfl).mono ?_
      rintro _ w3 ⟨rfl, hb⟩
      have K1 := K1.below hb K1.lt
      have KR := KR.below hb KR.lt
      have HB : Hid (Below w.heap.size w w3) := HB.out.trans (hb.mono HB.out.size)
      clear hb
      go_wp2_with fail
      refine (HRD.out _).mono ?_
      rintro _ w4 ⟨rfl, hb⟩
      have K1 := K1.below hb K1.lt
      have KR := KR.below hb KR.lt
      have HB : Hid (Below w.heap.size w w4) := HB.out.trans (hb.mono HB.out.size)
      clear hb
      go_wp2_with fail
      refine (HPL.out _).mono ?_
      rintro _ w5 ⟨rfl, hb⟩
      have K1 := K1.below hb K1.lt
      have KR := KR.below hb KR.lt
      have HB : Hid (Below w.heap.size w w5) := HB.out.trans (hb.mono HB.out.size)
      clear hb
      go_wp2_with ((with_reducible show wpList _ _ _ (Oper.mk _ (Op.store 42 _ _) _ _ _ _ :: _) _ _); refine storeC (KR) rfl rfl rfl rfl ?_)
      try simp only [Exit.inBlock, Exit.then]
      exact retctC (KR.row 2 _) rfl rfl rfl ⟨rfl, below_setRow HB.out (by omega) _⟩
    · have hno : ¬ MsOk f n := fun h => hn h.2
      have e0 : msF f n = (0, 0) := if_neg hno
      have e9 : msO f n = false := decide_eq_false hno
      rw [e0, e9, show mk 2 (fcF (0, 0)) = mk 2 fun _ => 0 from rfl]
      clear e0 e9
      have HN := Lib.hid (show n < 0 ∨ 1000 < n by omega)
      have HSM := Lib.hid (implSum_any f)
      rw [sumR_yes hV, vdO_yes hV] at HSM
      clear hno hn hV
      have hN := HN.out
      by_cases hl : n < 0
      · clear hN
        go_enter Try.func85, Try.ntmps85
        go_wp2_with ((with_reducible show wpList _ _ _ (Oper.mk _ (Op.load 47 _) _ _ _ _ :: _) _ _); refine loadB (K1) rfl rfl rfl ?_)
        refine (HSM.out _).mono ?_
        rintro _ w1 ⟨rfl, hb⟩
        have K1 := K1.below hb K1.lt
        have KR := KR.below hb KR.lt
        have HB : Hid (Below w.heap.size w w1) := HB.out.trans (hb.mono HB.out.size)
        clear hb
        go_wp2_with ((with_reducible show wpList _ _ _ (Oper.mk _ (Op.store 42 _ _) _ _ _ _ :: _) _ _); refine storeC (KR) rfl rfl rfl rfl ?_)
        try simp only [Exit.inBlock, Exit.then]
        exact retctC (KR.row 2 _) rfl rfl rfl ⟨rfl, below_setRow HB.out (by omega) _⟩
      · have hg : n > 1000 := by omega
        clear hN
        go_enter Try.func85, Try.ntmps85
        go_wp2_with ((with_reducible show wpList _ _ _ (Oper.mk _ (Op.load 47 _) _ _ _ _ :: _) _ _); refine loadB (K1) rfl rfl rfl ?_)
        refine (HSM.out _).mono ?_
        rintro _ w1 ⟨rfl, hb⟩
        have K1 := K1.below hb K1.lt
        have KR := KR.below hb KR.lt
        have HB : Hid (Below w.heap.size w w1) := HB.out.trans (hb.mono HB.out.size)
        clear hb
        go_wp2_with ((with_reducible show wpList _ _ _ (Oper.mk _ (Op.store 42 _ _) _ _ _ _ :: _) _ _); refine storeC (KR) rfl rfl rfl rfl ?_)
        try simp only [Exit.inBlock, Exit.then]
        exact retctC (KR.row 2 _) rfl rfl rfl ⟨rfl, below_setRow HB.out (by omega) _⟩
  · have hno : ¬ MsOk f n := fun h => hV h.1
    have e0 : msF f n = (0, 0) := if_neg hno
    have e9 : msO f n = false := decide_eq_false hno
    rw [e0, e9, show mk 2 (fcF (0, 0)) = mk 2 fun _ => 0 from rfl]
    clear e0 e9
    have HV := Lib.hid hV
    have HSM := Lib.hid (implSum_any f)
    rw [sumR_no hV, vdO_no hV] at HSM
    clear hno hV
    go_enter Try.func85, Try.ntmps85
    go_wp2_with ((with_reducible show wpList _ _ _ (Oper.mk _ (Op.load 47 _) _ _ _ _ :: _) _ _); refine loadB (K1) rfl rfl rfl ?_)
    refine (HSM.out _).mono ?_
    rintro _ w1 ⟨rfl, hb⟩
    have K1 := K1.below hb K1.lt
    have KR := KR.below hb KR.lt
    have HB : Hid (Below w.heap.size w w1) := HB.out.trans (hb.mono HB.out.size)
    clear hb
    go_wp2_with ((with_reducible show wpList _ _ _ (Oper.mk _ (Op.store 42 _ _) _ _ _ _ :: _) _ _); refine storeC (KR) rfl rfl rfl rfl ?_)
    try simp only [Exit.inBlock, Exit.then]
    exact retctC (KR.row 2 _) rfl rfl rfl ⟨rfl, below_setRow HB.out (by omega) _⟩
end Go.Proofs.Ytblcojacmjbjcab
namespace Go.Proofs.Ytblcojacmjbjcab
open Go.RowKit Plain
attribute [local go_sem] store_new
set_option linter.unusedVariables false
set_option linter.unusedSimpArgs false
def SsOk (f : Nat → Int) (n : Int) : Prop := Vd f ∧ 0 ≤ n ∧ n ≤ 2
instance (f : Nat → Int) (n : Int) : Decidable (SsOk f n) := by unfold SsOk; infer_instance
def ssF (f : Nat → Int) (n : Int) : Fc := if SsOk f n then ScF n.toNat f else (0, 0)
def ssO (f : Nat → Int) (n : Int) : Bool := decide (SsOk f n)
set_option maxHeartbeats 1000000 in
theorem specScoreC_any (f : Nat → Int) (n : Int) (w : World) :
    Calls Try.prog 89 #[.agg (mk 16 f), .int .i64 n] w fun e w' => e = .returned (.tuple #[.agg (mk 2 (fcF (ssF f n))), .bool (ssO f n)]) ∧ Below w.heap.size w w' := by
  have z2 := zero2
  have K1 := (Blk.new w 16 f 47).alloc (.cells (mk 2 fun _ => 0) 42)
  have KR := Blk.new (w.alloc (.cells (mk 16 f) 47)) 2 (fun _ => 0) 42
  have HB := Lib.hid (((Below.refl w.heap.size w).alloc (Nat.le_refl _) (.cells (mk 16 f) 47)).alloc (by simp) (.cells (mk 2 fun _ => 0) 42))
  simp only [World.size_alloc] at KR
  by_cases hV : Vd f
  · have HV := Lib.hid hV
    by_cases hn : 0 ≤ n ∧ n ≤ 2
    · obtain ⟨h0, h1⟩ := hn
      have e0 : ssF f n = _ := if_pos ⟨hV, h0, h1⟩
      have e9 : ssO f n = true := decide_eq_true ⟨hV, h0, h1⟩
      rw [e0, e9]
      clear e0 e9
      obtain ⟨m, rfl⟩ := Int.eq_ofNat_of_zero_le h0
      have hm : m ≤ 2 := by omega
      have HC := Lib.hid (fun W => ss_all m hm f W HV.out)
      show Calls _ _ _ _ fun e w' => e = .returned (.tuple #[.agg (mk 2 (fcF (ScF m f))), .bool true]) ∧ _
      generalize ScF m f = R at *
      generalize hM : ((m : Nat) : Int) = N at *
      clear hM hV
      go_enter Try.func89, Try.ntmps89
      go_wp2_with ((with_reducible show wpList _ _ _ (Oper.mk _ (Op.load 47 _) _ _ _ _ :: _) _ _); refine loadB (K1) rfl rfl rfl ?_)
      refine (l2Board_yes _ _ HV.out).mono ?_
      rintro _ w1 ⟨rfl, hb⟩
      have K1 := K1.below hb K1.lt
      have KR := KR.below hb KR.lt
      have HB : Hid (Below w.heap.size w w1) := HB.out.trans (hb.mono HB.out.size)
      clear hb
      go_wp2_with fail
      refine (l1In_yes _ 0 2 _ h0 h1).mono ?_
      rintro _ w2 ⟨rfl, rfl⟩
      go_wp2_with ((with_reducible show wpList _ _ _ (Oper.mk _ (Op.load 47 _) _ _ _ _ :: _) _ _); refine loadB (K1) rfl rfl rfl ?_)
      refine (HC.out _).mono ?_
      rintro _ w3 ⟨rfl, hb⟩
      have K1 := K1.below hb K1.lt
      have KR := KR.below hb KR.lt
      have HB : Hid (Below w.heap.size w w3) := HB.out.trans (hb.mono HB.out.size)
      clear hb
      go_wp2_with ((with_reducible show wpList _ _ _ (Oper.mk _ (Op.store 42 _ _) _ _ _ _ :: _) _ _); refine storeC (KR) rfl rfl rfl rfl ?_)
      try simp only [Exit.inBlock, Exit.then]
      exact retctC (KR.row 2 _) rfl rfl rfl ⟨rfl, below_setRow HB.out (by omega) _⟩
    · have hno : ¬ SsOk f n := fun h => hn h.2
      have e0 : ssF f n = (0, 0) := if_neg hno
      have e9 : ssO f n = false := decide_eq_false hno
      rw [e0, e9, show mk 2 (fcF (0, 0)) = mk 2 fun _ => 0 from rfl]
      clear e0 e9
      have HN := Lib.hid (show n < 0 ∨ 2 < n by omega)
      clear hno hn hV
      go_enter Try.func89, Try.ntmps89
      go_wp2_with ((with_reducible show wpList _ _ _ (Oper.mk _ (Op.load 47 _) _ _ _ _ :: _) _ _); refine loadB (K1) rfl rfl rfl ?_)
      refine (l2Board_yes _ _ HV.out).mono ?_
      rintro _ w1 ⟨rfl, hb⟩
      have K1 := K1.below hb K1.lt
      have KR := KR.below hb KR.lt
      have HB : Hid (Below w.heap.size w w1) := HB.out.trans (hb.mono HB.out.size)
      clear hb
      go_wp2_with fail
      refine (l1In_no _ 0 2 _ HN.out).mono ?_
      rintro _ w2 ⟨rfl, rfl⟩
      go_wp2_with ((with_reducible show wpList _ _ _ (Oper.mk _ (Op.store 42 _ _) _ _ _ _ :: _) _ _); refine storeC (KR) rfl rfl rfl rfl ?_)
      try simp only [Exit.inBlock, Exit.then]
      exact retctC (KR.row 2 _) rfl rfl rfl ⟨rfl, below_setRow HB.out (by omega) _⟩
  · have hno : ¬ SsOk f n := fun h => hV h.1
    have e0 : ssF f n = (0, 0) := if_neg hno
    have e9 : ssO f n = false := decide_eq_false hno
    rw [e0, e9, show mk 2 (fcF (0, 0)) = mk 2 fun _ => 0 from rfl]
    clear e0 e9
    have HV := Lib.hid hV
    clear hno hV
    go_enter Try.func89, Try.ntmps89
    go_wp2_with ((with_reducible show wpList _ _ _ (Oper.mk _ (Op.load 47 _) _ _ _ _ :: _) _ _); refine loadB (K1) rfl rfl rfl ?_)
    refine (l2Board_no _ _ HV.out).mono ?_
    rintro _ w1 ⟨rfl, hb⟩
    have K1 := K1.below hb K1.lt
    have KR := KR.below hb KR.lt
    have HB : Hid (Below w.heap.size w w1) := HB.out.trans (hb.mono HB.out.size)
    clear hb
    go_wp2_with ((with_reducible show wpList _ _ _ (Oper.mk _ (Op.store 42 _ _) _ _ _ _ :: _) _ _); refine storeC (KR) rfl rfl rfl rfl ?_)
    try simp only [Exit.inBlock, Exit.then]
    exact retctC (KR.row 2 _) rfl rfl rfl ⟨rfl, below_setRow HB.out (by omega) _⟩
set_option maxHeartbeats 1000000 in
theorem implScoreC_any (f : Nat → Int) (n : Int) (w : World) :
    Calls Try.prog 88 #[.agg (mk 16 f), .int .i64 n] w fun e w' => e = .returned (.tuple #[.agg (mk 2 (fcF (ssF f n))), .bool (ssO f n)]) ∧ Below w.heap.size w w' := by
  have z2 := zero2
  have K1 := (Blk.new w 16 f 47).alloc (.cells (mk 2 fun _ => 0) 42)
  have KR := Blk.new (w.alloc (.cells (mk 16 f) 47)) 2 (fun _ => 0) 42
  have HB := Lib.hid (((Below.refl w.heap.size w).alloc (Nat.le_refl _) (.cells (mk 16 f) 47)).alloc (by simp) (.cells (mk 2 fun _ => 0) 42))
  simp only [World.size_alloc] at KR
  by_cases hV : Vd f
  · have HV := Lib.hid hV
    by_cases hn : 0 ≤ n ∧ n ≤ 2
    · obtain ⟨h0, h1⟩ := hn
      have e0 : ssF f n = _ := if_pos ⟨hV, h0, h1⟩
      have e9 : ssO f n = true := decide_eq_true ⟨hV, h0, h1⟩
      rw [e0, e9]
      clear e0 e9
      obtain ⟨m, rfl⟩ := Int.eq_ofNat_of_zero_le h0
      have hm : m ≤ 2 := by omega
      have HC := Lib.hid (fun W => sp_all m hm f W HV.out)
      show Calls _ _ _ _ fun e w' => e = .returned (.tuple #[.agg (mk 2 (fcF (ScF m f))), .bool true]) ∧ _
      generalize ScF m f = R at *
      generalize hM : ((m : Nat) : Int) = N at *
      clear hM hV
      have h1g : ¬ N > 2 := by omega
      have h0g : ¬ N < 0 := by omega
      go_enter Try.func88, Try.ntmps88
      go_wp2_with ((with_reducible show wpList _ _ _ (Oper.mk _ (Op.load 47 _) _ _ _ _ :: _) _ _); refine loadB (K1) rfl rfl rfl ?_)
      refine (implBoard_yes _ _ HV.out).mono ?_
      rintro _ w1 ⟨rfl, hb⟩
      have K1 := K1.below hb K1.lt
      have KR := KR.below hb KR.lt
      have HB : Hid (Below w.heap.size w w1) := HB.out.trans (hb.mono HB.out.size)
      clear hb
      go_wp2_with ((with_reducible show wpList _ _ _ (Oper.mk _ (Op.load 47 _) _ _ _ _ :: _) _ _); refine loadB (K1) rfl rfl rfl ?_)
      refine (HC.out _).mono ?_
      rintro _ w3 ⟨rfl, hb⟩
      have K1 := K1.below hb K1.lt
      have KR := KR.below hb KR.lt
      have HB : Hid (Below w.heap.size w w3) := HB.out.trans (hb.mono HB.out.size)
      clear hb
      go_wp2_with ((with_reducible show wpList _ _ _ (Oper.mk _ (Op.store 42 _ _) _ _ _ _ :: _) _ _); refine storeC (KR) rfl rfl rfl rfl ?_)
      try simp only [Exit.inBlock, Exit.then]
      exact retctC (KR.row 2 _) rfl rfl rfl ⟨rfl, below_setRow HB.out (by omega) _⟩
    · have hno : ¬ SsOk f n := fun h => hn h.2
      have e0 : ssF f n = (0, 0) := if_neg hno
      have e9 : ssO f n = false := decide_eq_false hno
      rw [e0, e9, show mk 2 (fcF (0, 0)) = mk 2 fun _ => 0 from rfl]
      clear e0 e9
      have HN := Lib.hid (show n < 0 ∨ 2 < n by omega)
      clear hno hn hV
      have hN := HN.out
      by_cases hl : n < 0
      · clear hN
        go_enter Try.func88, Try.ntmps88
        go_wp2_with ((with_reducible show wpList _ _ _ (Oper.mk _ (Op.load 47 _) _ _ _ _ :: _) _ _); refine loadB (K1) rfl rfl rfl ?_)
        refine (implBoard_yes _ _ HV.out).mono ?_
        rintro _ w1 ⟨rfl, hb⟩
        have K1 := K1.below hb K1.lt
        have KR := KR.below hb KR.lt
        have HB : Hid (Below w.heap.size w w1) := HB.out.trans (hb.mono HB.out.size)
        clear hb
        go_wp2_with ((with_reducible show wpList _ _ _ (Oper.mk _ (Op.store 42 _ _) _ _ _ _ :: _) _ _); refine storeC (KR) rfl rfl rfl rfl ?_)
        try simp only [Exit.inBlock, Exit.then]
        exact retctC (KR.row 2 _) rfl rfl rfl ⟨rfl, below_setRow HB.out (by omega) _⟩
      · have hg : n > 2 := by omega
        clear hN
        go_enter Try.func88, Try.ntmps88
        go_wp2_with ((with_reducible show wpList _ _ _ (Oper.mk _ (Op.load 47 _) _ _ _ _ :: _) _ _); refine loadB (K1) rfl rfl rfl ?_)
        refine (implBoard_yes _ _ HV.out).mono ?_
        rintro _ w1 ⟨rfl, hb⟩
        have K1 := K1.below hb K1.lt
        have KR := KR.below hb KR.lt
        have HB : Hid (Below w.heap.size w w1) := HB.out.trans (hb.mono HB.out.size)
        clear hb
        go_wp2_with ((with_reducible show wpList _ _ _ (Oper.mk _ (Op.store 42 _ _) _ _ _ _ :: _) _ _); refine storeC (KR) rfl rfl rfl rfl ?_)
        try simp only [Exit.inBlock, Exit.then]
        exact retctC (KR.row 2 _) rfl rfl rfl ⟨rfl, below_setRow HB.out (by omega) _⟩
  · have hno : ¬ SsOk f n := fun h => hV h.1
    have e0 : ssF f n = (0, 0) := if_neg hno
    have e9 : ssO f n = false := decide_eq_false hno
    rw [e0, e9, show mk 2 (fcF (0, 0)) = mk 2 fun _ => 0 from rfl]
    clear e0 e9
    have HV := Lib.hid hV
    clear hno hV
    go_enter Try.func88, Try.ntmps88
    go_wp2_with ((with_reducible show wpList _ _ _ (Oper.mk _ (Op.load 47 _) _ _ _ _ :: _) _ _); refine loadB (K1) rfl rfl rfl ?_)
    refine (implBoard_no _ _ HV.out).mono ?_
    rintro _ w1 ⟨rfl, hb⟩
    have K1 := K1.below hb K1.lt
    have KR := KR.below hb KR.lt
    have HB : Hid (Below w.heap.size w w1) := HB.out.trans (hb.mono HB.out.size)
    clear hb
    go_wp2_with ((with_reducible show wpList _ _ _ (Oper.mk _ (Op.store 42 _ _) _ _ _ _ :: _) _ _); refine storeC (KR) rfl rfl rfl rfl ?_)
    try simp only [Exit.inBlock, Exit.then]
    exact retctC (KR.row 2 _) rfl rfl rfl ⟨rfl, below_setRow HB.out (by omega) _⟩
end Go.Proofs.Ytblcojacmjbjcab
namespace Go.Proofs.Ytblcojacmjbjcab
open Go.RowKit Plain
attribute [local go_sem] store_new
set_option linter.unusedVariables false
set_option linter.unusedSimpArgs false
def brV (f : Nat → Int) (d : Nat) : Fc := mnF (numT uRoom) (slideB f d)
def bmN : Bm := ⟨0, (0, 0), false⟩
def brB (f : Nat → Int) : Bm := if Vd f ∧ (bmF f (brV f) 4).ok = true then bmF f (brV f) 4 else bmN
theorem br_ok {f : Nat → Int} (hV : Vd f) {d : Nat} (hm : isMv f d = true) : FcOk (brV f d) ∧ (brV f d).1 ≤ 160000 ∧ (brV f d).2 ≤ 160 := by
  have hE := mv_room hV hm
  have hd : Den 1 1000 (numT uRoom) (slideB f d) := den_num (by decide) (by decide) uRoom_le
  obtain ⟨a, b, c⟩ := mnF_ok hd hE
  have h1 := empN_le (slideB f d) 16
  have h2 := Nat.le_of_dvd (by omega) b
  refine ⟨a, ?_, ?_⟩
  · show (mnF _ _).1 ≤ _; omega
  · show (mnF _ _).2 ≤ _; omega
/-- The mean so far, as the reference keeps it: none is told by two zeros. -/
def mrF (S : Bm) : Fc := if S.ok = true then S.v else (0, 0)
theorem mr_yes {S : Bm} (h : S.ok = true) : mrF S = S.v := if_pos h
theorem mr_no {S : Bm} (h : S.ok = false) : mrF S = (0, 0) := by unfold mrF; rw [h]; rfl
theorem bmL_all {f : Nat → Int} {V : Nat → Fc} {P : Bm → Prop} (h0 : P bm0) (h : ∀ d, d < 4 → isMv f d = true → P ⟨d, V d, true⟩) (i : Nat) : P (bmL V ((movL f 4).take i)) := by
  have key : ∀ L : List Int, (∀ x, x ∈ L → ∃ d : Nat, d < 4 ∧ x = (d : Int) ∧ isMv f d = true) → P (bmL V L) := fun L => by
    refine list_snoc (fun L => (∀ x, x ∈ L → ∃ d : Nat, d < 4 ∧ x = (d : Int) ∧ isMv f d = true) → P (bmL V L)) (fun _ => h0) (fun L x ih hL => ?_) L
    rw [bmL_snoc]
    unfold bmS
    split
    · obtain ⟨d, hd, e, hm⟩ := hL x (by simp)
      have e2 : x.toNat = d := by omega
      rw [e2]; exact h d hd hm
    · exact ih fun y hy => hL y (by simp [hy])
  exact key _ fun x hx => mov_is f 4 x (List.mem_of_mem_take hx)
theorem mov_mem5 {w : World} {b g c : Nat} {L : List Int} (h : OwnsInts w b (.slice (some ⟨g, 0, none⟩) L.length c) L) : CAt w g L.length (fun i => L.getD i 0) := by
  unfold OwnsInts at h
  rw [ints_mk] at h
  obtain ⟨_, _, e1, _, hl, hc⟩ := IRow.of_own h
  cases e1
  exact ⟨hl, hc⟩
theorem execC5 {o : Oper} {ev : Operand → Value} {w : World} {b : Nat} {f : Nat → Int} {t : TypeId} {x : Operand} (hg : Blk w b 2 f t) (ho : o.op = .load 42 x) (hx : ev x = .pointer (some ⟨b, 0, none⟩)) :
    (execOp ev o).run Try.prog w = .ok (.value (.agg (mk 2 f))) w := exec_load_blk _ x ho hx hg Try.underlying42 rfl sizeC
theorem fc_mul5 {a b : Nat} (ha : a ≤ 160000) (hb : b ≤ 160000) : a * b ≤ 4611686018427387904 := by
  have := Nat.mul_le_mul ha hb
  omega
theorem slideRoom_any (f : Nat → Int) (d : Nat) (w : World) (hV : Vd f) (hm : isMv f d = true) : Calls Try.prog 196 #[.agg (mk 18 (slideV f d))] w fun e w' => e = .returned (.agg (mk 2 (fcF (brV f d)))) ∧ Below w.heap.size w w' := by
  have z2 := zero2
  have z18 := zero18
  have K3 := (Blk.new w 18 (slideV f d) 144).alloc (.cells (mk 2 fun _ => 0) 155)
  have K4 := Blk.new (w.alloc (.cells (mk 18 (slideV f d)) 144)) 2 (fun _ => 0) 155
  have HB := Lib.hid (((Below.refl w.heap.size w).alloc (Nat.le_refl _) (.cells (mk 18 (slideV f d)) 144)).alloc (by simp) (.cells (mk 2 fun _ => 0) 155))
  simp only [World.size_alloc] at K4
  have HM := Lib.hid (fun W => meanBehind_any (slideB f d) (numT uRoom) 1 1000 193 #[] #[] W (slideB_vd hV d) (den_num (by decide) (by decide) uRoom_le) (mv_room hV hm) (Go.Proofs.enters_of Try.func193 (by kernel_rfl) rfl) (fun p W' hp _ => room_any (plB (slideB f d) p) W' (plB_vd (slideB_vd hV d) hp)))
  show Calls _ _ _ _ fun e w' => e = .returned (.agg (mk 2 (fcF (mnF (numT uRoom) (slideB f d))))) ∧ _
  go_enter Try.func196, Try.ntmps196
  go_wp2_with ((with_reducible show wpList _ _ _ (Oper.mk _ (Op.load 47 _) _ _ _ _ :: _) _ _); refine loadSB9 K3 rfl rfl rfl ?_)
  refine (HM.out _).mono ?_
  rintro _ w2 ⟨rfl, hb⟩
  have K4 := K4.below hb K4.lt
  have HB : Hid (Below w.heap.size w w2) := HB.out.trans (hb.mono HB.out.size)
  clear hb
  go_wp2_with ((with_reducible show wpList _ _ _ (Oper.mk _ (Op.store 155 _ _) _ _ _ _ :: _) _ _); refine storeF (K4) rfl rfl rfl rfl ?_)
  try simp only [Exit.inBlock, Exit.then]
  exact retcF (K4.row 2 _) rfl rfl rfl ⟨rfl, below_setRow HB.out (by omega) _⟩
theorem execBr {o : Oper} {ev : Operand → Value} {w : World} {b : Nat} {f : Nat → Int} {t : TypeId} {x : Operand} (hg : Blk w b 16 f t) (ho : o.op = .load 47 x) (hx : ev x = .pointer (some ⟨b, 0, none⟩)) :
    (execOp ev o).run Try.prog w = .ok (.value (.agg (mk 16 f))) w := exec_load_blk _ x ho hx hg Try.underlying47 rfl sizeB
set_option maxHeartbeats 4000000 in
set_option maxRecDepth 20000 in
theorem implBestRoom_any (f : Nat → Int) (w : World) :
    Calls Try.prog 82 #[.agg (mk 16 f)] w fun e w' => e = .returned (.tuple #[.int .i64 ((brB f).d : Int), .agg (mk 2 (fcF (brB f).v)), .bool (brB f).ok]) ∧ Below w.heap.size w w' := by
  have z2 := zero2
  have z16 := zero16
  have z18 := zero18
  have K3 := (Blk.new w 16 f 47).alloc (.cells (mk 2 fun _ => 0) 42)
  have KR := Blk.new (w.alloc (.cells (mk 16 f) 47)) 2 (fun _ => 0) 42
  have HB := Lib.hid (((Below.refl w.heap.size w).alloc (Nat.le_refl _) (.cells (mk 16 f) 47)).alloc (by simp) (.cells (mk 2 fun _ => 0) 42))
  simp only [World.size_alloc] at KR
  by_cases hV : Vd f
  · have HV := Lib.hid hV
    have HM := Lib.hid (fun W => bestMove_any f (brV f) (1, 0) 196 #[] #[] W hV (fun d hd hm => ⟨(br_ok hV hm).1, by have := br_ok hV hm; omega, by have := br_ok hV hm; omega⟩) (fun d hd hm => ltF_end _) (Go.Proofs.enters_of Try.func196 (by kernel_rfl) rfl) (fun d W' hd hm _ => slideRoom_any f d W' hV hm))
    have HBE : Hid (brB f = if (bmF f (brV f) 4).ok = true then bmF f (brV f) 4 else bmN) := by
      show _ = _
      unfold brB
      by_cases h : (bmF f (brV f) 4).ok = true
      · rw [if_pos ⟨hV, h⟩, if_pos h]
      · rw [if_neg (fun q => h q.2), if_neg h]
    generalize bmF f (brV f) 4 = R at *
    clear hV
    go_enter Try.func82, Try.ntmps82
    go_wp2_with ((with_reducible show wpList _ _ _ (Oper.mk _ (Op.load 47 _) _ _ _ _ :: _) _ _); refine loadB (K3) rfl rfl rfl ?_)
    refine (implBoard_yes _ _ HV.out).mono ?_
    rintro _ w1 ⟨rfl, hb⟩
    have K3 := K3.below hb K3.lt
    have KR := KR.below hb KR.lt
    have HB : Hid (Below w.heap.size w w1) := HB.out.trans (hb.mono HB.out.size)
    clear hb
    go_wp2_with fail
    refine wp_region_held_drew (S := fun W => Blk W w.heap.size 16 f 47) (by kernel_rfl) (K3.drew) (fun hHeld => ?_)
    have K3 := K3.drew
    have KR := KR.drew
    have HB : Hid (Below w.heap.size w w1.drew) := HB.out.drew
    clear hHeld
    generalize w1.drew = xw at *
    have hHeld : Blk xw w.heap.size 16 f 47 := K3
    refine wpAnyH_take (i := 0) (oi := { dst := some 13, op := _, type := _, pos := _, after := _, guard := _ }) (v := .agg (mk 16 f)) rfl (by kernel_rfl) (by kernel_rfl) (by kernel_rfl) (fun _ _ _ h => h) (Or.inl ⟨by rfl, fun _ q => execBr q rfl rfl⟩) (by assumption) ?_
    try simp only [Act.put, List.setIfInBounds_toArray, List.set_cons_zero, List.set_cons_succ]
    refine wpAnyH_ready (rs := [1, 7]) (by kernel_rfl) (by simp) ?_
    refine AllReadyH.cons rfl (fun K hK => ?_) ?_
    · go_simp
      refine (endless_any _).mono ?_
      rintro _ x1 ⟨rfl, hb⟩
      have K3 := K3.below hb K3.lt
      have KR := KR.below hb KR.lt
      have HB : Hid (Below w.heap.size w x1) := HB.out.trans (hb.mono HB.out.size)
      clear hb hHeld
      go_wp2_with fail
      refine hK.out _ _ (K3) (fun hHeld => ?_)
      clear hK K
      try simp only [Act.put, List.setIfInBounds_toArray, List.set_cons_zero, List.set_cons_succ]
      refine wpAnyH_ready (rs := [2, 7]) (by kernel_rfl) (by simp) ?_
      refine AllReadyH.cons rfl (fun K hK => ?_) ?_
      · go_simp
        refine (HM.out _).mono ?_
        rintro _ x2 ⟨rfl, hb⟩
        have K3 := K3.below hb K3.lt
        have KR := KR.below hb KR.lt
        have HB : Hid (Below w.heap.size w x2) := HB.out.trans (hb.mono HB.out.size)
        clear hb hHeld
        go_wp2_with fail
        refine hK.out _ _ (K3) (fun hHeld => ?_)
        clear hK K
        try simp only [Act.put, List.setIfInBounds_toArray, List.set_cons_zero, List.set_cons_succ]
        refine wpAnyH_take (i := 3) (oi := { dst := some 12, op := _, type := _, pos := _, after := _, guard := _ }) (v := .tuple #[.int .i64 ((R).d : Int), .agg (mk 2 (fcF (R).v)), .bool (R).ok]) rfl (by kernel_rfl) (by kernel_rfl) (by kernel_rfl) (fun _ _ _ h => h) (Or.inl ⟨by rfl, by intro w hSw; clear hSw; go_simp; (try with_reducible rfl)⟩) (by assumption) ?_
        try simp only [Act.put, List.setIfInBounds_toArray, List.set_cons_zero, List.set_cons_succ]
        refine wpAnyH_take (i := 4) (oi := { dst := some 16, op := _, type := _, pos := _, after := _, guard := _ }) (v := .int .i64 ((R).d : Int)) rfl (by kernel_rfl) (by kernel_rfl) (by kernel_rfl) (fun _ _ _ h => h) (Or.inl ⟨by rfl, by intro w hSw; clear hSw; go_simp; (try with_reducible rfl)⟩) (by assumption) ?_
        try simp only [Act.put, List.setIfInBounds_toArray, List.set_cons_zero, List.set_cons_succ]
        refine wpAnyH_take (i := 5) (oi := { dst := some 17, op := _, type := _, pos := _, after := _, guard := _ }) (v := .agg (mk 2 (fcF (R).v))) rfl (by kernel_rfl) (by kernel_rfl) (by kernel_rfl) (fun _ _ _ h => h) (Or.inl ⟨by rfl, by intro w hSw; clear hSw; go_simp; (try with_reducible rfl)⟩) (by assumption) ?_
        try simp only [Act.put, List.setIfInBounds_toArray, List.set_cons_zero, List.set_cons_succ]
        refine wpAnyH_take (i := 6) (oi := { dst := some 18, op := _, type := _, pos := _, after := _, guard := _ }) (v := .bool (R).ok) rfl (by kernel_rfl) (by kernel_rfl) (by kernel_rfl) (fun _ _ _ h => h) (Or.inl ⟨by rfl, by intro w hSw; clear hSw; go_simp; (try with_reducible rfl)⟩) (by assumption) ?_
        try simp only [Act.put, List.setIfInBounds_toArray, List.set_cons_zero, List.set_cons_succ]
        refine wpAnyH_ready (rs := [7]) (by kernel_rfl) (by simp) ?_
        refine AllReadyH.cons rfl (fun K hK => ?_) AllReadyH.nil
        go_simp
        clear hHeld
        have hl0 := K3.lt
        have hl1 := KR.lt
        have KN := Blk.new x2 2 (fun _ => 0) 155
        have K3 := K3.alloc (.cells (mk 2 fun _ => 0) 155)
        have KR := KR.alloc (.cells (mk 2 fun _ => 0) 155)
        have HB : Hid (Below w.heap.size w (x2.alloc (.cells (mk 2 fun _ => 0) 155))) := HB.out.alloc HB.out.size _
        generalize x2.alloc (.cells (mk 2 fun _ => 0) 155) = xn3 at *
        generalize x2.heap.size = bN at *
        refine hK.out _ _ (K3) (fun hHeld => ?_)
        clear hK K
        try simp only [Act.put, List.setIfInBounds_toArray, List.set_cons_zero, List.set_cons_succ]
        refine wpAnyH_take (i := 8) (oi := { dst := some 5, op := _, type := _, pos := _, after := _, guard := _ }) (v := .int .i64 ((R).d : Int)) rfl (by kernel_rfl) (by kernel_rfl) (by kernel_rfl) (fun _ _ _ h => h) (Or.inl ⟨by rfl, by intro w hSw; clear hSw; go_simp; (try with_reducible rfl)⟩) (by assumption) ?_
        try simp only [Act.put, List.setIfInBounds_toArray, List.set_cons_zero, List.set_cons_succ]
        refine wpAnyH_ready (rs := [9]) (by kernel_rfl) (by simp) ?_
        refine AllReadyH.cons rfl (fun K hK => ?_) AllReadyH.nil
        have st1 := run_store_blk (P := Try.prog) (g := fcF (R).v) KN
        have ms1 : (mk 2 (fcF (R).v)).size = 2 := mk_size 2 _
        go_simp
        clear st1 ms1 hHeld
        have K3 := K3.rowOther bN (mk 2 (fcF (R).v)) (by omega)
        have KR := KR.rowOther bN (mk 2 (fcF (R).v)) (by omega)
        have HB : Hid (Below w.heap.size w (xn3.setRow bN (mk 2 (fcF (R).v)))) := below_setRow HB.out (by omega) _
        have KN := KN.row 2 (fcF (R).v)
        generalize xn3.setRow bN (mk 2 (fcF (R).v)) = xs4 at *
        refine hK.out _ _ (K3) (fun hHeld => ?_)
        clear hK K
        try simp only [Act.put, List.setIfInBounds_toArray, List.set_cons_zero, List.set_cons_succ]
        refine wpAnyH_take (i := 10) (oi := { dst := some 7, op := _, type := _, pos := _, after := _, guard := _ }) (v := .bool (R).ok) rfl (by kernel_rfl) (by kernel_rfl) (by kernel_rfl) (fun _ _ _ h => h) (Or.inl ⟨by rfl, by intro w hSw; clear hSw; go_simp; (try with_reducible rfl)⟩) (by assumption) ?_
        try simp only [Act.put, List.setIfInBounds_toArray, List.set_cons_zero, List.set_cons_succ]
        refine wpAnyH_done (by kernel_rfl) ?_ _
        clear hHeld
        cases hok : R.ok with
        | true =>
          have HBR : Hid (brB f = ⟨R.d, R.v, true⟩) := by show _ = _; rw [HBE.out, if_pos hok, ← hok]
          rw [hok] at *
          clear hok
          go_wp2_with fail
          refine wp_region_held_drew (S := fun W => (∃ g, Blk W (w.heap.size + 1) 2 g 42) ∧ Blk W bN 2 (fcF R.v) 155) (by kernel_rfl) (⟨⟨_, KR.drew⟩, KN.drew⟩) (fun hHeld => ?_)
          have KR := KR.drew
          have KN := KN.drew
          have HB : Hid (Below w.heap.size w xs4.drew) := HB.out.drew
          generalize xs4.drew = z0 at *
          refine wpAnyH_take (i := 0) (oi := { dst := some 22, op := _, type := _, pos := _, after := _, guard := _ }) (v := .int .i64 (R.d : Int)) rfl (by kernel_rfl) (by kernel_rfl) (by kernel_rfl) (fun _ _ _ h => h) (Or.inl ⟨by rfl, by intro w hSw; clear hSw; go_simp; (try with_reducible rfl)⟩) (by assumption) ?_
          try simp only [Act.put, List.setIfInBounds_toArray, List.set_cons_zero, List.set_cons_succ]
          refine wpAnyH_take (i := 1) (oi := { dst := some 23, op := _, type := _, pos := _, after := _, guard := _ }) (v := .agg (mk 2 (fcF R.v))) rfl (by kernel_rfl) (by kernel_rfl) (by kernel_rfl) (fun _ _ _ h => h) (Or.inl ⟨by rfl, fun _ q => execF9 q.2 rfl rfl⟩) (by assumption) ?_
          try simp only [Act.put, List.setIfInBounds_toArray, List.set_cons_zero, List.set_cons_succ]
          refine wpAnyH_take (i := 2) (oi := { dst := some 2, op := _, type := _, pos := _, after := _, guard := _ }) (v := .int .i64 (R.d : Int)) rfl (by kernel_rfl) (by kernel_rfl) (by kernel_rfl) (fun _ _ _ h => h) (Or.inl ⟨by rfl, by intro w hSw; clear hSw; go_simp; (try with_reducible rfl)⟩) (by assumption) ?_
          try simp only [Act.put, List.setIfInBounds_toArray, List.set_cons_zero, List.set_cons_succ]
          refine wpAnyH_ready (rs := [3]) (by kernel_rfl) (by simp) ?_
          refine AllReadyH.cons rfl (fun K hK => ?_) AllReadyH.nil
          have st1 := run_store_blk (P := Try.prog) (g := fcF R.v) KR
          have ms1 : (mk 2 (fcF R.v)).size = 2 := mk_size 2 _
          go_simp
          clear st1 ms1 hHeld
          have hne : w.heap.size + 1 ≠ bN := by omega
          have KN := KN.rowOther (w.heap.size + 1) (mk 2 (fcF R.v)) (by omega)
          have HB : Hid (Below w.heap.size w (z0.setRow (w.heap.size + 1) (mk 2 (fcF R.v)))) := below_setRow HB.out (by omega) _
          have KR := KR.row 2 (fcF R.v)
          generalize z0.setRow (w.heap.size + 1) (mk 2 (fcF R.v)) = z1 at *
          refine hK.out _ _ ⟨⟨_, KR⟩, KN⟩ (fun hHeld => ?_)
          clear hK K
          try simp only [Act.put, List.setIfInBounds_toArray, List.set_cons_zero, List.set_cons_succ]
          refine wpAnyH_take (i := 4) (oi := { dst := some 4, op := _, type := _, pos := _, after := _, guard := _ }) (v := .bool true) rfl (by kernel_rfl) (by kernel_rfl) (by kernel_rfl) (fun _ _ _ h => h) (Or.inl ⟨by rfl, by intro w hSw; clear hSw; go_simp; (try with_reducible rfl)⟩) (by assumption) ?_
          try simp only [Act.put, List.setIfInBounds_toArray, List.set_cons_zero, List.set_cons_succ]
          refine wpAnyH_done (by kernel_rfl) ?_ _
          clear hHeld
          go_wp2_with fail
          try simp only [Exit.inBlock, Exit.then]
          exact ret_tct Try.underlying42 rfl sizeC rfl rfl rfl KR ⟨by rw [HBR.out] <;> rfl, HB.out⟩
        | false =>
          have HBR : Hid (brB f = bmN) := by show _ = _; rw [HBE.out, hok]; rfl
          clear hok
          go_wp2_with (first | ((with_reducible show wpList _ _ _ (Oper.mk _ (Op.store 42 _ _) _ _ _ _ :: _) _ _); refine storeC (KR) rfl rfl rfl rfl ?_))
          try simp only [Exit.inBlock, Exit.then]
          exact ret_tct Try.underlying42 rfl sizeC rfl rfl rfl (KR.row 2 _) ⟨by rw [HBR.out] <;> rfl, below_setRow HB.out (by omega) _⟩
      refine AllReadyH.cons rfl (fun K hK => ?_) AllReadyH.nil
      go_simp
      clear hHeld
      have hl0 := K3.lt
      have hl1 := KR.lt
      have KN := Blk.new x1 2 (fun _ => 0) 155
      have K3 := K3.alloc (.cells (mk 2 fun _ => 0) 155)
      have KR := KR.alloc (.cells (mk 2 fun _ => 0) 155)
      have HB : Hid (Below w.heap.size w (x1.alloc (.cells (mk 2 fun _ => 0) 155))) := HB.out.alloc HB.out.size _
      generalize x1.alloc (.cells (mk 2 fun _ => 0) 155) = xn5 at *
      generalize x1.heap.size = bN at *
      refine hK.out _ _ (K3) (fun hHeld => ?_)
      clear hK K
      try simp only [Act.put, List.setIfInBounds_toArray, List.set_cons_zero, List.set_cons_succ]
      refine wpAnyH_ready (rs := [2]) (by kernel_rfl) (by simp) ?_
      refine AllReadyH.cons rfl (fun K hK => ?_) AllReadyH.nil
      go_simp
      refine (HM.out _).mono ?_
      rintro _ x6 ⟨rfl, hb⟩
      have K3 := K3.below hb K3.lt
      have KR := KR.below hb KR.lt
      have KN := KN.below hb KN.lt
      have HB : Hid (Below w.heap.size w x6) := HB.out.trans (hb.mono HB.out.size)
      clear hb hHeld
      go_wp2_with fail
      refine hK.out _ _ (K3) (fun hHeld => ?_)
      clear hK K
      try simp only [Act.put, List.setIfInBounds_toArray, List.set_cons_zero, List.set_cons_succ]
      refine wpAnyH_take (i := 3) (oi := { dst := some 12, op := _, type := _, pos := _, after := _, guard := _ }) (v := .tuple #[.int .i64 ((R).d : Int), .agg (mk 2 (fcF (R).v)), .bool (R).ok]) rfl (by kernel_rfl) (by kernel_rfl) (by kernel_rfl) (fun _ _ _ h => h) (Or.inl ⟨by rfl, by intro w hSw; clear hSw; go_simp; (try with_reducible rfl)⟩) (by assumption) ?_
      try simp only [Act.put, List.setIfInBounds_toArray, List.set_cons_zero, List.set_cons_succ]
      refine wpAnyH_take (i := 4) (oi := { dst := some 16, op := _, type := _, pos := _, after := _, guard := _ }) (v := .int .i64 ((R).d : Int)) rfl (by kernel_rfl) (by kernel_rfl) (by kernel_rfl) (fun _ _ _ h => h) (Or.inl ⟨by rfl, by intro w hSw; clear hSw; go_simp; (try with_reducible rfl)⟩) (by assumption) ?_
      try simp only [Act.put, List.setIfInBounds_toArray, List.set_cons_zero, List.set_cons_succ]
      refine wpAnyH_take (i := 5) (oi := { dst := some 17, op := _, type := _, pos := _, after := _, guard := _ }) (v := .agg (mk 2 (fcF (R).v))) rfl (by kernel_rfl) (by kernel_rfl) (by kernel_rfl) (fun _ _ _ h => h) (Or.inl ⟨by rfl, by intro w hSw; clear hSw; go_simp; (try with_reducible rfl)⟩) (by assumption) ?_
      try simp only [Act.put, List.setIfInBounds_toArray, List.set_cons_zero, List.set_cons_succ]
      refine wpAnyH_take (i := 6) (oi := { dst := some 18, op := _, type := _, pos := _, after := _, guard := _ }) (v := .bool (R).ok) rfl (by kernel_rfl) (by kernel_rfl) (by kernel_rfl) (fun _ _ _ h => h) (Or.inl ⟨by rfl, by intro w hSw; clear hSw; go_simp; (try with_reducible rfl)⟩) (by assumption) ?_
      try simp only [Act.put, List.setIfInBounds_toArray, List.set_cons_zero, List.set_cons_succ]
      refine wpAnyH_take (i := 8) (oi := { dst := some 5, op := _, type := _, pos := _, after := _, guard := _ }) (v := .int .i64 ((R).d : Int)) rfl (by kernel_rfl) (by kernel_rfl) (by kernel_rfl) (fun _ _ _ h => h) (Or.inl ⟨by rfl, by intro w hSw; clear hSw; go_simp; (try with_reducible rfl)⟩) (by assumption) ?_
      try simp only [Act.put, List.setIfInBounds_toArray, List.set_cons_zero, List.set_cons_succ]
      refine wpAnyH_ready (rs := [9]) (by kernel_rfl) (by simp) ?_
      refine AllReadyH.cons rfl (fun K hK => ?_) AllReadyH.nil
      have st1 := run_store_blk (P := Try.prog) (g := fcF (R).v) KN
      have ms1 : (mk 2 (fcF (R).v)).size = 2 := mk_size 2 _
      go_simp
      clear st1 ms1 hHeld
      have K3 := K3.rowOther bN (mk 2 (fcF (R).v)) (by omega)
      have KR := KR.rowOther bN (mk 2 (fcF (R).v)) (by omega)
      have HB : Hid (Below w.heap.size w (x6.setRow bN (mk 2 (fcF (R).v)))) := below_setRow HB.out (by omega) _
      have KN := KN.row 2 (fcF (R).v)
      generalize x6.setRow bN (mk 2 (fcF (R).v)) = xs7 at *
      refine hK.out _ _ (K3) (fun hHeld => ?_)
      clear hK K
      try simp only [Act.put, List.setIfInBounds_toArray, List.set_cons_zero, List.set_cons_succ]
      refine wpAnyH_take (i := 10) (oi := { dst := some 7, op := _, type := _, pos := _, after := _, guard := _ }) (v := .bool (R).ok) rfl (by kernel_rfl) (by kernel_rfl) (by kernel_rfl) (fun _ _ _ h => h) (Or.inl ⟨by rfl, by intro w hSw; clear hSw; go_simp; (try with_reducible rfl)⟩) (by assumption) ?_
      try simp only [Act.put, List.setIfInBounds_toArray, List.set_cons_zero, List.set_cons_succ]
      refine wpAnyH_done (by kernel_rfl) ?_ _
      clear hHeld
      cases hok : R.ok with
      | true =>
        have HBR : Hid (brB f = ⟨R.d, R.v, true⟩) := by show _ = _; rw [HBE.out, if_pos hok, ← hok]
        rw [hok] at *
        clear hok
        go_wp2_with fail
        refine wp_region_held_drew (S := fun W => (∃ g, Blk W (w.heap.size + 1) 2 g 42) ∧ Blk W bN 2 (fcF R.v) 155) (by kernel_rfl) (⟨⟨_, KR.drew⟩, KN.drew⟩) (fun hHeld => ?_)
        have KR := KR.drew
        have KN := KN.drew
        have HB : Hid (Below w.heap.size w xs7.drew) := HB.out.drew
        generalize xs7.drew = z0 at *
        refine wpAnyH_take (i := 0) (oi := { dst := some 22, op := _, type := _, pos := _, after := _, guard := _ }) (v := .int .i64 (R.d : Int)) rfl (by kernel_rfl) (by kernel_rfl) (by kernel_rfl) (fun _ _ _ h => h) (Or.inl ⟨by rfl, by intro w hSw; clear hSw; go_simp; (try with_reducible rfl)⟩) (by assumption) ?_
        try simp only [Act.put, List.setIfInBounds_toArray, List.set_cons_zero, List.set_cons_succ]
        refine wpAnyH_take (i := 1) (oi := { dst := some 23, op := _, type := _, pos := _, after := _, guard := _ }) (v := .agg (mk 2 (fcF R.v))) rfl (by kernel_rfl) (by kernel_rfl) (by kernel_rfl) (fun _ _ _ h => h) (Or.inl ⟨by rfl, fun _ q => execF9 q.2 rfl rfl⟩) (by assumption) ?_
        try simp only [Act.put, List.setIfInBounds_toArray, List.set_cons_zero, List.set_cons_succ]
        refine wpAnyH_take (i := 2) (oi := { dst := some 2, op := _, type := _, pos := _, after := _, guard := _ }) (v := .int .i64 (R.d : Int)) rfl (by kernel_rfl) (by kernel_rfl) (by kernel_rfl) (fun _ _ _ h => h) (Or.inl ⟨by rfl, by intro w hSw; clear hSw; go_simp; (try with_reducible rfl)⟩) (by assumption) ?_
        try simp only [Act.put, List.setIfInBounds_toArray, List.set_cons_zero, List.set_cons_succ]
        refine wpAnyH_ready (rs := [3]) (by kernel_rfl) (by simp) ?_
        refine AllReadyH.cons rfl (fun K hK => ?_) AllReadyH.nil
        have st1 := run_store_blk (P := Try.prog) (g := fcF R.v) KR
        have ms1 : (mk 2 (fcF R.v)).size = 2 := mk_size 2 _
        go_simp
        clear st1 ms1 hHeld
        have hne : w.heap.size + 1 ≠ bN := by omega
        have KN := KN.rowOther (w.heap.size + 1) (mk 2 (fcF R.v)) (by omega)
        have HB : Hid (Below w.heap.size w (z0.setRow (w.heap.size + 1) (mk 2 (fcF R.v)))) := below_setRow HB.out (by omega) _
        have KR := KR.row 2 (fcF R.v)
        generalize z0.setRow (w.heap.size + 1) (mk 2 (fcF R.v)) = z1 at *
        refine hK.out _ _ ⟨⟨_, KR⟩, KN⟩ (fun hHeld => ?_)
        clear hK K
        try simp only [Act.put, List.setIfInBounds_toArray, List.set_cons_zero, List.set_cons_succ]
        refine wpAnyH_take (i := 4) (oi := { dst := some 4, op := _, type := _, pos := _, after := _, guard := _ }) (v := .bool true) rfl (by kernel_rfl) (by kernel_rfl) (by kernel_rfl) (fun _ _ _ h => h) (Or.inl ⟨by rfl, by intro w hSw; clear hSw; go_simp; (try with_reducible rfl)⟩) (by assumption) ?_
        try simp only [Act.put, List.setIfInBounds_toArray, List.set_cons_zero, List.set_cons_succ]
        refine wpAnyH_done (by kernel_rfl) ?_ _
        clear hHeld
        go_wp2_with fail
        try simp only [Exit.inBlock, Exit.then]
        exact ret_tct Try.underlying42 rfl sizeC rfl rfl rfl KR ⟨by rw [HBR.out] <;> rfl, HB.out⟩
      | false =>
        have HBR : Hid (brB f = bmN) := by show _ = _; rw [HBE.out, hok]; rfl
        clear hok
        go_wp2_with (first | ((with_reducible show wpList _ _ _ (Oper.mk _ (Op.store 42 _ _) _ _ _ _ :: _) _ _); refine storeC (KR) rfl rfl rfl rfl ?_))
        try simp only [Exit.inBlock, Exit.then]
        exact ret_tct Try.underlying42 rfl sizeC rfl rfl rfl (KR.row 2 _) ⟨by rw [HBR.out] <;> rfl, below_setRow HB.out (by omega) _⟩
    refine AllReadyH.cons rfl (fun K hK => ?_) AllReadyH.nil
    go_simp
    clear hHeld
    have hl0 := K3.lt
    have hl1 := KR.lt
    have KN := Blk.new xw 2 (fun _ => 0) 155
    have K3 := K3.alloc (.cells (mk 2 fun _ => 0) 155)
    have KR := KR.alloc (.cells (mk 2 fun _ => 0) 155)
    have HB : Hid (Below w.heap.size w (xw.alloc (.cells (mk 2 fun _ => 0) 155))) := HB.out.alloc HB.out.size _
    generalize xw.alloc (.cells (mk 2 fun _ => 0) 155) = xn8 at *
    generalize xw.heap.size = bN at *
    refine hK.out _ _ (K3) (fun hHeld => ?_)
    clear hK K
    try simp only [Act.put, List.setIfInBounds_toArray, List.set_cons_zero, List.set_cons_succ]
    refine wpAnyH_ready (rs := [1]) (by kernel_rfl) (by simp) ?_
    refine AllReadyH.cons rfl (fun K hK => ?_) AllReadyH.nil
    go_simp
    refine (endless_any _).mono ?_
    rintro _ x9 ⟨rfl, hb⟩
    have K3 := K3.below hb K3.lt
    have KR := KR.below hb KR.lt
    have KN := KN.below hb KN.lt
    have HB : Hid (Below w.heap.size w x9) := HB.out.trans (hb.mono HB.out.size)
    clear hb hHeld
    go_wp2_with fail
    refine hK.out _ _ (K3) (fun hHeld => ?_)
    clear hK K
    try simp only [Act.put, List.setIfInBounds_toArray, List.set_cons_zero, List.set_cons_succ]
    refine wpAnyH_ready (rs := [2]) (by kernel_rfl) (by simp) ?_
    refine AllReadyH.cons rfl (fun K hK => ?_) AllReadyH.nil
    go_simp
    refine (HM.out _).mono ?_
    rintro _ x10 ⟨rfl, hb⟩
    have K3 := K3.below hb K3.lt
    have KR := KR.below hb KR.lt
    have KN := KN.below hb KN.lt
    have HB : Hid (Below w.heap.size w x10) := HB.out.trans (hb.mono HB.out.size)
    clear hb hHeld
    go_wp2_with fail
    refine hK.out _ _ (K3) (fun hHeld => ?_)
    clear hK K
    try simp only [Act.put, List.setIfInBounds_toArray, List.set_cons_zero, List.set_cons_succ]
    refine wpAnyH_take (i := 3) (oi := { dst := some 12, op := _, type := _, pos := _, after := _, guard := _ }) (v := .tuple #[.int .i64 ((R).d : Int), .agg (mk 2 (fcF (R).v)), .bool (R).ok]) rfl (by kernel_rfl) (by kernel_rfl) (by kernel_rfl) (fun _ _ _ h => h) (Or.inl ⟨by rfl, by intro w hSw; clear hSw; go_simp; (try with_reducible rfl)⟩) (by assumption) ?_
    try simp only [Act.put, List.setIfInBounds_toArray, List.set_cons_zero, List.set_cons_succ]
    refine wpAnyH_take (i := 4) (oi := { dst := some 16, op := _, type := _, pos := _, after := _, guard := _ }) (v := .int .i64 ((R).d : Int)) rfl (by kernel_rfl) (by kernel_rfl) (by kernel_rfl) (fun _ _ _ h => h) (Or.inl ⟨by rfl, by intro w hSw; clear hSw; go_simp; (try with_reducible rfl)⟩) (by assumption) ?_
    try simp only [Act.put, List.setIfInBounds_toArray, List.set_cons_zero, List.set_cons_succ]
    refine wpAnyH_take (i := 5) (oi := { dst := some 17, op := _, type := _, pos := _, after := _, guard := _ }) (v := .agg (mk 2 (fcF (R).v))) rfl (by kernel_rfl) (by kernel_rfl) (by kernel_rfl) (fun _ _ _ h => h) (Or.inl ⟨by rfl, by intro w hSw; clear hSw; go_simp; (try with_reducible rfl)⟩) (by assumption) ?_
    try simp only [Act.put, List.setIfInBounds_toArray, List.set_cons_zero, List.set_cons_succ]
    refine wpAnyH_take (i := 6) (oi := { dst := some 18, op := _, type := _, pos := _, after := _, guard := _ }) (v := .bool (R).ok) rfl (by kernel_rfl) (by kernel_rfl) (by kernel_rfl) (fun _ _ _ h => h) (Or.inl ⟨by rfl, by intro w hSw; clear hSw; go_simp; (try with_reducible rfl)⟩) (by assumption) ?_
    try simp only [Act.put, List.setIfInBounds_toArray, List.set_cons_zero, List.set_cons_succ]
    refine wpAnyH_take (i := 8) (oi := { dst := some 5, op := _, type := _, pos := _, after := _, guard := _ }) (v := .int .i64 ((R).d : Int)) rfl (by kernel_rfl) (by kernel_rfl) (by kernel_rfl) (fun _ _ _ h => h) (Or.inl ⟨by rfl, by intro w hSw; clear hSw; go_simp; (try with_reducible rfl)⟩) (by assumption) ?_
    try simp only [Act.put, List.setIfInBounds_toArray, List.set_cons_zero, List.set_cons_succ]
    refine wpAnyH_ready (rs := [9]) (by kernel_rfl) (by simp) ?_
    refine AllReadyH.cons rfl (fun K hK => ?_) AllReadyH.nil
    have st1 := run_store_blk (P := Try.prog) (g := fcF (R).v) KN
    have ms1 : (mk 2 (fcF (R).v)).size = 2 := mk_size 2 _
    go_simp
    clear st1 ms1 hHeld
    have K3 := K3.rowOther bN (mk 2 (fcF (R).v)) (by omega)
    have KR := KR.rowOther bN (mk 2 (fcF (R).v)) (by omega)
    have HB : Hid (Below w.heap.size w (x10.setRow bN (mk 2 (fcF (R).v)))) := below_setRow HB.out (by omega) _
    have KN := KN.row 2 (fcF (R).v)
    generalize x10.setRow bN (mk 2 (fcF (R).v)) = xs11 at *
    refine hK.out _ _ (K3) (fun hHeld => ?_)
    clear hK K
    try simp only [Act.put, List.setIfInBounds_toArray, List.set_cons_zero, List.set_cons_succ]
    refine wpAnyH_take (i := 10) (oi := { dst := some 7, op := _, type := _, pos := _, after := _, guard := _ }) (v := .bool (R).ok) rfl (by kernel_rfl) (by kernel_rfl) (by kernel_rfl) (fun _ _ _ h => h) (Or.inl ⟨by rfl, by intro w hSw; clear hSw; go_simp; (try with_reducible rfl)⟩) (by assumption) ?_
    try simp only [Act.put, List.setIfInBounds_toArray, List.set_cons_zero, List.set_cons_succ]
    refine wpAnyH_done (by kernel_rfl) ?_ _
    clear hHeld
    cases hok : R.ok with
    | true =>
      have HBR : Hid (brB f = ⟨R.d, R.v, true⟩) := by show _ = _; rw [HBE.out, if_pos hok, ← hok]
      rw [hok] at *
      clear hok
      go_wp2_with fail
      refine wp_region_held_drew (S := fun W => (∃ g, Blk W (w.heap.size + 1) 2 g 42) ∧ Blk W bN 2 (fcF R.v) 155) (by kernel_rfl) (⟨⟨_, KR.drew⟩, KN.drew⟩) (fun hHeld => ?_)
      have KR := KR.drew
      have KN := KN.drew
      have HB : Hid (Below w.heap.size w xs11.drew) := HB.out.drew
      generalize xs11.drew = z0 at *
      refine wpAnyH_take (i := 0) (oi := { dst := some 22, op := _, type := _, pos := _, after := _, guard := _ }) (v := .int .i64 (R.d : Int)) rfl (by kernel_rfl) (by kernel_rfl) (by kernel_rfl) (fun _ _ _ h => h) (Or.inl ⟨by rfl, by intro w hSw; clear hSw; go_simp; (try with_reducible rfl)⟩) (by assumption) ?_
      try simp only [Act.put, List.setIfInBounds_toArray, List.set_cons_zero, List.set_cons_succ]
      refine wpAnyH_take (i := 1) (oi := { dst := some 23, op := _, type := _, pos := _, after := _, guard := _ }) (v := .agg (mk 2 (fcF R.v))) rfl (by kernel_rfl) (by kernel_rfl) (by kernel_rfl) (fun _ _ _ h => h) (Or.inl ⟨by rfl, fun _ q => execF9 q.2 rfl rfl⟩) (by assumption) ?_
      try simp only [Act.put, List.setIfInBounds_toArray, List.set_cons_zero, List.set_cons_succ]
      refine wpAnyH_take (i := 2) (oi := { dst := some 2, op := _, type := _, pos := _, after := _, guard := _ }) (v := .int .i64 (R.d : Int)) rfl (by kernel_rfl) (by kernel_rfl) (by kernel_rfl) (fun _ _ _ h => h) (Or.inl ⟨by rfl, by intro w hSw; clear hSw; go_simp; (try with_reducible rfl)⟩) (by assumption) ?_
      try simp only [Act.put, List.setIfInBounds_toArray, List.set_cons_zero, List.set_cons_succ]
      refine wpAnyH_ready (rs := [3]) (by kernel_rfl) (by simp) ?_
      refine AllReadyH.cons rfl (fun K hK => ?_) AllReadyH.nil
      have st1 := run_store_blk (P := Try.prog) (g := fcF R.v) KR
      have ms1 : (mk 2 (fcF R.v)).size = 2 := mk_size 2 _
      go_simp
      clear st1 ms1 hHeld
      have hne : w.heap.size + 1 ≠ bN := by omega
      have KN := KN.rowOther (w.heap.size + 1) (mk 2 (fcF R.v)) (by omega)
      have HB : Hid (Below w.heap.size w (z0.setRow (w.heap.size + 1) (mk 2 (fcF R.v)))) := below_setRow HB.out (by omega) _
      have KR := KR.row 2 (fcF R.v)
      generalize z0.setRow (w.heap.size + 1) (mk 2 (fcF R.v)) = z1 at *
      refine hK.out _ _ ⟨⟨_, KR⟩, KN⟩ (fun hHeld => ?_)
      clear hK K
      try simp only [Act.put, List.setIfInBounds_toArray, List.set_cons_zero, List.set_cons_succ]
      refine wpAnyH_take (i := 4) (oi := { dst := some 4, op := _, type := _, pos := _, after := _, guard := _ }) (v := .bool true) rfl (by kernel_rfl) (by kernel_rfl) (by kernel_rfl) (fun _ _ _ h => h) (Or.inl ⟨by rfl, by intro w hSw; clear hSw; go_simp; (try with_reducible rfl)⟩) (by assumption) ?_
      try simp only [Act.put, List.setIfInBounds_toArray, List.set_cons_zero, List.set_cons_succ]
      refine wpAnyH_done (by kernel_rfl) ?_ _
      clear hHeld
      go_wp2_with fail
      try simp only [Exit.inBlock, Exit.then]
      exact ret_tct Try.underlying42 rfl sizeC rfl rfl rfl KR ⟨by rw [HBR.out] <;> rfl, HB.out⟩
    | false =>
      have HBR : Hid (brB f = bmN) := by show _ = _; rw [HBE.out, hok]; rfl
      clear hok
      go_wp2_with (first | ((with_reducible show wpList _ _ _ (Oper.mk _ (Op.store 42 _ _) _ _ _ _ :: _) _ _); refine storeC (KR) rfl rfl rfl rfl ?_))
      try simp only [Exit.inBlock, Exit.then]
      exact ret_tct Try.underlying42 rfl sizeC rfl rfl rfl (KR.row 2 _) ⟨by rw [HBR.out] <;> rfl, below_setRow HB.out (by omega) _⟩
  · have e0 : brB f = bmN := if_neg fun h => hV h.1
    rw [e0]
    show Calls _ _ _ _ fun e w' => e = .returned (.tuple #[.int .i64 0, .agg (mk 2 fun _ => 0), .bool false]) ∧ _
    have HV := Lib.hid hV
    clear hV e0
    go_enter Try.func82, Try.ntmps82
    go_wp2_with ((with_reducible show wpList _ _ _ (Oper.mk _ (Op.load 47 _) _ _ _ _ :: _) _ _); refine loadB (K3) rfl rfl rfl ?_)
    refine (implBoard_no _ _ HV.out).mono ?_
    rintro _ w1 ⟨rfl, hb⟩
    have K3 := K3.below hb K3.lt
    have KR := KR.below hb KR.lt
    have HB : Hid (Below w.heap.size w w1) := HB.out.trans (hb.mono HB.out.size)
    clear hb
    go_wp2_with ((with_reducible show wpList _ _ _ (Oper.mk _ (Op.store 42 _ _) _ _ _ _ :: _) _ _); refine storeC (KR) rfl rfl rfl rfl ?_)
    try simp only [Exit.inBlock, Exit.then]
    exact ret_tct Try.underlying42 rfl sizeC rfl rfl rfl (KR.row 2 _) ⟨rfl, below_setRow HB.out (by omega) _⟩
set_option maxHeartbeats 4000000 in
set_option maxRecDepth 20000 in
theorem specBestRoom_any (f : Nat → Int) (w : World) :
    Calls Try.prog 83 #[.agg (mk 16 f)] w fun e w' => e = .returned (.tuple #[.int .i64 ((brB f).d : Int), .agg (mk 2 (fcF (brB f).v)), .bool (brB f).ok]) ∧ Below w.heap.size w w' := by
  have z2 := zero2
  have z16 := zero16
  have z18 := zero18
  have K3 := (Blk.new w 16 f 47).alloc (.cells (mk 2 fun _ => 0) 42)
  have KR := Blk.new (w.alloc (.cells (mk 16 f) 47)) 2 (fun _ => 0) 42
  have HB := Lib.hid (((Below.refl w.heap.size w).alloc (Nat.le_refl _) (.cells (mk 16 f) 47)).alloc (by simp) (.cells (mk 2 fun _ => 0) 42))
  simp only [World.size_alloc] at KR
  by_cases hV : Vd f
  · have HV := Lib.hid hV
    have HM := Lib.hid (fun w => l2Moves_any f w hV)
    have hle := movL_le f 4
    have HMA := Lib.hid (fun i (hi : i < (movL f 4).length) => mov_at hi)
    have HCC := Lib.hid (fun d w (hd : d < 4) (hm : isMv f d = true) => show Calls Try.prog 194 #[.agg (mk 16 f), .int .i64 (d : Int)] w fun e w' => e = .returned (.agg (mk 2 (fcF (brV f d)))) ∧ Below w.heap.size w w' from l9MeanRoom_any f d w hV hd hm)
    have HBD := Lib.hid (fun d (hm : isMv f d = true) => br_ok hV hm)
    have HSB0 : Hid (∀ i, (bmL (brV f) ((movL f 4).take i)).ok = true → 0 < (bmL (brV f) ((movL f 4).take i)).v.2 ∧ (bmL (brV f) ((movL f 4).take i)).v.1 ≤ 160000 ∧ (bmL (brV f) ((movL f 4).take i)).v.2 ≤ 160000) := fun i => bmL_all (f := f) (V := brV f) (P := fun S => S.ok = true → 0 < S.v.2 ∧ S.v.1 ≤ 160000 ∧ S.v.2 ≤ 160000) (fun h => by cases h) (fun d hd hm _ => by obtain ⟨a, b, c⟩ := br_ok hV hm; exact ⟨a.pos, b, by show (brV f d).2 ≤ _; omega⟩) i
    have HBE : Hid (∀ S : Bm, S = bmL (brV f) (movL f 4) → brB f = ⟨S.d, mrF S, decide ((((movL f 4).length : Nat) : Int) > 0)⟩) := by
      intro S hS
      rw [bmL_mov] at hS
      have hk := bm_ok_iff f (brV f) 4
      rw [← hS] at hk
      unfold brB
      rw [← hS]
      by_cases h : (movL f 4).length = 0
      · have e : bmF f (brV f) 4 = bm0 := by rw [← bmL_mov, List.eq_nil_of_length_eq_zero h]; rfl
        rw [hS, e, h, if_neg (by rintro ⟨_, q⟩; cases q)]; rfl
      · have hok : S.ok = true := by rw [hk]; simp [h]
        rw [if_pos ⟨hV, hok⟩, mr_yes hok]
        have e : decide ((((movL f 4).length : Nat) : Int) > 0) = true := decide_eq_true (by omega)
        rw [e, ← hok]
    clear hV
    generalize brV f = V at *
    go_enter Try.func83, Try.ntmps83
    go_wp2_with ((with_reducible show wpList _ _ _ (Oper.mk _ (Op.load 47 _) _ _ _ _ :: _) _ _); refine loadB (K3) rfl rfl rfl ?_)
    refine (l2Board_yes _ _ HV.out).mono ?_
    rintro _ w1 ⟨rfl, hb⟩
    have K3 := K3.below hb K3.lt
    have KR := KR.below hb KR.lt
    have HB : Hid (Below w.heap.size w w1) := HB.out.trans (hb.mono HB.out.size)
    clear hb
    go_wp2_with ((with_reducible show wpList _ _ _ (Oper.mk _ (Op.load 47 _) _ _ _ _ :: _) _ _); refine loadB (K3) rfl rfl rfl ?_)
    refine (HM.out _).mono ?_
    rintro _ w2 ⟨gm, cm, rfl, hmo, hb⟩
    have CM := mov_mem5 hmo
    have hq : w.heap.size + 1 < w2.heap.size := (KR.below hb KR.lt).lt
    have K3 := (K3.below hb K3.lt).alloc (.cells (mk 2 (two 0 0)) 42)
    have KR := (KR.below hb KR.lt).alloc (.cells (mk 2 (two 0 0)) 42)
    have K7 : Blk (w2.alloc (.cells (mk 2 (two 0 0)) 42)) w2.heap.size 2 (fcF (mrF bm0)) 42 := Blk.new w2 2 (two 0 0) 42
    have HB : Hid (Below w.heap.size w w2) := HB.out.trans (hb.mono HB.out.size)
    have HB : Hid (Below w.heap.size w (w2.alloc (.cells (mk 2 (two 0 0)) 42))) := HB.out.alloc HB.out.size _
    have CM := CM.alloc (.cells (mk 2 (two 0 0)) 42)
    have hgm : gm < w2.heap.size := (hmo.lt gm rfl).2
    clear hb hmo
    generalize hMM : movL f 4 = M at *
    generalize hLL : M.length = L at *
    have HTL : Hid (M.take L = M) := by show _ = _; rw [← hLL]; exact List.take_length
    go_wp2_with (first | ((with_reducible show wpList _ _ _ (Oper.mk _ (Op.store 42 _ _) _ _ _ _ :: _) _ _); refine storeC (g := two _ _) (Blk.new _ _ _ _) rfl rfl rfl rfl ?_; rw [World.setRow_alloc_new]))
    generalize w2.alloc (.cells (mk 2 (two 0 0)) 42) = w3 at *
    generalize w2.heap.size = bq at *
    go_loopg [6, 8] L (fun gk sB sI wr => ∃ (k : Nat) (S : Bm), k + gk = L ∧ sI = .int .i64 k ∧ Hid (S = bmL V (M.take k)) ∧ sB = .int .i64 (S.d : Int) ∧ CAt wr gm L (fun i => M.getD i 0) ∧ Blk wr w.heap.size 16 f 47 ∧ Blk wr (w.heap.size + 1) 2 (fun _ => 0) 42 ∧ Blk wr bq 2 (fcF (mrF S)) 42 ∧ Hid (Below w.heap.size w wr))
    case atStart => exact ⟨0, bm0, by omega, rfl, rfl, rfl, CM, K3, KR, K7, HB⟩
    case round =>
      obtain ⟨k, S, hkg, rfl, HS, rfl, CM, K3, KR, K7, HB⟩ := hrel
      cases gk with
      | zero =>
        have hk : ¬ ((k : Int) < (L : Int)) := by omega
        obtain rfl : k = L := by omega
        clear hkg
        have HS2 := HS.out
        rw [HTL.out] at HS2
        have HBR := Lib.hid (HBE.out S HS2)
        clear HS2
        go_wp2_with fail
        refine wp_region_held_drew (S := fun W => (∃ g, Blk W (w.heap.size + 1) 2 g 42) ∧ Blk W bq 2 (fcF (mrF S)) 42) (by kernel_rfl) (⟨⟨_, KR.drew⟩, K7.drew⟩) (fun hHeld => ?_)
        have KR := KR.drew
        have K7 := K7.drew
        have HB : Hid (Below w.heap.size w wr.drew) := HB.out.drew
        generalize wr.drew = z0 at *
        refine wpAnyH_take (i := 0) (oi := { dst := some 42, op := _, type := _, pos := _, after := _, guard := _ }) (v := .int .i64 (S.d : Int)) rfl (by kernel_rfl) (by kernel_rfl) (by kernel_rfl) (fun _ _ _ h => h) (Or.inl ⟨by rfl, by intro w hSw; clear hSw; go_simp; (try with_reducible rfl)⟩) (by assumption) ?_
        try simp only [Act.put, List.setIfInBounds_toArray, List.set_cons_zero, List.set_cons_succ]
        refine wpAnyH_take (i := 1) (oi := { dst := some 43, op := _, type := _, pos := _, after := _, guard := _ }) (v := .agg (mk 2 (fcF (mrF S)))) rfl (by kernel_rfl) (by kernel_rfl) (by kernel_rfl) (fun _ _ _ h => h) (Or.inl ⟨by rfl, fun _ q => execC5 q.2 rfl rfl⟩) (by assumption) ?_
        try simp only [Act.put, List.setIfInBounds_toArray, List.set_cons_zero, List.set_cons_succ]
        refine wpAnyH_take (i := 2) (oi := { dst := some 44, op := _, type := _, pos := _, after := _, guard := _ }) (v := .slice (some ⟨gm, 0, none⟩) k cm) rfl (by kernel_rfl) (by kernel_rfl) (by kernel_rfl) (fun _ _ _ h => h) (Or.inl ⟨by rfl, by intro w hSw; clear hSw; go_simp; (try with_reducible rfl)⟩) (by assumption) ?_
        try simp only [Act.put, List.setIfInBounds_toArray, List.set_cons_zero, List.set_cons_succ]
        refine wpAnyH_take (i := 3) (oi := { dst := some 45, op := _, type := _, pos := _, after := _, guard := _ }) (v := .int .i64 (k : Int)) rfl (by kernel_rfl) (by kernel_rfl) (by kernel_rfl) (fun _ _ _ h => h) (Or.inl ⟨by rfl, by intro w hSw; clear hSw; go_simp; (try with_reducible rfl)⟩) (by assumption) ?_
        try simp only [Act.put, List.setIfInBounds_toArray, List.set_cons_zero, List.set_cons_succ]
        refine wpAnyH_take (i := 4) (oi := { dst := some 46, op := _, type := _, pos := _, after := _, guard := _ }) (v := .bool (decide ((k : Int) > 0))) rfl (by kernel_rfl) (by kernel_rfl) (by kernel_rfl) (fun _ _ _ h => h) (Or.inl ⟨by rfl, by intro W q; clear q; go_simp; (try simp)⟩) (by assumption) ?_
        try simp only [Act.put, List.setIfInBounds_toArray, List.set_cons_zero, List.set_cons_succ]
        refine wpAnyH_take (i := 5) (oi := { dst := some 2, op := _, type := _, pos := _, after := _, guard := _ }) (v := .int .i64 (S.d : Int)) rfl (by kernel_rfl) (by kernel_rfl) (by kernel_rfl) (fun _ _ _ h => h) (Or.inl ⟨by rfl, by intro w hSw; clear hSw; go_simp; (try with_reducible rfl)⟩) (by assumption) ?_
        try simp only [Act.put, List.setIfInBounds_toArray, List.set_cons_zero, List.set_cons_succ]
        refine wpAnyH_ready (rs := [6]) (by kernel_rfl) (by simp) ?_
        refine AllReadyH.cons rfl (fun K hK => ?_) AllReadyH.nil
        have st1 := run_store_blk (P := Try.prog) (g := fcF (mrF S)) KR
        have ms1 : (mk 2 (fcF (mrF S))).size = 2 := mk_size 2 _
        go_simp
        clear st1 ms1 hHeld
        have K7 := K7.rowOther (w.heap.size + 1) (mk 2 (fcF (mrF S))) (by omega)
        have HB : Hid (Below w.heap.size w (z0.setRow (w.heap.size + 1) (mk 2 (fcF (mrF S))))) := below_setRow HB.out (by omega) _
        have KR := KR.row 2 (fcF (mrF S))
        generalize z0.setRow (w.heap.size + 1) (mk 2 (fcF (mrF S))) = z1 at *
        refine hK.out _ _ ⟨⟨_, KR⟩, K7⟩ (fun hHeld => ?_)
        clear hK K
        try simp only [Act.put, List.setIfInBounds_toArray, List.set_cons_zero, List.set_cons_succ]
        refine wpAnyH_take (i := 7) (oi := { dst := some 4, op := _, type := _, pos := _, after := _, guard := _ }) (v := .bool (decide ((k : Int) > 0))) rfl (by kernel_rfl) (by kernel_rfl) (by kernel_rfl) (fun _ _ _ h => h) (Or.inl ⟨by rfl, by intro w hSw; clear hSw; go_simp; (try with_reducible rfl)⟩) (by assumption) ?_
        try simp only [Act.put, List.setIfInBounds_toArray, List.set_cons_zero, List.set_cons_succ]
        refine wpAnyH_done (by kernel_rfl) ?_ _
        clear hHeld
        go_wp2_with fail
        try simp only [Exit.inBlock, Exit.then]
        exact ret_tct Try.underlying42 rfl sizeC rfl rfl rfl KR ⟨by rw [HBR.out] <;> rfl, HB.out⟩
      | succ gk2 =>
        have hk8 : (k : Int) < (L : Int) := by omega
        have hk9 : k < L := by omega
        have hk0 : (0 : Int) ≤ (k : Int) := by omega
        obtain ⟨d, hd4, hgk, hdm, hgd, htk⟩ := HMA.out k hk9
        have HGD : Hid (M.getD k 0 = (d : Int)) := hgd
        have HTK : Hid (M.take (k + 1) = M.take k ++ [(d : Int)]) := htk
        have HCK := Lib.hid (fun w => HCC.out d w hd4 hdm)
        have HSB : Hid (S.ok = true → 0 < S.v.2 ∧ S.v.1 ≤ 160000 ∧ S.v.2 ≤ 160000) := by rw [HS.out]; exact HSB0.out k
        obtain ⟨_, hb1, hb2⟩ := HBD.out d hdm
        clear hgd hgk htk
        go_wp2_with fail
        refine wp_region_held_drew (S := fun W => Blk W w.heap.size 16 f 47 ∧ CAt W gm L (fun i => M.getD i 0)) (by kernel_rfl) (⟨K3.drew, CM.drew⟩) (fun hHeld => ?_)
        have K3 := K3.drew
        have KR := KR.drew
        have K7 := K7.drew
        have CM : CAt wr.drew gm L (fun i => M.getD i 0) := CM.drew
        have HB : Hid (Below w.heap.size w wr.drew) := HB.out.drew
        clear hHeld
        generalize wr.drew = x0 at *
        have hHeld : Blk x0 w.heap.size 16 f 47 ∧ CAt x0 gm L (fun i => M.getD i 0) := ⟨K3, CM⟩
        refine wpAnyH_take (i := 0) (oi := { dst := some 23, op := _, type := _, pos := _, after := _, guard := _ }) (v := .agg (mk 16 f)) rfl (by kernel_rfl) (by kernel_rfl) (by kernel_rfl) (fun _ _ _ h => h) (Or.inl ⟨by rfl, fun _ q => execBr q.1 rfl rfl⟩) (by assumption) ?_
        try simp only [Act.put, List.setIfInBounds_toArray, List.set_cons_zero, List.set_cons_succ]
        refine wpAnyH_take (i := 1) (oi := { dst := some 24, op := _, type := _, pos := _, after := _, guard := _ }) (v := .slice (some ⟨gm, 0, none⟩) L cm) rfl (by kernel_rfl) (by kernel_rfl) (by kernel_rfl) (fun _ _ _ h => h) (Or.inl ⟨by rfl, by intro w hSw; clear hSw; go_simp; (try with_reducible rfl)⟩) (by assumption) ?_
        try simp only [Act.put, List.setIfInBounds_toArray, List.set_cons_zero, List.set_cons_succ]
        refine wpAnyH_take (i := 2) (oi := { dst := some 25, op := _, type := _, pos := _, after := _, guard := _ }) (v := .int .i64 (k : Int)) rfl (by kernel_rfl) (by kernel_rfl) (by kernel_rfl) (fun _ _ _ h => h) (Or.inl ⟨by rfl, by intro w hSw; clear hSw; go_simp; (try with_reducible rfl)⟩) (by assumption) ?_
        try simp only [Act.put, List.setIfInBounds_toArray, List.set_cons_zero, List.set_cons_succ]
        refine wpAnyH_take (i := 3) (oi := { dst := some 26, op := _, type := _, pos := _, after := _, guard := _ }) (v := .pointer (some ⟨gm, k, none⟩)) rfl (by kernel_rfl) (by kernel_rfl) (by kernel_rfl) (fun _ _ _ h => h) (Or.inl ⟨by rfl, by intro w hSw; clear hSw; go_simp; (try with_reducible rfl)⟩) (by assumption) ?_
        try simp only [Act.put, List.setIfInBounds_toArray, List.set_cons_zero, List.set_cons_succ]
        refine wpAnyH_take (i := 4) (oi := { dst := some 27, op := _, type := _, pos := _, after := _, guard := _ }) (v := .int .i64 (d : Int)) rfl (by kernel_rfl) (by kernel_rfl) (by kernel_rfl) (fun _ _ _ h => h) (Or.inl ⟨by rfl, by intro W q; have c0 : W.cell? ⟨gm, k, none⟩ = some (.int .i64 (M.getD k 0)) := q.2.2 k hk9; rw [HGD.out] at c0; clear q; go_simp⟩) (by assumption) ?_
        try simp only [Act.put, List.setIfInBounds_toArray, List.set_cons_zero, List.set_cons_succ]
        refine wpAnyH_ready (rs := [5, 6]) (by kernel_rfl) (by simp) ?_
        refine AllReadyH.cons rfl (fun K hK => ?_) ?_
        · go_simp
          refine (HCK.out _).mono ?_
          rintro _ x1 ⟨rfl, hb⟩
          have K3 := K3.below hb K3.lt
          have KR := KR.below hb KR.lt
          have K7 := K7.below hb K7.lt
          have CM := CM.below hb
          have HB : Hid (Below w.heap.size w x1) := HB.out.trans (hb.mono HB.out.size)
          clear hb hHeld
          go_wp2_with fail
          refine hK.out _ _ (⟨K3, CM⟩) (fun hHeld => ?_)
          clear hK K
          try simp only [Act.put, List.setIfInBounds_toArray, List.set_cons_zero, List.set_cons_succ]
          refine wpAnyH_ready (rs := [6]) (by kernel_rfl) (by simp) ?_
          refine AllReadyH.cons rfl (fun K hK => ?_) AllReadyH.nil
          go_simp
          clear hHeld
          have hlR : w.heap.size + 1 < x1.heap.size := KR.lt
          have hl7 : bq < x1.heap.size := K7.lt
          have hl6 : gm < x1.heap.size := CM.1
          have KN := Blk.new x1 2 (fun _ => 0) 42
          have K3 := K3.alloc (.cells (mk 2 fun _ => 0) 42)
          have KR := KR.alloc (.cells (mk 2 fun _ => 0) 42)
          have K7 := K7.alloc (.cells (mk 2 fun _ => 0) 42)
          have CM := CM.alloc (.cells (mk 2 fun _ => 0) 42)
          have HB : Hid (Below w.heap.size w (x1.alloc (.cells (mk 2 fun _ => 0) 42))) := HB.out.alloc HB.out.size _
          generalize x1.alloc (.cells (mk 2 fun _ => 0) 42) = x2 at *
          generalize x1.heap.size = bN at *
          refine hK.out _ _ (⟨K3, CM⟩) (fun hHeld => ?_)
          clear hK K
          try simp only [Act.put, List.setIfInBounds_toArray, List.set_cons_zero, List.set_cons_succ]
          refine wpAnyH_ready (rs := [7]) (by kernel_rfl) (by simp) ?_
          refine AllReadyH.cons rfl (fun K hK => ?_) AllReadyH.nil
          have st1 := run_store_blk (P := Try.prog) (g := fcF (V d)) KN
          have ms1 : (mk 2 (fcF (V d))).size = 2 := mk_size 2 _
          go_simp
          clear st1 ms1 hHeld
          have hgr : x2.grownBy (x2.setRow bN (mk 2 (fcF (V d)))) (some bN) := grown_row KN _
          have CM := CM.grown hgr (fun e => by cases e; omega)
          have K3 := K3.rowOther bN (mk 2 (fcF (V d))) (by omega)
          have KR := KR.rowOther bN (mk 2 (fcF (V d))) (by omega)
          have K7 := K7.rowOther bN (mk 2 (fcF (V d))) (by omega)
          have HB : Hid (Below w.heap.size w (x2.setRow bN (mk 2 (fcF (V d))))) := below_setRow HB.out (by omega) _
          have KN := KN.row 2 (fcF (V d))
          clear hgr
          generalize x2.setRow bN (mk 2 (fcF (V d))) = x3 at *
          refine hK.out _ _ (⟨K3, CM⟩) (fun hHeld => ?_)
          clear hK K
          try simp only [Act.put, List.setIfInBounds_toArray, List.set_cons_zero, List.set_cons_succ]
          refine wpAnyH_done (by kernel_rfl) ?_ _
          clear hHeld
          have ckm : x3.cell? ⟨gm, k, none⟩ = some (.int .i64 (d : Int)) := by
            have c0 : x3.cell? ⟨gm, k, none⟩ = some (.int .i64 (M.getD k 0)) := CM.2 k hk9
            rw [HGD.out] at c0; exact c0
          cases hok : S.ok with
          | false =>
            have HN : Hid (bmL V (M.take (k + 1)) = ⟨d, V d, true⟩) := by
              show _ = _; rw [HTK.out, bmL_snoc, ← HS.out]; unfold bmS; rw [if_pos (.inl hok), Int.toNat_natCast]
            have c7 := K7.cell (i := 1) (by omega)
            rw [mr_no hok] at c7
            have e0 : fcF (0, 0) 1 = 0 := rfl
            rw [e0] at c7
            clear e0 hok
            go_wp2_with (first | ((with_reducible show wpList _ _ _ (Oper.mk _ (Op.load 42 _) _ _ _ _ :: _) _ _); refine loadC (KN) rfl rfl rfl ?_) | ((with_reducible show wpList _ _ _ (Oper.mk _ (Op.store 42 _ _) _ _ _ _ :: _) _ _); refine storeC (K7) rfl rfl rfl rfl ?_))
            have hgr : x3.grownBy (x3.setRow bq (mk 2 (fcF (V d)))) (some bq) := grown_row K7 _
            have CM := CM.grown hgr (fun e => by cases e; omega)
            have K3 := K3.rowOther bq (mk 2 (fcF (V d))) (by omega)
            have KR := KR.rowOther bq (mk 2 (fcF (V d))) (by omega)
            have HB : Hid (Below w.heap.size w (x3.setRow bq (mk 2 (fcF (V d))))) := below_setRow HB.out (by omega) _
            have K7 : Blk (x3.setRow bq (mk 2 (fcF (V d)))) bq 2 (fcF (mrF (Bm.mk d (V d) true))) 42 := K7.row 2 (fcF (V d))
            go_roundg gk2
            case rel => exact ⟨k + 1, ⟨d, V d, true⟩, by omega, by go_num, HN.out.symm, rfl, CM, K3, KR, K7, HB⟩
            case measure => omega
          | true =>
            have c7 := K7.cell (i := 1) (by omega)
            rw [mr_yes hok] at c7
            have e0 : fcF S.v 1 = (S.v.2 : Int) := rfl
            rw [e0] at c7
            obtain ⟨hv0, hv1, hv2⟩ := HSB.out hok
            have hvz : ((S.v.2 : Int) == 0) = false := by rw [beq_eq_false_iff_ne]; omega
            rw [mr_yes hok] at K7
            have HLS := Lib.hid (fun w => l9Less_any S.v (V d) w (fc_mul5 hv1 (by omega)) (fc_mul5 hb1 (by omega)))
            clear e0 hv1 hv2
            cases hlt : ltF S.v (V d) with
            | true =>
              have HN : Hid (bmL V (M.take (k + 1)) = ⟨d, V d, true⟩) := by
                show _ = _; rw [HTK.out, bmL_snoc, ← HS.out]; unfold bmS; rw [Int.toNat_natCast, if_pos (.inr hlt)]
              rw [hlt] at HLS
              clear hlt hok
              go_wp2_with (first | ((with_reducible show wpList _ _ _ (Oper.mk _ (Op.load 42 _) _ _ _ (some _) :: _) _ _); refine loadgC (K7) rfl rfl rfl ?_) | ((with_reducible show wpList _ _ _ (Oper.mk _ (Op.load 42 _) _ _ _ (some _) :: _) _ _); refine loadgC (KN) rfl rfl rfl ?_))
              refine (HLS.out _).mono ?_
              rintro _ y1 ⟨rfl, hb⟩
              have K3 := K3.below hb K3.lt
              have KR := KR.below hb KR.lt
              have K7 := K7.below hb K7.lt
              have KN := KN.below hb KN.lt
              have CM := CM.below hb
              have HB : Hid (Below w.heap.size w y1) := HB.out.trans (hb.mono HB.out.size)
              have ckm : y1.cell? ⟨gm, k, none⟩ = some (.int .i64 (d : Int)) := by
                have c0 : y1.cell? ⟨gm, k, none⟩ = some (.int .i64 (M.getD k 0)) := CM.2 k hk9
                rw [HGD.out] at c0; exact c0
              clear hb c7
              go_wp2_with (first | ((with_reducible show wpList _ _ _ (Oper.mk _ (Op.load 42 _) _ _ _ _ :: _) _ _); refine loadC (KN) rfl rfl rfl ?_) | ((with_reducible show wpList _ _ _ (Oper.mk _ (Op.store 42 _ _) _ _ _ _ :: _) _ _); refine storeC (K7) rfl rfl rfl rfl ?_))
              have hgr : y1.grownBy (y1.setRow bq (mk 2 (fcF (V d)))) (some bq) := grown_row K7 _
              have CM := CM.grown hgr (fun e => by cases e; omega)
              have K3 := K3.rowOther bq (mk 2 (fcF (V d))) (by omega)
              have KR := KR.rowOther bq (mk 2 (fcF (V d))) (by omega)
              have HB : Hid (Below w.heap.size w (y1.setRow bq (mk 2 (fcF (V d))))) := below_setRow HB.out (by omega) _
              have K7 : Blk (y1.setRow bq (mk 2 (fcF (V d)))) bq 2 (fcF (mrF (Bm.mk d (V d) true))) 42 := K7.row 2 (fcF (V d))
              go_roundg gk2
              case rel => exact ⟨k + 1, ⟨d, V d, true⟩, by omega, by go_num, HN.out.symm, rfl, CM, K3, KR, K7, HB⟩
              case measure => omega
            | false =>
              have HN : Hid (bmL V (M.take (k + 1)) = S) := by
                show _ = _; rw [HTK.out, bmL_snoc, ← HS.out]; unfold bmS; rw [Int.toNat_natCast, if_neg (by rw [hok, hlt]; simp)]
              rw [hlt] at HLS
              go_wp2_with (first | ((with_reducible show wpList _ _ _ (Oper.mk _ (Op.load 42 _) _ _ _ (some _) :: _) _ _); refine loadgC (K7) rfl rfl rfl ?_) | ((with_reducible show wpList _ _ _ (Oper.mk _ (Op.load 42 _) _ _ _ (some _) :: _) _ _); refine loadgC (KN) rfl rfl rfl ?_))
              refine (HLS.out _).mono ?_
              rintro _ y1 ⟨rfl, hb⟩
              have K3 := K3.below hb K3.lt
              have KR := KR.below hb KR.lt
              have K7 := K7.below hb K7.lt
              have CM := CM.below hb
              have HB : Hid (Below w.heap.size w y1) := HB.out.trans (hb.mono HB.out.size)
              rw [← mr_yes hok] at K7
              clear hb c7 hlt hok
              go_wp2_with fail
              go_roundg gk2
              case rel => exact ⟨k + 1, S, by omega, by go_num, HN.out.symm, rfl, CM, K3, KR, K7, HB⟩
              case measure => omega
        refine AllReadyH.cons rfl (fun K hK => ?_) AllReadyH.nil
        go_simp
        clear hHeld
        have hlR : w.heap.size + 1 < x0.heap.size := KR.lt
        have hl7 : bq < x0.heap.size := K7.lt
        have hl6 : gm < x0.heap.size := CM.1
        have KN := Blk.new x0 2 (fun _ => 0) 42
        have K3 := K3.alloc (.cells (mk 2 fun _ => 0) 42)
        have KR := KR.alloc (.cells (mk 2 fun _ => 0) 42)
        have K7 := K7.alloc (.cells (mk 2 fun _ => 0) 42)
        have CM := CM.alloc (.cells (mk 2 fun _ => 0) 42)
        have HB : Hid (Below w.heap.size w (x0.alloc (.cells (mk 2 fun _ => 0) 42))) := HB.out.alloc HB.out.size _
        generalize x0.alloc (.cells (mk 2 fun _ => 0) 42) = x1 at *
        generalize x0.heap.size = bN at *
        refine hK.out _ _ (⟨K3, CM⟩) (fun hHeld => ?_)
        clear hK K
        try simp only [Act.put, List.setIfInBounds_toArray, List.set_cons_zero, List.set_cons_succ]
        refine wpAnyH_ready (rs := [5]) (by kernel_rfl) (by simp) ?_
        refine AllReadyH.cons rfl (fun K hK => ?_) AllReadyH.nil
        go_simp
        refine (HCK.out _).mono ?_
        rintro _ x2 ⟨rfl, hb⟩
        have K3 := K3.below hb K3.lt
        have KR := KR.below hb KR.lt
        have K7 := K7.below hb K7.lt
        have KN := KN.below hb KN.lt
        have CM := CM.below hb
        have HB : Hid (Below w.heap.size w x2) := HB.out.trans (hb.mono HB.out.size)
        clear hb hHeld
        go_wp2_with fail
        refine hK.out _ _ (⟨K3, CM⟩) (fun hHeld => ?_)
        clear hK K
        try simp only [Act.put, List.setIfInBounds_toArray, List.set_cons_zero, List.set_cons_succ]
        refine wpAnyH_ready (rs := [7]) (by kernel_rfl) (by simp) ?_
        refine AllReadyH.cons rfl (fun K hK => ?_) AllReadyH.nil
        have st1 := run_store_blk (P := Try.prog) (g := fcF (V d)) KN
        have ms1 : (mk 2 (fcF (V d))).size = 2 := mk_size 2 _
        go_simp
        clear st1 ms1 hHeld
        have hgr : x2.grownBy (x2.setRow bN (mk 2 (fcF (V d)))) (some bN) := grown_row KN _
        have CM := CM.grown hgr (fun e => by cases e; omega)
        have K3 := K3.rowOther bN (mk 2 (fcF (V d))) (by omega)
        have KR := KR.rowOther bN (mk 2 (fcF (V d))) (by omega)
        have K7 := K7.rowOther bN (mk 2 (fcF (V d))) (by omega)
        have HB : Hid (Below w.heap.size w (x2.setRow bN (mk 2 (fcF (V d))))) := below_setRow HB.out (by omega) _
        have KN := KN.row 2 (fcF (V d))
        clear hgr
        generalize x2.setRow bN (mk 2 (fcF (V d))) = x3 at *
        refine hK.out _ _ (⟨K3, CM⟩) (fun hHeld => ?_)
        clear hK K
        try simp only [Act.put, List.setIfInBounds_toArray, List.set_cons_zero, List.set_cons_succ]
        refine wpAnyH_done (by kernel_rfl) ?_ _
        clear hHeld
        have ckm : x3.cell? ⟨gm, k, none⟩ = some (.int .i64 (d : Int)) := by
          have c0 : x3.cell? ⟨gm, k, none⟩ = some (.int .i64 (M.getD k 0)) := CM.2 k hk9
          rw [HGD.out] at c0; exact c0
        cases hok : S.ok with
        | false =>
          have HN : Hid (bmL V (M.take (k + 1)) = ⟨d, V d, true⟩) := by
            show _ = _; rw [HTK.out, bmL_snoc, ← HS.out]; unfold bmS; rw [if_pos (.inl hok), Int.toNat_natCast]
          have c7 := K7.cell (i := 1) (by omega)
          rw [mr_no hok] at c7
          have e0 : fcF (0, 0) 1 = 0 := rfl
          rw [e0] at c7
          clear e0 hok
          go_wp2_with (first | ((with_reducible show wpList _ _ _ (Oper.mk _ (Op.load 42 _) _ _ _ _ :: _) _ _); refine loadC (KN) rfl rfl rfl ?_) | ((with_reducible show wpList _ _ _ (Oper.mk _ (Op.store 42 _ _) _ _ _ _ :: _) _ _); refine storeC (K7) rfl rfl rfl rfl ?_))
          have hgr : x3.grownBy (x3.setRow bq (mk 2 (fcF (V d)))) (some bq) := grown_row K7 _
          have CM := CM.grown hgr (fun e => by cases e; omega)
          have K3 := K3.rowOther bq (mk 2 (fcF (V d))) (by omega)
          have KR := KR.rowOther bq (mk 2 (fcF (V d))) (by omega)
          have HB : Hid (Below w.heap.size w (x3.setRow bq (mk 2 (fcF (V d))))) := below_setRow HB.out (by omega) _
          have K7 : Blk (x3.setRow bq (mk 2 (fcF (V d)))) bq 2 (fcF (mrF (Bm.mk d (V d) true))) 42 := K7.row 2 (fcF (V d))
          go_roundg gk2
          case rel => exact ⟨k + 1, ⟨d, V d, true⟩, by omega, by go_num, HN.out.symm, rfl, CM, K3, KR, K7, HB⟩
          case measure => omega
        | true =>
          have c7 := K7.cell (i := 1) (by omega)
          rw [mr_yes hok] at c7
          have e0 : fcF S.v 1 = (S.v.2 : Int) := rfl
          rw [e0] at c7
          obtain ⟨hv0, hv1, hv2⟩ := HSB.out hok
          have hvz : ((S.v.2 : Int) == 0) = false := by rw [beq_eq_false_iff_ne]; omega
          rw [mr_yes hok] at K7
          have HLS := Lib.hid (fun w => l9Less_any S.v (V d) w (fc_mul5 hv1 (by omega)) (fc_mul5 hb1 (by omega)))
          clear e0 hv1 hv2
          cases hlt : ltF S.v (V d) with
          | true =>
            have HN : Hid (bmL V (M.take (k + 1)) = ⟨d, V d, true⟩) := by
              show _ = _; rw [HTK.out, bmL_snoc, ← HS.out]; unfold bmS; rw [Int.toNat_natCast, if_pos (.inr hlt)]
            rw [hlt] at HLS
            clear hlt hok
            go_wp2_with (first | ((with_reducible show wpList _ _ _ (Oper.mk _ (Op.load 42 _) _ _ _ (some _) :: _) _ _); refine loadgC (K7) rfl rfl rfl ?_) | ((with_reducible show wpList _ _ _ (Oper.mk _ (Op.load 42 _) _ _ _ (some _) :: _) _ _); refine loadgC (KN) rfl rfl rfl ?_))
            refine (HLS.out _).mono ?_
            rintro _ y1 ⟨rfl, hb⟩
            have K3 := K3.below hb K3.lt
            have KR := KR.below hb KR.lt
            have K7 := K7.below hb K7.lt
            have KN := KN.below hb KN.lt
            have CM := CM.below hb
            have HB : Hid (Below w.heap.size w y1) := HB.out.trans (hb.mono HB.out.size)
            have ckm : y1.cell? ⟨gm, k, none⟩ = some (.int .i64 (d : Int)) := by
              have c0 : y1.cell? ⟨gm, k, none⟩ = some (.int .i64 (M.getD k 0)) := CM.2 k hk9
              rw [HGD.out] at c0; exact c0
            clear hb c7
            go_wp2_with (first | ((with_reducible show wpList _ _ _ (Oper.mk _ (Op.load 42 _) _ _ _ _ :: _) _ _); refine loadC (KN) rfl rfl rfl ?_) | ((with_reducible show wpList _ _ _ (Oper.mk _ (Op.store 42 _ _) _ _ _ _ :: _) _ _); refine storeC (K7) rfl rfl rfl rfl ?_))
            have hgr : y1.grownBy (y1.setRow bq (mk 2 (fcF (V d)))) (some bq) := grown_row K7 _
            have CM := CM.grown hgr (fun e => by cases e; omega)
            have K3 := K3.rowOther bq (mk 2 (fcF (V d))) (by omega)
            have KR := KR.rowOther bq (mk 2 (fcF (V d))) (by omega)
            have HB : Hid (Below w.heap.size w (y1.setRow bq (mk 2 (fcF (V d))))) := below_setRow HB.out (by omega) _
            have K7 : Blk (y1.setRow bq (mk 2 (fcF (V d)))) bq 2 (fcF (mrF (Bm.mk d (V d) true))) 42 := K7.row 2 (fcF (V d))
            go_roundg gk2
            case rel => exact ⟨k + 1, ⟨d, V d, true⟩, by omega, by go_num, HN.out.symm, rfl, CM, K3, KR, K7, HB⟩
            case measure => omega
          | false =>
            have HN : Hid (bmL V (M.take (k + 1)) = S) := by
              show _ = _; rw [HTK.out, bmL_snoc, ← HS.out]; unfold bmS; rw [Int.toNat_natCast, if_neg (by rw [hok, hlt]; simp)]
            rw [hlt] at HLS
            go_wp2_with (first | ((with_reducible show wpList _ _ _ (Oper.mk _ (Op.load 42 _) _ _ _ (some _) :: _) _ _); refine loadgC (K7) rfl rfl rfl ?_) | ((with_reducible show wpList _ _ _ (Oper.mk _ (Op.load 42 _) _ _ _ (some _) :: _) _ _); refine loadgC (KN) rfl rfl rfl ?_))
            refine (HLS.out _).mono ?_
            rintro _ y1 ⟨rfl, hb⟩
            have K3 := K3.below hb K3.lt
            have KR := KR.below hb KR.lt
            have K7 := K7.below hb K7.lt
            have CM := CM.below hb
            have HB : Hid (Below w.heap.size w y1) := HB.out.trans (hb.mono HB.out.size)
            rw [← mr_yes hok] at K7
            clear hb c7 hlt hok
            go_wp2_with fail
            go_roundg gk2
            case rel => exact ⟨k + 1, S, by omega, by go_num, HN.out.symm, rfl, CM, K3, KR, K7, HB⟩
            case measure => omega
  · have e0 : brB f = bmN := if_neg fun h => hV h.1
    rw [e0]
    show Calls _ _ _ _ fun e w' => e = .returned (.tuple #[.int .i64 0, .agg (mk 2 fun _ => 0), .bool false]) ∧ _
    have HV := Lib.hid hV
    clear hV e0
    go_enter Try.func83, Try.ntmps83
    go_wp2_with ((with_reducible show wpList _ _ _ (Oper.mk _ (Op.load 47 _) _ _ _ _ :: _) _ _); refine loadB (K3) rfl rfl rfl ?_)
    refine (l2Board_no _ _ HV.out).mono ?_
    rintro _ w1 ⟨rfl, hb⟩
    have K3 := K3.below hb K3.lt
    have KR := KR.below hb KR.lt
    have HB : Hid (Below w.heap.size w w1) := HB.out.trans (hb.mono HB.out.size)
    clear hb
    go_wp2_with ((with_reducible show wpList _ _ _ (Oper.mk _ (Op.store 42 _ _) _ _ _ _ :: _) _ _); refine storeC (KR) rfl rfl rfl rfl ?_)
    try simp only [Exit.inBlock, Exit.then]
    exact ret_tct Try.underlying42 rfl sizeC rfl rfl rfl (KR.row 2 _) ⟨rfl, below_setRow HB.out (by omega) _⟩
end Go.Proofs.Ytblcojacmjbjcab
