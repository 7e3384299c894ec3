/-
  The contract of the reference's l9Score, by the number of moves.
-/
import Derived.Test.YtkocfpldgjfpeaaSpecPlan
namespace Go.Proofs.Ytkocfpldgjfpeaa
open Go.RowKit Plain
attribute [local go_sem] store_new
set_option linter.unusedVariables false
set_option linter.unusedSimpArgs false
def SSn (n : Nat) : Prop := ∀ (f : Nat → Int) (w : World), Vd f → Calls Try.prog 64 #[.agg (mk 16 f), .int .i64 (n : Int)] w fun e w' => e = .returned (.agg (mk 2 (fcF (ScF n f)))) ∧ Below w.heap.size w w'
set_option maxHeartbeats 1000000 in
theorem SSn_zero : SSn 0 := by
  intro f w hV
  show Calls _ _ _ _ fun e w' => e = .returned (.agg (mk 2 (fcF (0, 1)))) ∧ _
  have z2 := zero2
  have z16 := zero16
  have K2 := (Blk.new w 16 f 29).alloc (.cells (mk 2 fun _ => 0) 26)
  have K4 := Blk.new (w.alloc (.cells (mk 16 f) 29)) 2 (fun _ => 0) 26
  have HB := Lib.hid (((Below.refl w.heap.size w).alloc (Nat.le_refl _) (.cells (mk 16 f) 29)).alloc (by simp) (.cells (mk 2 fun _ => 0) 26))
  simp only [World.size_alloc] at K4
  have HM := Lib.hid (fun w => l2Moves_any f w hV)
  clear hV
  go_enter Try.func64, Try.ntmps64
  go_wp2_with ((with_reducible show wpList _ _ _ (Oper.mk _ (Op.load 29 _) _ _ _ _ :: _) _ _); refine loadB (K2) rfl rfl rfl ?_)
  refine (HM.out _).mono ?_
  rintro _ w2 ⟨gm, cm, rfl, hmo, hb⟩
  have hq : w.heap.size + 1 < w2.heap.size := (K4.below hb K4.lt).lt
  have K2 := (K2.below hb K2.lt).alloc (.cells (mk 2 (two 0 1)) 26)
  have K4 := (K4.below hb K4.lt).alloc (.cells (mk 2 (two 0 1)) 26)
  have K5 : Blk (w2.alloc (.cells (mk 2 (two 0 1)) 26)) w2.heap.size 2 (fcF (0, 1)) 26 := Blk.new w2 2 (two 0 1) 26
  have HB : Hid (Below w.heap.size w w2) := HB.out.trans (hb.mono HB.out.size)
  have HB : Hid (Below w.heap.size w (w2.alloc (.cells (mk 2 (two 0 1)) 26))) := HB.out.alloc HB.out.size _
  clear hb hmo
  go_wp2_with (first | ((with_reducible show wpList _ _ _ (Oper.mk _ (Op.store 26 _ _) _ _ _ _ :: _) _ _); refine storeC (g := two _ _) (Blk.new _ _ _ _) rfl rfl rfl rfl ?_; rw [World.setRow_alloc_new]))
  generalize (movL f 4).length = L at *
  go_loopg [7] 0 (fun gk sI wr => sI = .int .i64 0 ∧ Blk wr (w.heap.size + 1) 2 (fun _ => 0) 26 ∧ Blk wr w2.heap.size 2 (fcF (0, 1)) 26 ∧ Hid (Below w.heap.size w wr))
  case atStart => exact ⟨rfl, K4, K5, HB⟩
  case round =>
    obtain ⟨rfl, K4, K5, HB⟩ := hrel
    by_cases hL : 0 < L
    · have hLi : (0 : Int) < (L : Int) := by omega
      go_wp2_with (first | ((with_reducible show wpList _ _ _ (Oper.mk _ (Op.load 26 _) _ _ _ _ :: _) _ _); refine loadC (K5) rfl rfl rfl ?_) | ((with_reducible show wpList _ _ _ (Oper.mk _ (Op.store 26 _ _) _ _ _ _ :: _) _ _); refine storeC (K4) rfl rfl rfl rfl ?_))
      try simp only [Exit.inBlock, Exit.then]
      exact retcC (K4.row 2 _) rfl rfl rfl ⟨rfl, below_setRow HB.out (by omega) _⟩
    · have hLi : ¬ (0 : Int) < (L : Int) := by omega
      go_wp2_with (first | ((with_reducible show wpList _ _ _ (Oper.mk _ (Op.load 26 _) _ _ _ _ :: _) _ _); refine loadC (K5) rfl rfl rfl ?_) | ((with_reducible show wpList _ _ _ (Oper.mk _ (Op.store 26 _ _) _ _ _ _ :: _) _ _); refine storeC (K4) rfl rfl rfl rfl ?_))
      try simp only [Exit.inBlock, Exit.then]
      exact retcC (K4.row 2 _) rfl rfl rfl ⟨rfl, below_setRow HB.out (by omega) _⟩
set_option maxHeartbeats 4000000 in
set_option maxRecDepth 20000 in
theorem SSn_one : SSn 1 := by
  intro f w hV
  rw [scm_succ]
  show Calls Try.prog 64 #[.agg (mk 16 f), .int .i64 1] w _
  have z2 := zero2
  have z16 := zero16
  have K2 := (Blk.new w 16 f 29).alloc (.cells (mk 2 fun _ => 0) 26)
  have K4 := Blk.new (w.alloc (.cells (mk 16 f) 29)) 2 (fun _ => 0) 26
  have HB := Lib.hid (((Below.refl w.heap.size w).alloc (Nat.le_refl _) (.cells (mk 16 f) 29)).alloc (by simp) (.cells (mk 2 fun _ => 0) 26))
  simp only [World.size_alloc] at K4
  have HM := Lib.hid (fun w => l2Moves_any f w hV)
  have hle := movL_le f 4
  have HMA := Lib.hid (fun i (hi : i < (movL f 4).length) => mov_at hi)
  have HBD := Lib.hid (fun d (hm : isMv f d = true) => scm_ok (n := 0) (by omega) hV (d := d) hm)
  have HMX : Hid (∀ i, (mxL (scV 0 f) ((movL f 4).take i)).1 ≤ 1342177280 ∧ (mxL (scV 0 f) ((movL f 4).take i)).2 ≤ 160) := fun i => mxL_all (f := f) (V := scV 0 f) (P := fun p => p.1 ≤ 1342177280 ∧ p.2 ≤ 160) (by decide) (fun d hd hm => by have := scm_ok (n := 0) (by omega) hV (d := d) hm; omega) i
  have HEND : Hid (mxL (scV 0 f) (movL f 4) = (bmF f (scV 0 f) 4).v) := mxL_end fun d hd hm => (scm_ok (n := 0) (by omega) hV (d := d) hm).2.2.2.1
  have HSD := Lib.hid (fun (d : Nat) (hd : d < 4) w => l2Slide_nat f d w hV (by omega) (by omega))
  have HSB := Lib.hid (fun d => slideS_bd hV d 4 (Nat.le_refl _))
  have HONE := Lib.hid (fun d (hm : isMv f d = true) => scm_one hV (d := d) hm)
  rw [← HEND.out]
  clear HEND hV
  have HVE : Hid (∀ d, (scV 0 f) d = plusF ((slideS f d 4).toNat, 1) (mnF (ScF 0) (slideB f d))) := fun d => rfl
  generalize scV 0 f = V at *
  go_enter Try.func64, Try.ntmps64
  go_wp2_with ((with_reducible show wpList _ _ _ (Oper.mk _ (Op.load 29 _) _ _ _ _ :: _) _ _); refine loadB (K2) rfl rfl rfl ?_)
  refine (HM.out _).mono ?_
  rintro _ w2 ⟨gm, cm, rfl, hmo, hb⟩
  have CM := mov_mem hmo
  have hq : w.heap.size + 1 < w2.heap.size := (K4.below hb K4.lt).lt
  have K2 := (K2.below hb K2.lt).alloc (.cells (mk 2 (two 0 1)) 26)
  have K4 := (K4.below hb K4.lt).alloc (.cells (mk 2 (two 0 1)) 26)
  have K5 : Blk (w2.alloc (.cells (mk 2 (two 0 1)) 26)) w2.heap.size 2 (fcF (0, 1)) 26 := Blk.new w2 2 (two 0 1) 26
  have HB : Hid (Below w.heap.size w w2) := HB.out.trans (hb.mono HB.out.size)
  have HB : Hid (Below w.heap.size w (w2.alloc (.cells (mk 2 (two 0 1)) 26))) := HB.out.alloc HB.out.size _
  have CM := (CM.below (Below.refl _ _)).alloc (.cells (mk 2 (two 0 1)) 26)
  have hgm : gm < w2.heap.size := (hmo.lt gm rfl).2
  clear hb hmo
  generalize hMM : movL f 4 = M at *
  generalize hLL : M.length = L at *
  have HTL : Hid (M.take L = M) := by show _ = _; rw [← hLL]; exact List.take_length
  go_wp2_with (first | ((with_reducible show wpList _ _ _ (Oper.mk _ (Op.store 26 _ _) _ _ _ _ :: _) _ _); refine storeC (g := two _ _) (Blk.new _ _ _ _) rfl rfl rfl rfl ?_; rw [World.setRow_alloc_new]))
  have K5 : Blk (w2.alloc (.cells (mk 2 (two 0 1)) 26)) w2.heap.size 2 (fcF (mxL V (M.take 0))) 26 := K5
  generalize w2.alloc (.cells (mk 2 (two 0 1)) 26) = w3 at *
  generalize w2.heap.size = bq at *
  go_loopg [7] L (fun gq sI wr => ∃ (q : Nat), q + gq = L ∧ sI = .int .i64 q ∧ CAt wr gm L (fun i => M.getD i 0) ∧ Blk wr w.heap.size 16 f 29 ∧ Blk wr (w.heap.size + 1) 2 (fun _ => 0) 26 ∧ Blk wr bq 2 (fcF (mxL V (M.take q))) 26 ∧ Hid (Below w.heap.size w wr))
  case atStart => exact ⟨0, by omega, rfl, CM, K2, K4, K5, HB⟩
  case round =>
    obtain ⟨q, hqg, rfl, CM, K2, K4, K5, HB⟩ := hrel
    cases gk with
    | zero =>
      have hk : ¬ ((q : Int) < (L : Int)) := by omega
      obtain rfl : q = L := by omega
      clear hqg
      rw [HTL.out] at K5
      go_wp2_with (first | ((with_reducible show wpList _ _ _ (Oper.mk _ (Op.load 26 _) _ _ _ _ :: _) _ _); refine loadC (K5) rfl rfl rfl ?_) | ((with_reducible show wpList _ _ _ (Oper.mk _ (Op.store 26 _ _) _ _ _ _ :: _) _ _); refine storeC (K4) rfl rfl rfl rfl ?_))
      try simp only [Exit.inBlock, Exit.then]
      exact retcC (K4.row 2 _) rfl rfl rfl ⟨rfl, below_setRow HB.out (by omega) _⟩
    | succ gq2 =>
      have hq8 : (q : Int) < (L : Int) := by omega
      have hq9 : q < L := by omega
      have hq0 : (0 : Int) ≤ (q : Int) := by omega
      obtain ⟨d, hd4, _, hdm, hgd, htk⟩ := HMA.out q hq9
      have HGD : Hid (M.getD q 0 = (d : Int)) := hgd
      have HTK : Hid (M.take (q + 1) = M.take q ++ [(d : Int)]) := htk
      have HSL := Lib.hid (HSD.out d hd4)
      have hsb := HSB.out d
      obtain ⟨_, _, _, _, b1, b2⟩ := HBD.out d hdm
      obtain ⟨b3, b4⟩ := HMX.out q
      have HLS := Lib.hid (fun w => l9Less_any (mxL V (M.take q)) (V d) w (by have := fc_mul7 (a := (mxL V (M.take q)).1) (b := (V d).2) (by omega) (by omega); omega) (by have := fc_mul7 (a := (V d).1) (b := (mxL V (M.take q)).2) (by omega) (by omega); omega))
      have hvd := HONE.out d hdm
      have HVD : Hid (((slideS f d 4).toNat, 1) = V d) := hvd.symm
      clear hvd
      obtain ⟨sn, hsn⟩ : ∃ sn, sn = (slideS f d 4).toNat := ⟨_, rfl⟩
      have HSN : Hid (slideS f d 4 = (sn : Int)) := by show _ = _; omega
      rw [← hsn] at HVD
      clear hsn hsb b1 b2 b3 b4 hgd htk
      rw [HSN.out] at HSL
      generalize hSB : slideB f d = SB at *
      generalize hsc : (sn : Int) = sc at *
      have HSN : Hid (two sc 1 = fcF (sn, 1)) := by show _ = _; rw [← hsc]; rfl
      clear hsc
      go_wp2_with fail
      refine wp_region_held_drew (S := fun W => Blk W w.heap.size 16 f 29 ∧ CAt W gm L (fun i => M.getD i 0)) (by kernel_rfl) (⟨K2.drew, CM.drew⟩) (fun hHeld => ?_)
      have K2 := K2.drew
      have K4 := K4.drew
      have K5 := K5.drew
      have CM : CAt wr.drew gm L (fun i => M.getD i 0) := CM.drew
      have HB : Hid (Below w.heap.size w wr.drew) := HB.out.drew
      clear hHeld
      generalize wr.drew = x0 at *
      have hHeld : Blk x0 w.heap.size 16 f 29 ∧ CAt x0 gm L (fun i => M.getD i 0) := ⟨K2, CM⟩
      refine wpAnyH_take (i := 0) (oi := { dst := some 28, op := _, type := _, pos := _, after := _, guard := _ }) (v := .agg (mk 16 f)) rfl (by kernel_rfl) (by kernel_rfl) (by kernel_rfl) (fun _ _ _ h => h) (Or.inl ⟨by rfl, fun _ q => execB7 q.1 rfl rfl⟩) (by assumption) ?_
      try simp only [Act.put, List.setIfInBounds_toArray, List.set_cons_zero, List.set_cons_succ]
      refine wpAnyH_take (i := 1) (oi := { dst := some 29, op := _, type := _, pos := _, after := _, guard := _ }) (v := .slice (some ⟨gm, 0, none⟩) L cm) rfl (by kernel_rfl) (by kernel_rfl) (by kernel_rfl) (fun _ _ _ h => h) (Or.inl ⟨by rfl, by intro w hSw; clear hSw; go_simp; (try with_reducible rfl)⟩) (by assumption) ?_
      try simp only [Act.put, List.setIfInBounds_toArray, List.set_cons_zero, List.set_cons_succ]
      refine wpAnyH_take (i := 2) (oi := { dst := some 30, op := _, type := _, pos := _, after := _, guard := _ }) (v := .int .i64 (q : Int)) rfl (by kernel_rfl) (by kernel_rfl) (by kernel_rfl) (fun _ _ _ h => h) (Or.inl ⟨by rfl, by intro w hSw; clear hSw; go_simp; (try with_reducible rfl)⟩) (by assumption) ?_
      try simp only [Act.put, List.setIfInBounds_toArray, List.set_cons_zero, List.set_cons_succ]
      refine wpAnyH_take (i := 3) (oi := { dst := some 31, op := _, type := _, pos := _, after := _, guard := _ }) (v := .pointer (some ⟨gm, q, none⟩)) rfl (by kernel_rfl) (by kernel_rfl) (by kernel_rfl) (fun _ _ _ h => h) (Or.inl ⟨by rfl, by intro w hSw; clear hSw; go_simp; (try with_reducible rfl)⟩) (by assumption) ?_
      try simp only [Act.put, List.setIfInBounds_toArray, List.set_cons_zero, List.set_cons_succ]
      refine wpAnyH_take (i := 4) (oi := { dst := some 32, op := _, type := _, pos := _, after := _, guard := _ }) (v := .int .i64 (d : Int)) rfl (by kernel_rfl) (by kernel_rfl) (by kernel_rfl) (fun _ _ _ h => h) (Or.inl ⟨by rfl, by intro W q2; have c0 : W.cell? ⟨gm, q, none⟩ = some (.int .i64 (M.getD q 0)) := q2.2.2 q hq9; rw [HGD.out] at c0; clear q2; go_simp⟩) (by assumption) ?_
      try simp only [Act.put, List.setIfInBounds_toArray, List.set_cons_zero, List.set_cons_succ]
      refine wpAnyH_ready (rs := [5, 9]) (by kernel_rfl) (by simp) ?_
      refine AllReadyH.cons rfl (fun K hK => ?_) ?_
      · go_simp
        refine (HSL.out _).mono ?_
        rintro _ x1 ⟨rfl, hb⟩
        have K2 := K2.below hb K2.lt
        have K4 := K4.below hb K4.lt
        have K5 := K5.below hb K5.lt
        have CM := CM.below hb
        have HB : Hid (Below w.heap.size w x1) := HB.out.trans (hb.mono HB.out.size)
        clear hb hHeld
        go_wp2_with fail
        refine hK.out _ _ (⟨K2, CM⟩) (fun hHeld => ?_)
        clear hK K
        try simp only [Act.put, List.setIfInBounds_toArray, List.set_cons_zero, List.set_cons_succ]
        refine wpAnyH_take (i := 6) (oi := { dst := some 27, op := _, type := _, pos := _, after := _, guard := _ }) (v := .tuple #[.agg (mk 16 SB), .int .i64 sc]) rfl (by kernel_rfl) (by kernel_rfl) (by kernel_rfl) (fun _ _ _ h => h) (Or.inl ⟨by rfl, by intro w hSw; clear hSw; go_simp; (try with_reducible rfl)⟩) (by assumption) ?_
        try simp only [Act.put, List.setIfInBounds_toArray, List.set_cons_zero, List.set_cons_succ]
        refine wpAnyH_take (i := 7) (oi := { dst := some 34, op := _, type := _, pos := _, after := _, guard := _ }) (v := .agg (mk 16 SB)) rfl (by kernel_rfl) (by kernel_rfl) (by kernel_rfl) (fun _ _ _ h => h) (Or.inl ⟨by rfl, by intro w hSw; clear hSw; go_simp; (try with_reducible rfl)⟩) (by assumption) ?_
        try simp only [Act.put, List.setIfInBounds_toArray, List.set_cons_zero, List.set_cons_succ]
        refine wpAnyH_take (i := 8) (oi := { dst := some 35, op := _, type := _, pos := _, after := _, guard := _ }) (v := .int .i64 sc) rfl (by kernel_rfl) (by kernel_rfl) (by kernel_rfl) (fun _ _ _ h => h) (Or.inl ⟨by rfl, by intro w hSw; clear hSw; go_simp; (try with_reducible rfl)⟩) (by assumption) ?_
        try simp only [Act.put, List.setIfInBounds_toArray, List.set_cons_zero, List.set_cons_succ]
        refine wpAnyH_ready (rs := [9]) (by kernel_rfl) (by simp) ?_
        refine AllReadyH.cons rfl (fun K hK => ?_) AllReadyH.nil
        go_simp
        clear hHeld
        have hl4 : w.heap.size + 1 < x1.heap.size := K4.lt
        have hl5 : bq < x1.heap.size := K5.lt
        have hl6 : gm < x1.heap.size := CM.1
        have KN := Blk.new x1 16 (fun _ => 0) 29
        have K2 := K2.alloc (.cells (mk 16 fun _ => 0) 29)
        have K4 := K4.alloc (.cells (mk 16 fun _ => 0) 29)
        have K5 := K5.alloc (.cells (mk 16 fun _ => 0) 29)
        have CM := CM.alloc (.cells (mk 16 fun _ => 0) 29)
        have HB : Hid (Below w.heap.size w (x1.alloc (.cells (mk 16 fun _ => 0) 29))) := HB.out.alloc HB.out.size _
        generalize x1.alloc (.cells (mk 16 fun _ => 0) 29) = x2 at *
        generalize x1.heap.size = bN at *
        refine hK.out _ _ (⟨K2, CM⟩) (fun hHeld => ?_)
        clear hK K
        try simp only [Act.put, List.setIfInBounds_toArray, List.set_cons_zero, List.set_cons_succ]
        refine wpAnyH_ready (rs := [10]) (by kernel_rfl) (by simp) ?_
        refine AllReadyH.cons rfl (fun K hK => ?_) AllReadyH.nil
        have st1 := run_store_blk (P := Try.prog) (g := SB) KN
        have ms1 : (mk 16 SB).size = 16 := mk_size 16 _
        go_simp
        clear st1 ms1 hHeld
        have hgr : x2.grownBy (x2.setRow bN (mk 16 SB)) (some bN) := grown_row KN _
        have CM := CM.grown hgr (fun e => by cases e; omega)
        have K2 := K2.rowOther bN (mk 16 SB) (by omega)
        have K4 := K4.rowOther bN (mk 16 SB) (by omega)
        have K5 := K5.rowOther bN (mk 16 SB) (by omega)
        have HB : Hid (Below w.heap.size w (x2.setRow bN (mk 16 SB))) := below_setRow HB.out (by omega) _
        clear hgr KN
        generalize x2.setRow bN (mk 16 SB) = x3 at *
        refine hK.out _ _ (⟨K2, CM⟩) (fun hHeld => ?_)
        clear hK K
        try simp only [Act.put, List.setIfInBounds_toArray, List.set_cons_zero, List.set_cons_succ]
        refine wpAnyH_take (i := 11) (oi := { dst := some 9, op := _, type := _, pos := _, after := _, guard := _ }) (v := .int .i64 sc) rfl (by kernel_rfl) (by kernel_rfl) (by kernel_rfl) (fun _ _ _ h => h) (Or.inl ⟨by rfl, by intro w hSw; clear hSw; go_simp; (try with_reducible rfl)⟩) (by assumption) ?_
        try simp only [Act.put, List.setIfInBounds_toArray, List.set_cons_zero, List.set_cons_succ]
        refine wpAnyH_done (by kernel_rfl) ?_ _
        clear hHeld
        have hlS4 : w.heap.size + 1 < x3.heap.size := K4.lt
        have hlS5 : bq < x3.heap.size := K5.lt
        have hlS6 : gm < x3.heap.size := CM.1
        have K2 := K2.alloc (.cells (mk 2 (two sc 1)) 26)
        have K4 := K4.alloc (.cells (mk 2 (two sc 1)) 26)
        have K5 := K5.alloc (.cells (mk 2 (two sc 1)) 26)
        have CM := CM.alloc (.cells (mk 2 (two sc 1)) 26)
        have KS : Blk (x3.alloc (.cells (mk 2 (two sc 1)) 26)) x3.heap.size 2 (fcF (sn, 1)) 26 := by
          have := Blk.new x3 2 (two sc 1) 26
          rw [HSN.out] at *
          exact this
        have HB : Hid (Below w.heap.size w (x3.alloc (.cells (mk 2 (two sc 1)) 26))) := HB.out.alloc HB.out.size _
        rw [HVD.out] at KS
        go_wp2_with (first | ((with_reducible show wpList _ _ _ (Oper.mk _ (Op.load 26 _) _ _ _ _ :: _) _ _); refine loadC (K5) rfl rfl rfl ?_) | ((with_reducible show wpList _ _ _ (Oper.mk _ (Op.load 26 _) _ _ _ _ :: _) _ _); refine loadC (KS) rfl rfl rfl ?_) | ((with_reducible show wpList _ _ _ (Oper.mk _ (Op.store 26 _ _) _ _ _ _ :: _) _ _); refine storeC (g := two _ _) (Blk.new _ _ _ _) rfl rfl rfl rfl ?_; rw [World.setRow_alloc_new]))
        refine (HLS.out _).mono ?_
        rintro _ y1 ⟨rfl, hb⟩
        have K2 := K2.below hb K2.lt
        have K4 := K4.below hb K4.lt
        have K5 := K5.below hb K5.lt
        have KS := KS.below hb KS.lt
        have CM := CM.below hb
        have HB : Hid (Below w.heap.size w y1) := HB.out.trans (hb.mono HB.out.size)
        clear hb
        cases hlt : ltF (mxL V (M.take q)) (V d) with
        | true =>
          have HN : Hid (mxL V (M.take (q + 1)) = V d) := by
            show _ = _; rw [HTK.out, mxL_snoc]; unfold mxS; rw [Int.toNat_natCast, hlt]; rfl
          clear hlt
          go_wp2_with (first | ((with_reducible show wpList _ _ _ (Oper.mk _ (Op.load 26 _) _ _ _ _ :: _) _ _); refine loadC (KS) rfl rfl rfl ?_) | ((with_reducible show wpList _ _ _ (Oper.mk _ (Op.store 26 _ _) _ _ _ _ :: _) _ _); refine storeC (K5) rfl rfl rfl rfl ?_))
          have hgr : y1.grownBy (y1.setRow bq (mk 2 (fcF (V d)))) (some bq) := grown_row K5 _
          have CM := CM.grown hgr (fun e => by cases e; omega)
          have K2 := K2.rowOther bq (mk 2 (fcF (V d))) (by omega)
          have K4 := K4.rowOther bq (mk 2 (fcF (V d))) (by omega)
          have HB : Hid (Below w.heap.size w (y1.setRow bq (mk 2 (fcF (V d))))) := below_setRow HB.out (by omega) _
          have K5 := K5.row 2 (fcF (V d))
          rw [← HN.out] at K5
          clear hgr
          rw [← HN.out] at *
          go_roundg gq2
          case rel => exact ⟨q + 1, by omega, by go_num, CM, K2, K4, K5, HB⟩
          case measure => omega
        | false =>
          have HN : Hid (mxL V (M.take (q + 1)) = mxL V (M.take q)) := by
            show _ = _; rw [HTK.out, mxL_snoc]; unfold mxS; rw [Int.toNat_natCast, hlt]; rfl
          clear hlt
          rw [← HN.out] at K5
          go_wp2_with fail
          go_roundg gq2
          case rel => exact ⟨q + 1, by omega, by go_num, CM, K2, K4, K5, HB⟩
          case measure => omega
      refine AllReadyH.cons rfl (fun K hK => ?_) AllReadyH.nil
      go_simp
      clear hHeld
      have hl4 : w.heap.size + 1 < x0.heap.size := K4.lt
      have hl5 : bq < x0.heap.size := K5.lt
      have hl6 : gm < x0.heap.size := CM.1
      have KN := Blk.new x0 16 (fun _ => 0) 29
      have K2 := K2.alloc (.cells (mk 16 fun _ => 0) 29)
      have K4 := K4.alloc (.cells (mk 16 fun _ => 0) 29)
      have K5 := K5.alloc (.cells (mk 16 fun _ => 0) 29)
      have CM := CM.alloc (.cells (mk 16 fun _ => 0) 29)
      have HB : Hid (Below w.heap.size w (x0.alloc (.cells (mk 16 fun _ => 0) 29))) := HB.out.alloc HB.out.size _
      generalize x0.alloc (.cells (mk 16 fun _ => 0) 29) = x1 at *
      generalize x0.heap.size = bN at *
      refine hK.out _ _ (⟨K2, CM⟩) (fun hHeld => ?_)
      clear hK K
      try simp only [Act.put, List.setIfInBounds_toArray, List.set_cons_zero, List.set_cons_succ]
      refine wpAnyH_ready (rs := [5]) (by kernel_rfl) (by simp) ?_
      refine AllReadyH.cons rfl (fun K hK => ?_) AllReadyH.nil
      go_simp
      refine (HSL.out _).mono ?_
      rintro _ x2 ⟨rfl, hb⟩
      have K2 := K2.below hb K2.lt
      have K4 := K4.below hb K4.lt
      have K5 := K5.below hb K5.lt
      have KN := KN.below hb KN.lt
      have CM := CM.below hb
      have HB : Hid (Below w.heap.size w x2) := HB.out.trans (hb.mono HB.out.size)
      clear hb hHeld
      go_wp2_with fail
      refine hK.out _ _ (⟨K2, CM⟩) (fun hHeld => ?_)
      clear hK K
      try simp only [Act.put, List.setIfInBounds_toArray, List.set_cons_zero, List.set_cons_succ]
      refine wpAnyH_take (i := 6) (oi := { dst := some 27, op := _, type := _, pos := _, after := _, guard := _ }) (v := .tuple #[.agg (mk 16 SB), .int .i64 sc]) rfl (by kernel_rfl) (by kernel_rfl) (by kernel_rfl) (fun _ _ _ h => h) (Or.inl ⟨by rfl, by intro w hSw; clear hSw; go_simp; (try with_reducible rfl)⟩) (by assumption) ?_
      try simp only [Act.put, List.setIfInBounds_toArray, List.set_cons_zero, List.set_cons_succ]
      refine wpAnyH_take (i := 7) (oi := { dst := some 34, op := _, type := _, pos := _, after := _, guard := _ }) (v := .agg (mk 16 SB)) rfl (by kernel_rfl) (by kernel_rfl) (by kernel_rfl) (fun _ _ _ h => h) (Or.inl ⟨by rfl, by intro w hSw; clear hSw; go_simp; (try with_reducible rfl)⟩) (by assumption) ?_
      try simp only [Act.put, List.setIfInBounds_toArray, List.set_cons_zero, List.set_cons_succ]
      refine wpAnyH_take (i := 8) (oi := { dst := some 35, op := _, type := _, pos := _, after := _, guard := _ }) (v := .int .i64 sc) rfl (by kernel_rfl) (by kernel_rfl) (by kernel_rfl) (fun _ _ _ h => h) (Or.inl ⟨by rfl, by intro w hSw; clear hSw; go_simp; (try with_reducible rfl)⟩) (by assumption) ?_
      try simp only [Act.put, List.setIfInBounds_toArray, List.set_cons_zero, List.set_cons_succ]
      refine wpAnyH_ready (rs := [10]) (by kernel_rfl) (by simp) ?_
      refine AllReadyH.cons rfl (fun K hK => ?_) AllReadyH.nil
      have st1 := run_store_blk (P := Try.prog) (g := SB) KN
      have ms1 : (mk 16 SB).size = 16 := mk_size 16 _
      go_simp
      clear st1 ms1 hHeld
      have hgr : x2.grownBy (x2.setRow bN (mk 16 SB)) (some bN) := grown_row KN _
      have CM := CM.grown hgr (fun e => by cases e; omega)
      have K2 := K2.rowOther bN (mk 16 SB) (by omega)
      have K4 := K4.rowOther bN (mk 16 SB) (by omega)
      have K5 := K5.rowOther bN (mk 16 SB) (by omega)
      have HB : Hid (Below w.heap.size w (x2.setRow bN (mk 16 SB))) := below_setRow HB.out (by omega) _
      clear hgr KN
      generalize x2.setRow bN (mk 16 SB) = x3 at *
      refine hK.out _ _ (⟨K2, CM⟩) (fun hHeld => ?_)
      clear hK K
      try simp only [Act.put, List.setIfInBounds_toArray, List.set_cons_zero, List.set_cons_succ]
      refine wpAnyH_take (i := 11) (oi := { dst := some 9, op := _, type := _, pos := _, after := _, guard := _ }) (v := .int .i64 sc) rfl (by kernel_rfl) (by kernel_rfl) (by kernel_rfl) (fun _ _ _ h => h) (Or.inl ⟨by rfl, by intro w hSw; clear hSw; go_simp; (try with_reducible rfl)⟩) (by assumption) ?_
      try simp only [Act.put, List.setIfInBounds_toArray, List.set_cons_zero, List.set_cons_succ]
      refine wpAnyH_done (by kernel_rfl) ?_ _
      clear hHeld
      have hlS4 : w.heap.size + 1 < x3.heap.size := K4.lt
      have hlS5 : bq < x3.heap.size := K5.lt
      have hlS6 : gm < x3.heap.size := CM.1
      have K2 := K2.alloc (.cells (mk 2 (two sc 1)) 26)
      have K4 := K4.alloc (.cells (mk 2 (two sc 1)) 26)
      have K5 := K5.alloc (.cells (mk 2 (two sc 1)) 26)
      have CM := CM.alloc (.cells (mk 2 (two sc 1)) 26)
      have KS : Blk (x3.alloc (.cells (mk 2 (two sc 1)) 26)) x3.heap.size 2 (fcF (sn, 1)) 26 := by
        have := Blk.new x3 2 (two sc 1) 26
        rw [HSN.out] at *
        exact this
      have HB : Hid (Below w.heap.size w (x3.alloc (.cells (mk 2 (two sc 1)) 26))) := HB.out.alloc HB.out.size _
      rw [HVD.out] at KS
      go_wp2_with (first | ((with_reducible show wpList _ _ _ (Oper.mk _ (Op.load 26 _) _ _ _ _ :: _) _ _); refine loadC (K5) rfl rfl rfl ?_) | ((with_reducible show wpList _ _ _ (Oper.mk _ (Op.load 26 _) _ _ _ _ :: _) _ _); refine loadC (KS) rfl rfl rfl ?_) | ((with_reducible show wpList _ _ _ (Oper.mk _ (Op.store 26 _ _) _ _ _ _ :: _) _ _); refine storeC (g := two _ _) (Blk.new _ _ _ _) rfl rfl rfl rfl ?_; rw [World.setRow_alloc_new]))
      refine (HLS.out _).mono ?_
      rintro _ y1 ⟨rfl, hb⟩
      have K2 := K2.below hb K2.lt
      have K4 := K4.below hb K4.lt
      have K5 := K5.below hb K5.lt
      have KS := KS.below hb KS.lt
      have CM := CM.below hb
      have HB : Hid (Below w.heap.size w y1) := HB.out.trans (hb.mono HB.out.size)
      clear hb
      cases hlt : ltF (mxL V (M.take q)) (V d) with
      | true =>
        have HN : Hid (mxL V (M.take (q + 1)) = V d) := by
          show _ = _; rw [HTK.out, mxL_snoc]; unfold mxS; rw [Int.toNat_natCast, hlt]; rfl
        clear hlt
        go_wp2_with (first | ((with_reducible show wpList _ _ _ (Oper.mk _ (Op.load 26 _) _ _ _ _ :: _) _ _); refine loadC (KS) rfl rfl rfl ?_) | ((with_reducible show wpList _ _ _ (Oper.mk _ (Op.store 26 _ _) _ _ _ _ :: _) _ _); refine storeC (K5) rfl rfl rfl rfl ?_))
        have hgr : y1.grownBy (y1.setRow bq (mk 2 (fcF (V d)))) (some bq) := grown_row K5 _
        have CM := CM.grown hgr (fun e => by cases e; omega)
        have K2 := K2.rowOther bq (mk 2 (fcF (V d))) (by omega)
        have K4 := K4.rowOther bq (mk 2 (fcF (V d))) (by omega)
        have HB : Hid (Below w.heap.size w (y1.setRow bq (mk 2 (fcF (V d))))) := below_setRow HB.out (by omega) _
        have K5 := K5.row 2 (fcF (V d))
        rw [← HN.out] at K5
        clear hgr
        rw [← HN.out] at *
        go_roundg gq2
        case rel => exact ⟨q + 1, by omega, by go_num, CM, K2, K4, K5, HB⟩
        case measure => omega
      | false =>
        have HN : Hid (mxL V (M.take (q + 1)) = mxL V (M.take q)) := by
          show _ = _; rw [HTK.out, mxL_snoc]; unfold mxS; rw [Int.toNat_natCast, hlt]; rfl
        clear hlt
        rw [← HN.out] at K5
        go_wp2_with fail
        go_roundg gq2
        case rel => exact ⟨q + 1, by omega, by go_num, CM, K2, K4, K5, HB⟩
        case measure => omega
set_option maxHeartbeats 8000000 in
set_option maxRecDepth 20000 in
theorem SSn_two (h : SSn 1) : SSn 2 := by
  intro f w hV
  rw [scm_succ]
  show Calls Try.prog 64 #[.agg (mk 16 f), .int .i64 2] w _
  have z2 := zero2
  have z16 := zero16
  have K2 := (Blk.new w 16 f 29).alloc (.cells (mk 2 fun _ => 0) 26)
  have K4 := Blk.new (w.alloc (.cells (mk 16 f) 29)) 2 (fun _ => 0) 26
  have HB := Lib.hid (((Below.refl w.heap.size w).alloc (Nat.le_refl _) (.cells (mk 16 f) 29)).alloc (by simp) (.cells (mk 2 fun _ => 0) 26))
  simp only [World.size_alloc] at K4
  have HM := Lib.hid (fun w => l2Moves_any f w hV)
  have hle := movL_le f 4
  have HMA := Lib.hid (fun i (hi : i < (movL f 4).length) => mov_at hi)
  have HBD := Lib.hid (fun d (hm : isMv f d = true) => scm_ok (n := 1) (by omega) hV (d := d) hm)
  have HMX : Hid (∀ i, (mxL (scV 1 f) ((movL f 4).take i)).1 ≤ 1342177280 ∧ (mxL (scV 1 f) ((movL f 4).take i)).2 ≤ 160) := fun i => mxL_all (f := f) (V := scV 1 f) (P := fun p => p.1 ≤ 1342177280 ∧ p.2 ≤ 160) (by decide) (fun d hd hm => by have := scm_ok (n := 1) (by omega) hV (d := d) hm; omega) i
  have HEND : Hid (mxL (scV 1 f) (movL f 4) = (bmF f (scV 1 f) 4).v) := mxL_end fun d hd hm => (scm_ok (n := 1) (by omega) hV (d := d) hm).2.2.2.1
  have HSD := Lib.hid (fun (d : Nat) (hd : d < 4) w => l2Slide_nat f d w hV (by omega) (by omega))
  have HSB := Lib.hid (fun d => slideS_bd hV d 4 (Nat.le_refl _))
  have HCC1 := Lib.hid (fun g w (hg : Vd g) => show Calls Try.prog 64 #[.agg (mk 16 g), .int .i64 1] w fun e w' => e = .returned (.agg (mk 2 (fcF (ScF 1 g)))) ∧ Below w.heap.size w w' from h g w hg)
  have HVV := Lib.hid hV
  have HV := Lib.hid hV
  rw [← HEND.out]
  clear HEND h hV
  have HVE : Hid (∀ d, (scV 1 f) d = plusF ((slideS f d 4).toNat, 1) (mnF (ScF 1) (slideB f d))) := fun d => rfl
  generalize scV 1 f = V at *
  go_enter Try.func64, Try.ntmps64
  go_wp2_with ((with_reducible show wpList _ _ _ (Oper.mk _ (Op.load 29 _) _ _ _ _ :: _) _ _); refine loadB (K2) rfl rfl rfl ?_)
  refine (HM.out _).mono ?_
  rintro _ w2 ⟨gm, cm, rfl, hmo, hb⟩
  have CM := mov_mem hmo
  have hq : w.heap.size + 1 < w2.heap.size := (K4.below hb K4.lt).lt
  have K2 := (K2.below hb K2.lt).alloc (.cells (mk 2 (two 0 1)) 26)
  have K4 := (K4.below hb K4.lt).alloc (.cells (mk 2 (two 0 1)) 26)
  have K5 : Blk (w2.alloc (.cells (mk 2 (two 0 1)) 26)) w2.heap.size 2 (fcF (0, 1)) 26 := Blk.new w2 2 (two 0 1) 26
  have HB : Hid (Below w.heap.size w w2) := HB.out.trans (hb.mono HB.out.size)
  have HB : Hid (Below w.heap.size w (w2.alloc (.cells (mk 2 (two 0 1)) 26))) := HB.out.alloc HB.out.size _
  have CM := (CM.below (Below.refl _ _)).alloc (.cells (mk 2 (two 0 1)) 26)
  have hgm : gm < w2.heap.size := (hmo.lt gm rfl).2
  clear hb hmo
  generalize hMM : movL f 4 = M at *
  generalize hLL : M.length = L at *
  have HTL : Hid (M.take L = M) := by show _ = _; rw [← hLL]; exact List.take_length
  go_wp2_with (first | ((with_reducible show wpList _ _ _ (Oper.mk _ (Op.store 26 _ _) _ _ _ _ :: _) _ _); refine storeC (g := two _ _) (Blk.new _ _ _ _) rfl rfl rfl rfl ?_; rw [World.setRow_alloc_new]))
  have K5 : Blk (w2.alloc (.cells (mk 2 (two 0 1)) 26)) w2.heap.size 2 (fcF (mxL V (M.take 0))) 26 := K5
  generalize w2.alloc (.cells (mk 2 (two 0 1)) 26) = w3 at *
  generalize w2.heap.size = bq at *
  go_loopg [7] L (fun gq sI wr => ∃ (q : Nat), q + gq = L ∧ sI = .int .i64 q ∧ CAt wr gm L (fun i => M.getD i 0) ∧ Blk wr w.heap.size 16 f 29 ∧ Blk wr (w.heap.size + 1) 2 (fun _ => 0) 26 ∧ Blk wr bq 2 (fcF (mxL V (M.take q))) 26 ∧ Hid (Below w.heap.size w wr))
  case atStart => exact ⟨0, by omega, rfl, CM, K2, K4, K5, HB⟩
  case round =>
    obtain ⟨q, hqg, rfl, CM, K2, K4, K5, HB⟩ := hrel
    cases gk with
    | zero =>
      have hk : ¬ ((q : Int) < (L : Int)) := by omega
      obtain rfl : q = L := by omega
      clear hqg
      rw [HTL.out] at K5
      go_wp2_with (first | ((with_reducible show wpList _ _ _ (Oper.mk _ (Op.load 26 _) _ _ _ _ :: _) _ _); refine loadC (K5) rfl rfl rfl ?_) | ((with_reducible show wpList _ _ _ (Oper.mk _ (Op.store 26 _ _) _ _ _ _ :: _) _ _); refine storeC (K4) rfl rfl rfl rfl ?_))
      try simp only [Exit.inBlock, Exit.then]
      exact retcC (K4.row 2 _) rfl rfl rfl ⟨rfl, below_setRow HB.out (by omega) _⟩
    | succ gq2 =>
      have hq8 : (q : Int) < (L : Int) := by omega
      have hq9 : q < L := by omega
      have hq0 : (0 : Int) ≤ (q : Int) := by omega
      obtain ⟨d, hd4, _, hdm, hgd, htk⟩ := HMA.out q hq9
      have HGD : Hid (M.getD q 0 = (d : Int)) := hgd
      have HTK : Hid (M.take (q + 1) = M.take q ++ [(d : Int)]) := htk
      have HSL := Lib.hid (HSD.out d hd4)
      have hsb := HSB.out d
      obtain ⟨_, _, _, _, b1, b2⟩ := HBD.out d hdm
      obtain ⟨b3, b4⟩ := HMX.out q
      have HLS := Lib.hid (fun w => l9Less_any (mxL V (M.take q)) (V d) w (by have := fc_mul7 (a := (mxL V (M.take q)).1) (b := (V d).2) (by omega) (by omega); omega) (by have := fc_mul7 (a := (V d).1) (b := (mxL V (M.take q)).2) (by omega) (by omega); omega))
      have hE := mv_room HVV.out hdm
      have hlen := mv_len hdm
      have hdn := scm_dn (n := 1) (by omega) (slideB_vd HVV.out d)
      have hpo := pt_ok (c := (slideS f d 4).toNat) hdn hE (by omega) (by omega) (.inr ⟨by omega, rfl, by omega⟩)
      have HMN : Hid (ptF ((slideS f d 4).toNat, 1) (ScF 1) (slideB f d) (5 * (empN (slideB f d) 16 * 2)) (empN (slideB f d) 16 * 2) = V d) := by
        show _ = _
        rw [show 5 * (empN (slideB f d) 16 * 2) = 10 * empN (slideB f d) 16 by omega, HVE.out d]
        exact pt_score hdn hE _
      rw [← hlen] at HMN hpo
      have HST := Lib.hid (fun w => l5Steps_any f d w HVV.out hd4)
      have HSM := Lib.hid (fun k (hk : k < (stepL f d).length) => step_mem7 (k := k) hd4 hdm hk)
      have HPV := Lib.hid (fun k (hk : k < (stepL f d).length) => plB_vd (slideB_vd HVV.out d) (ps_ok (S := slideB f d) (k := k) (by omega)))
      have HSA := Lib.hid (step_all f d hd4)
      obtain ⟨S, hS⟩ : ∃ S, S = slideB f d := ⟨_, rfl⟩
      obtain ⟨T, hT⟩ : ∃ T, T = ScF 1 := ⟨_, rfl⟩
      obtain ⟨s0, hs0⟩ : ∃ s0 : Fc, s0 = ((slideS f d 4).toNat, 1) := ⟨_, rfl⟩
      rw [← hS] at HSM HPV HMN hpo
      rw [← hT] at HMN hpo
      rw [← hs0] at HMN
      have HPO := Lib.hid hpo
      obtain ⟨F, hF⟩ : ∃ F : Nat → Nat → Int, F = fun k => plB S (psF S k) := ⟨_, rfl⟩
      have HF : Hid (∀ k, k < (stepL f d).length → doB f (fun j => flatF (stepL f d) (k * 4 + j)) = F k) := by intro k hk; rw [hF]; exact (HSM.out k hk).1
      have HWI : Hid (∀ k, k < (stepL f d).length → wtI (flatF (stepL f d) (k * 4 + 3)) = wtP (psF S k)) := by intro k hk; exact (HSM.out k hk).2
      have HVF : Hid (∀ k, k < (stepL f d).length → Vd (F k)) := by intro k hk; rw [hF]; exact HPV.out k hk
      have HFK : Hid (∀ k, plB S (psF S k) = F k) := by intro k; rw [hF]
      have HS0 : Hid (s0 = ((slideS f d 4).toNat, 1)) := hs0
      have HTT : Hid (T = ScF 1) := hT
      have hn2 : (stepL f d).length ≤ 32 := hpo.le
      clear hE hlen hdn hpo HSM HPV hF hs0 hT hS
      obtain ⟨sn, hsn⟩ : ∃ sn, sn = (slideS f d 4).toNat := ⟨_, rfl⟩
      have HSN : Hid (slideS f d 4 = (sn : Int)) := by show _ = _; omega
      rw [← hsn] at HPO HS0
      clear hsn hsb b1 b2 b3 b4 hgd htk
      rw [HSN.out] at HSL
      generalize hSB : slideB f d = SB at *
      generalize hsc : (sn : Int) = sc at *
      have HSN : Hid (two sc 1 = fcF (sn, 1)) := by show _ = _; rw [← hsc]; rfl
      clear hsc
      go_wp2_with fail
      refine wp_region_held_drew (S := fun W => Blk W w.heap.size 16 f 29 ∧ CAt W gm L (fun i => M.getD i 0)) (by kernel_rfl) (⟨K2.drew, CM.drew⟩) (fun hHeld => ?_)
      have K2 := K2.drew
      have K4 := K4.drew
      have K5 := K5.drew
      have CM : CAt wr.drew gm L (fun i => M.getD i 0) := CM.drew
      have HB : Hid (Below w.heap.size w wr.drew) := HB.out.drew
      clear hHeld
      generalize wr.drew = x0 at *
      have hHeld : Blk x0 w.heap.size 16 f 29 ∧ CAt x0 gm L (fun i => M.getD i 0) := ⟨K2, CM⟩
      refine wpAnyH_take (i := 0) (oi := { dst := some 28, op := _, type := _, pos := _, after := _, guard := _ }) (v := .agg (mk 16 f)) rfl (by kernel_rfl) (by kernel_rfl) (by kernel_rfl) (fun _ _ _ h => h) (Or.inl ⟨by rfl, fun _ q => execB7 q.1 rfl rfl⟩) (by assumption) ?_
      try simp only [Act.put, List.setIfInBounds_toArray, List.set_cons_zero, List.set_cons_succ]
      refine wpAnyH_take (i := 1) (oi := { dst := some 29, op := _, type := _, pos := _, after := _, guard := _ }) (v := .slice (some ⟨gm, 0, none⟩) L cm) rfl (by kernel_rfl) (by kernel_rfl) (by kernel_rfl) (fun _ _ _ h => h) (Or.inl ⟨by rfl, by intro w hSw; clear hSw; go_simp; (try with_reducible rfl)⟩) (by assumption) ?_
      try simp only [Act.put, List.setIfInBounds_toArray, List.set_cons_zero, List.set_cons_succ]
      refine wpAnyH_take (i := 2) (oi := { dst := some 30, op := _, type := _, pos := _, after := _, guard := _ }) (v := .int .i64 (q : Int)) rfl (by kernel_rfl) (by kernel_rfl) (by kernel_rfl) (fun _ _ _ h => h) (Or.inl ⟨by rfl, by intro w hSw; clear hSw; go_simp; (try with_reducible rfl)⟩) (by assumption) ?_
      try simp only [Act.put, List.setIfInBounds_toArray, List.set_cons_zero, List.set_cons_succ]
      refine wpAnyH_take (i := 3) (oi := { dst := some 31, op := _, type := _, pos := _, after := _, guard := _ }) (v := .pointer (some ⟨gm, q, none⟩)) rfl (by kernel_rfl) (by kernel_rfl) (by kernel_rfl) (fun _ _ _ h => h) (Or.inl ⟨by rfl, by intro w hSw; clear hSw; go_simp; (try with_reducible rfl)⟩) (by assumption) ?_
      try simp only [Act.put, List.setIfInBounds_toArray, List.set_cons_zero, List.set_cons_succ]
      refine wpAnyH_take (i := 4) (oi := { dst := some 32, op := _, type := _, pos := _, after := _, guard := _ }) (v := .int .i64 (d : Int)) rfl (by kernel_rfl) (by kernel_rfl) (by kernel_rfl) (fun _ _ _ h => h) (Or.inl ⟨by rfl, by intro W q2; have c0 : W.cell? ⟨gm, q, none⟩ = some (.int .i64 (M.getD q 0)) := q2.2.2 q hq9; rw [HGD.out] at c0; clear q2; go_simp⟩) (by assumption) ?_
      try simp only [Act.put, List.setIfInBounds_toArray, List.set_cons_zero, List.set_cons_succ]
      refine wpAnyH_ready (rs := [5, 9]) (by kernel_rfl) (by simp) ?_
      refine AllReadyH.cons rfl (fun K hK => ?_) ?_
      · go_simp
        refine (HSL.out _).mono ?_
        rintro _ x1 ⟨rfl, hb⟩
        have K2 := K2.below hb K2.lt
        have K4 := K4.below hb K4.lt
        have K5 := K5.below hb K5.lt
        have CM := CM.below hb
        have HB : Hid (Below w.heap.size w x1) := HB.out.trans (hb.mono HB.out.size)
        clear hb hHeld
        go_wp2_with fail
        refine hK.out _ _ (⟨K2, CM⟩) (fun hHeld => ?_)
        clear hK K
        try simp only [Act.put, List.setIfInBounds_toArray, List.set_cons_zero, List.set_cons_succ]
        refine wpAnyH_take (i := 6) (oi := { dst := some 27, op := _, type := _, pos := _, after := _, guard := _ }) (v := .tuple #[.agg (mk 16 SB), .int .i64 sc]) rfl (by kernel_rfl) (by kernel_rfl) (by kernel_rfl) (fun _ _ _ h => h) (Or.inl ⟨by rfl, by intro w hSw; clear hSw; go_simp; (try with_reducible rfl)⟩) (by assumption) ?_
        try simp only [Act.put, List.setIfInBounds_toArray, List.set_cons_zero, List.set_cons_succ]
        refine wpAnyH_take (i := 7) (oi := { dst := some 34, op := _, type := _, pos := _, after := _, guard := _ }) (v := .agg (mk 16 SB)) rfl (by kernel_rfl) (by kernel_rfl) (by kernel_rfl) (fun _ _ _ h => h) (Or.inl ⟨by rfl, by intro w hSw; clear hSw; go_simp; (try with_reducible rfl)⟩) (by assumption) ?_
        try simp only [Act.put, List.setIfInBounds_toArray, List.set_cons_zero, List.set_cons_succ]
        refine wpAnyH_take (i := 8) (oi := { dst := some 35, op := _, type := _, pos := _, after := _, guard := _ }) (v := .int .i64 sc) rfl (by kernel_rfl) (by kernel_rfl) (by kernel_rfl) (fun _ _ _ h => h) (Or.inl ⟨by rfl, by intro w hSw; clear hSw; go_simp; (try with_reducible rfl)⟩) (by assumption) ?_
        try simp only [Act.put, List.setIfInBounds_toArray, List.set_cons_zero, List.set_cons_succ]
        refine wpAnyH_ready (rs := [9]) (by kernel_rfl) (by simp) ?_
        refine AllReadyH.cons rfl (fun K hK => ?_) AllReadyH.nil
        go_simp
        clear hHeld
        have hl4 : w.heap.size + 1 < x1.heap.size := K4.lt
        have hl5 : bq < x1.heap.size := K5.lt
        have hl6 : gm < x1.heap.size := CM.1
        have KN := Blk.new x1 16 (fun _ => 0) 29
        have K2 := K2.alloc (.cells (mk 16 fun _ => 0) 29)
        have K4 := K4.alloc (.cells (mk 16 fun _ => 0) 29)
        have K5 := K5.alloc (.cells (mk 16 fun _ => 0) 29)
        have CM := CM.alloc (.cells (mk 16 fun _ => 0) 29)
        have HB : Hid (Below w.heap.size w (x1.alloc (.cells (mk 16 fun _ => 0) 29))) := HB.out.alloc HB.out.size _
        generalize x1.alloc (.cells (mk 16 fun _ => 0) 29) = x2 at *
        generalize x1.heap.size = bN at *
        refine hK.out _ _ (⟨K2, CM⟩) (fun hHeld => ?_)
        clear hK K
        try simp only [Act.put, List.setIfInBounds_toArray, List.set_cons_zero, List.set_cons_succ]
        refine wpAnyH_ready (rs := [10]) (by kernel_rfl) (by simp) ?_
        refine AllReadyH.cons rfl (fun K hK => ?_) AllReadyH.nil
        have st1 := run_store_blk (P := Try.prog) (g := SB) KN
        have ms1 : (mk 16 SB).size = 16 := mk_size 16 _
        go_simp
        clear st1 ms1 hHeld
        have hgr : x2.grownBy (x2.setRow bN (mk 16 SB)) (some bN) := grown_row KN _
        have CM := CM.grown hgr (fun e => by cases e; omega)
        have K2 := K2.rowOther bN (mk 16 SB) (by omega)
        have K4 := K4.rowOther bN (mk 16 SB) (by omega)
        have K5 := K5.rowOther bN (mk 16 SB) (by omega)
        have HB : Hid (Below w.heap.size w (x2.setRow bN (mk 16 SB))) := below_setRow HB.out (by omega) _
        clear hgr KN
        generalize x2.setRow bN (mk 16 SB) = x3 at *
        refine hK.out _ _ (⟨K2, CM⟩) (fun hHeld => ?_)
        clear hK K
        try simp only [Act.put, List.setIfInBounds_toArray, List.set_cons_zero, List.set_cons_succ]
        refine wpAnyH_take (i := 11) (oi := { dst := some 9, op := _, type := _, pos := _, after := _, guard := _ }) (v := .int .i64 sc) rfl (by kernel_rfl) (by kernel_rfl) (by kernel_rfl) (fun _ _ _ h => h) (Or.inl ⟨by rfl, by intro w hSw; clear hSw; go_simp; (try with_reducible rfl)⟩) (by assumption) ?_
        try simp only [Act.put, List.setIfInBounds_toArray, List.set_cons_zero, List.set_cons_succ]
        refine wpAnyH_done (by kernel_rfl) ?_ _
        clear hHeld
        have hlS4 : w.heap.size + 1 < x3.heap.size := K4.lt
        have hlS5 : bq < x3.heap.size := K5.lt
        have hlS6 : gm < x3.heap.size := CM.1
        have K2 := K2.alloc (.cells (mk 2 (two sc 1)) 26)
        have K4 := K4.alloc (.cells (mk 2 (two sc 1)) 26)
        have K5 := K5.alloc (.cells (mk 2 (two sc 1)) 26)
        have CM := CM.alloc (.cells (mk 2 (two sc 1)) 26)
        have KS : Blk (x3.alloc (.cells (mk 2 (two sc 1)) 26)) x3.heap.size 2 (fcF (sn, 1)) 26 := by
          have := Blk.new x3 2 (two sc 1) 26
          rw [HSN.out] at *
          exact this
        have HB : Hid (Below w.heap.size w (x3.alloc (.cells (mk 2 (two sc 1)) 26))) := HB.out.alloc HB.out.size _
        have hbS1 : w.heap.size + 1 < x3.heap.size := hlS4
        go_wp2_with (first | ((with_reducible show wpList _ _ _ (Oper.mk _ (Op.store 26 _ _) _ _ _ _ :: _) _ _); refine storeC (g := two _ _) (Blk.new _ _ _ _) rfl rfl rfl rfl ?_; rw [World.setRow_alloc_new]))
        generalize x3.alloc (.cells (mk 2 (two sc 1)) 26) = z0 at *
        generalize x3.heap.size = bS at *
        refine wp_region_held_drew (S := fun W => Blk W w.heap.size 16 f 29 ∧ CAt W gm L (fun i => M.getD i 0)) (by kernel_rfl) (⟨K2.drew, CM.drew⟩) (fun hHeld => ?_)
        have K2 := K2.drew
        have K4 := K4.drew
        have K5 := K5.drew
        have KS := KS.drew
        have CM : CAt z0.drew gm L (fun i => M.getD i 0) := CM.drew
        have HB : Hid (Below w.heap.size w z0.drew) := HB.out.drew
        clear hHeld
        generalize z0.drew = z1 at *
        have hHeld : Blk z1 w.heap.size 16 f 29 ∧ CAt z1 gm L (fun i => M.getD i 0) := ⟨K2, CM⟩
        refine wpAnyH_take (i := 0) (oi := { dst := some 40, op := _, type := _, pos := _, after := _, guard := _ }) (v := .agg (mk 16 f)) rfl (by kernel_rfl) (by kernel_rfl) (by kernel_rfl) (fun _ _ _ h => h) (Or.inl ⟨by rfl, fun _ q => execB7 q.1 rfl rfl⟩) (by assumption) ?_
        try simp only [Act.put, List.setIfInBounds_toArray, List.set_cons_zero, List.set_cons_succ]
        refine wpAnyH_take (i := 1) (oi := { dst := some 41, op := _, type := _, pos := _, after := _, guard := _ }) (v := .slice (some ⟨gm, 0, none⟩) L cm) rfl (by kernel_rfl) (by kernel_rfl) (by kernel_rfl) (fun _ _ _ h => h) (Or.inl ⟨by rfl, by intro w hSw; clear hSw; go_simp; (try with_reducible rfl)⟩) (by assumption) ?_
        try simp only [Act.put, List.setIfInBounds_toArray, List.set_cons_zero, List.set_cons_succ]
        refine wpAnyH_take (i := 2) (oi := { dst := some 42, op := _, type := _, pos := _, after := _, guard := _ }) (v := .int .i64 (q : Int)) rfl (by kernel_rfl) (by kernel_rfl) (by kernel_rfl) (fun _ _ _ h => h) (Or.inl ⟨by rfl, by intro w hSw; clear hSw; go_simp; (try with_reducible rfl)⟩) (by assumption) ?_
        try simp only [Act.put, List.setIfInBounds_toArray, List.set_cons_zero, List.set_cons_succ]
        refine wpAnyH_take (i := 3) (oi := { dst := some 43, op := _, type := _, pos := _, after := _, guard := _ }) (v := .pointer (some ⟨gm, q, none⟩)) rfl (by kernel_rfl) (by kernel_rfl) (by kernel_rfl) (fun _ _ _ h => h) (Or.inl ⟨by rfl, by intro w hSw; clear hSw; go_simp; (try with_reducible rfl)⟩) (by assumption) ?_
        try simp only [Act.put, List.setIfInBounds_toArray, List.set_cons_zero, List.set_cons_succ]
        refine wpAnyH_take (i := 4) (oi := { dst := some 44, op := _, type := _, pos := _, after := _, guard := _ }) (v := .int .i64 (d : Int)) rfl (by kernel_rfl) (by kernel_rfl) (by kernel_rfl) (fun _ _ _ h => h) (Or.inl ⟨by rfl, by intro W q2; have c0 : W.cell? ⟨gm, q, none⟩ = some (.int .i64 (M.getD q 0)) := q2.2.2 q hq9; rw [HGD.out] at c0; clear q2; go_simp⟩) (by assumption) ?_
        try simp only [Act.put, List.setIfInBounds_toArray, List.set_cons_zero, List.set_cons_succ]
        refine wpAnyH_ready (rs := [5]) (by kernel_rfl) (by simp) ?_
        refine AllReadyH.cons rfl (fun K hK => ?_) AllReadyH.nil
        go_simp
        refine (HST.out _).mono ?_
        rintro _ z2 ⟨gs, cs, rfl, hs, hb⟩
        have CS : CAt z2 gs ((stepL f d).length * 4) (flatF (stepL f d)) := by
          obtain ⟨_, _, e1, _, hc⟩ := KRow.of_list HSA.out hs
          cases e1
          exact hc
        have hgsS : bS < gs := by have h1 := (hs.lt gs rfl).1; have h2 := KS.lt; omega
        have K2 := K2.below hb K2.lt
        have K4 := K4.below hb K4.lt
        have K5 := K5.below hb K5.lt
        have KS := KS.below hb KS.lt
        have CM := CM.below hb
        have HB : Hid (Below w.heap.size w z2) := HB.out.trans (hb.mono HB.out.size)
        clear hb hs hHeld
        go_wp2_with fail
        refine hK.out _ _ ⟨K2, CM⟩ (fun hHeld => ?_)
        clear hK K
        try simp only [Act.put, List.setIfInBounds_toArray, List.set_cons_zero, List.set_cons_succ]
        refine wpAnyH_take (i := 6) (oi := { dst := some 11, op := _, type := _, pos := _, after := _, guard := _ }) (v := .slice (some ⟨gs, 0, none⟩) (stepL f d).length cs) rfl (by kernel_rfl) (by kernel_rfl) (by kernel_rfl) (fun _ _ _ h => h) (Or.inl ⟨by rfl, by intro w hSw; clear hSw; go_simp; (try with_reducible rfl)⟩) (by assumption) ?_
        try simp only [Act.put, List.setIfInBounds_toArray, List.set_cons_zero, List.set_cons_succ]
        refine wpAnyH_done (by kernel_rfl) ?_ _
        clear hHeld
        generalize hNN : (stepL f d).length = n at *
        generalize hHH : flatF (stepL f d) = hh at *
        go_wp2_with ((with_reducible show wpList _ _ _ (Oper.mk _ (Op.load 29 _) _ _ _ _ :: _) _ _); refine loadB (K2) rfl rfl rfl ?_)
        refine (l9Boards_any f gs cs n hh F _ HV.out CS hn2 HF.out).mono ?_
        rintro _ z3 ⟨gb, cb, rfl, hbo, hb⟩
        have hgbS : bS < gb := by have h1 := (hbo.lt gb rfl).1; have h2 := KS.lt; omega
        have CB := bd_mem7 hbo
        have K2 := K2.below hb K2.lt
        have K4 := K4.below hb K4.lt
        have K5 := K5.below hb K5.lt
        have KS := KS.below hb KS.lt
        have CM := CM.below hb
        have CS := CS.below hb
        have HB : Hid (Below w.heap.size w z3) := HB.out.trans (hb.mono HB.out.size)
        have HNB : Hid (gb ≠ bS) := by show _ ≠ _; omega
        have HNS : Hid (gs ≠ bS) := by show _ ≠ _; omega
        rw [← HS0.out] at KS
        have KS : Blk z3 bS 2 (fcF (ptF s0 T S (5 * n) 0)) 26 := KS
        clear hb hbo
        have HAT : Hid (∀ k, k < n → mk 16 (fun j => flatF (bdL F n) (k * 16 + j)) = mk 16 (F k)) := fun k hk => by
          rw [flatF_mk (bdL_all F n) (bdL_at F hk)]
          exact mk_congr fun i hi => fn_cl _ i hi
        generalize flatF (bdL F n) = hb at *
        go_wp2_with fail
        go_loopg [13] n (fun gk sI wr => ∃ (k : Nat), k + gk = n ∧ sI = .int .i64 k ∧ CAt wr gm L (fun i => M.getD i 0) ∧ CAt wr gb (n * 16) hb ∧ CAt wr gs (n * 4) hh ∧ Blk wr w.heap.size 16 f 29 ∧ Blk wr (w.heap.size + 1) 2 (fun _ => 0) 26 ∧ Blk wr bq 2 (fcF (mxL V (M.take q))) 26 ∧ Blk wr bS 2 (fcF (ptF s0 T S (5 * n) k)) 26 ∧ Hid (Below w.heap.size w wr))
        case atStart => exact ⟨0, by omega, rfl, CM, CB, CS, K2, K4, K5, KS, HB⟩
        case round =>
          obtain ⟨k, hkg, rfl, CM, CB, CS, K2, K4, K5, KS, HB⟩ := hrel
          cases gk with
          | zero =>
            have hk : ¬ ((k : Int) < (n : Int)) := by omega
            obtain rfl : k = n := by omega
            clear hkg
            rw [HMN.out] at KS
            go_wp2_with (first | ((with_reducible show wpList _ _ _ (Oper.mk _ (Op.load 26 _) _ _ _ _ :: _) _ _); refine loadC (K5) rfl rfl rfl ?_) | ((with_reducible show wpList _ _ _ (Oper.mk _ (Op.load 26 _) _ _ _ _ :: _) _ _); refine loadC (KS) rfl rfl rfl ?_))
            refine (HLS.out _).mono ?_
            rintro _ y1 ⟨rfl, hb⟩
            have K2 := K2.below hb K2.lt
            have K4 := K4.below hb K4.lt
            have K5 := K5.below hb K5.lt
            have KS := KS.below hb KS.lt
            have CM := CM.below hb
            have HB : Hid (Below w.heap.size w y1) := HB.out.trans (hb.mono HB.out.size)
            clear hb
            cases hlt : ltF (mxL V (M.take q)) (V d) with
            | true =>
              have HN : Hid (mxL V (M.take (q + 1)) = V d) := by
                show _ = _; rw [HTK.out, mxL_snoc]; unfold mxS; rw [Int.toNat_natCast, hlt]; rfl
              clear hlt
              go_wp2_with (first | ((with_reducible show wpList _ _ _ (Oper.mk _ (Op.load 26 _) _ _ _ _ :: _) _ _); refine loadC (KS) rfl rfl rfl ?_) | ((with_reducible show wpList _ _ _ (Oper.mk _ (Op.store 26 _ _) _ _ _ _ :: _) _ _); refine storeC (K5) rfl rfl rfl rfl ?_))
              have hgr : y1.grownBy (y1.setRow bq (mk 2 (fcF (V d)))) (some bq) := grown_row K5 _
              have CM := CM.grown hgr (fun e => by cases e; omega)
              have K2 := K2.rowOther bq (mk 2 (fcF (V d))) (by omega)
              have K4 := K4.rowOther bq (mk 2 (fcF (V d))) (by omega)
              have HB : Hid (Below w.heap.size w (y1.setRow bq (mk 2 (fcF (V d))))) := below_setRow HB.out (by omega) _
              have K5 := K5.row 2 (fcF (V d))
              rw [← HN.out] at K5
              clear hgr
              rw [← HN.out] at *
              go_roundg gq2
              case rel => exact ⟨q + 1, by omega, by go_num, CM, K2, K4, K5, HB⟩
              case measure => omega
            | false =>
              have HN : Hid (mxL V (M.take (q + 1)) = mxL V (M.take q)) := by
                show _ = _; rw [HTK.out, mxL_snoc]; unfold mxS; rw [Int.toNat_natCast, hlt]; rfl
              clear hlt
              rw [← HN.out] at K5
              go_wp2_with fail
              go_roundg gq2
              case rel => exact ⟨q + 1, by omega, by go_num, CM, K2, K4, K5, HB⟩
              case measure => omega
          | succ gk2 =>
            have hk8 : (k : Int) < (n : Int) := by omega
            have hk9 : k < n := by omega
            have hk0 : (0 : Int) ≤ (k : Int) := by omega
            have HAK : Hid (mk 16 (fun j => hb (k * 16 + j)) = mk 16 (F k)) := HAT.out k hk9
            have HWT : Hid (wtI (hh (k * 4 + 3)) = wtP (psF S k)) := HWI.out k hk9
            have H5 : Hid ((5 : Int) * (n : Int) = ((5 * n : Nat) : Int)) := by show _ = _; omega
            have HPT := Lib.hid (HPO.out.part k hk9)
            have HSU := Lib.hid (HPO.out.sum k hk9)
            rw [HFK.out k] at HPT HSU
            rw [← HS0.out] at HSU
            have HPS : Hid (plusF (ptF s0 T S (5 * n) k) (partF (T (F k)) (wtP (psF S k)) (5 * n)) = ptF s0 T S (5 * n) (k + 1)) := by
              show _ = plusF _ (partF (T (plB S (psF S k))) _ _)
              rw [HFK.out k]
            have HCK := Lib.hid (fun w => show Calls Try.prog 64 #[.agg (mk 16 (F k)), .int .i64 1] w fun e w' => e = .returned (.agg (mk 2 (fcF (ScF 1 (F k))))) ∧ Below w.heap.size w w' from HCC1.out (F k) w (HVF.out k hk9))
            rw [← HTT.out] at HCK
            go_wp2_with fail
            refine wp_region_held_drew (S := fun W => CAt W gb (n * 16) hb ∧ CAt W gs (n * 4) hh) (by kernel_rfl) (⟨CB.drew, CS.drew⟩) (fun hHeld => ?_)
            have K2 := K2.drew
            have K4 := K4.drew
            have K5 := K5.drew
            have KS := KS.drew
            have CM : CAt wr.drew gm L (fun i => M.getD i 0) := CM.drew
            have CB : CAt wr.drew gb (n * 16) hb := CB.drew
            have CS : CAt wr.drew gs (n * 4) hh := CS.drew
            have HB : Hid (Below w.heap.size w wr.drew) := HB.out.drew
            clear hHeld
            generalize wr.drew = x0 at *
            have hHeld : CAt x0 gb (n * 16) hb ∧ CAt x0 gs (n * 4) hh := ⟨CB, CS⟩
            refine wpAnyH_take (i := 1) (oi := { dst := some 56, op := _, type := _, pos := _, after := _, guard := _ }) (v := .slice (some ⟨gb, 0, none⟩) n cb) rfl (by kernel_rfl) (by kernel_rfl) (by kernel_rfl) (fun _ _ _ h => h) (Or.inl ⟨by rfl, by intro w hSw; clear hSw; go_simp; (try with_reducible rfl)⟩) (by assumption) ?_
            try simp only [Act.put, List.setIfInBounds_toArray, List.set_cons_zero, List.set_cons_succ]
            refine wpAnyH_take (i := 2) (oi := { dst := some 57, op := _, type := _, pos := _, after := _, guard := _ }) (v := .int .i64 (k : Int)) rfl (by kernel_rfl) (by kernel_rfl) (by kernel_rfl) (fun _ _ _ h => h) (Or.inl ⟨by rfl, by intro w hSw; clear hSw; go_simp; (try with_reducible rfl)⟩) (by assumption) ?_
            try simp only [Act.put, List.setIfInBounds_toArray, List.set_cons_zero, List.set_cons_succ]
            refine wpAnyH_take (i := 3) (oi := { dst := some 58, op := _, type := _, pos := _, after := _, guard := _ }) (v := .pointer (some ⟨gb, k * 16, none⟩)) rfl (by kernel_rfl) (by kernel_rfl) (by kernel_rfl) (fun _ _ _ h => h) (Or.inl ⟨by rfl, by intro w hSw; clear hSw; go_simp; (try with_reducible rfl)⟩) (by assumption) ?_
            try simp only [Act.put, List.setIfInBounds_toArray, List.set_cons_zero, List.set_cons_succ]
            refine wpAnyH_take (i := 4) (oi := { dst := some 59, op := _, type := _, pos := _, after := _, guard := _ }) (v := .agg (mk 16 (F k))) rfl (by kernel_rfl) (by kernel_rfl) (by kernel_rfl) (fun _ _ _ h => h) (Or.inl ⟨by rfl, by intro W p; rw [← HAK.out]; exact execAB7 p.1 (by omega) rfl rfl⟩) (by assumption) ?_
            try simp only [Act.put, List.setIfInBounds_toArray, List.set_cons_zero, List.set_cons_succ]
            refine wpAnyH_take (i := 5) (oi := { dst := some 60, op := _, type := _, pos := _, after := _, guard := _ }) (v := .int .i64 2) rfl (by kernel_rfl) (by kernel_rfl) (by kernel_rfl) (fun _ _ _ h => h) (Or.inl ⟨by rfl, by intro w hSw; clear hSw; go_simp; (try with_reducible rfl)⟩) (by assumption) ?_
            try simp only [Act.put, List.setIfInBounds_toArray, List.set_cons_zero, List.set_cons_succ]
            refine wpAnyH_take (i := 6) (oi := { dst := some 61, op := _, type := _, pos := _, after := _, guard := _ }) (v := .int .i64 1) rfl (by kernel_rfl) (by kernel_rfl) (by kernel_rfl) (fun _ _ _ h => h) (Or.inl ⟨by rfl, by intro W q2; clear q2; go_simp; exact fit9 (a := 1) (by decide)⟩) (by assumption) ?_
            try simp only [Act.put, List.setIfInBounds_toArray, List.set_cons_zero, List.set_cons_succ]
            refine wpAnyH_take (i := 8) (oi := { dst := some 63, op := _, type := _, pos := _, after := _, guard := _ }) (v := .slice (some ⟨gs, 0, none⟩) n cs) rfl (by kernel_rfl) (by kernel_rfl) (by kernel_rfl) (fun _ _ _ h => h) (Or.inl ⟨by rfl, by intro w hSw; clear hSw; go_simp; (try with_reducible rfl)⟩) (by assumption) ?_
            try simp only [Act.put, List.setIfInBounds_toArray, List.set_cons_zero, List.set_cons_succ]
            refine wpAnyH_take (i := 9) (oi := { dst := some 64, op := _, type := _, pos := _, after := _, guard := _ }) (v := .int .i64 (k : Int)) rfl (by kernel_rfl) (by kernel_rfl) (by kernel_rfl) (fun _ _ _ h => h) (Or.inl ⟨by rfl, by intro w hSw; clear hSw; go_simp; (try with_reducible rfl)⟩) (by assumption) ?_
            try simp only [Act.put, List.setIfInBounds_toArray, List.set_cons_zero, List.set_cons_succ]
            refine wpAnyH_take (i := 10) (oi := { dst := some 65, op := _, type := _, pos := _, after := _, guard := _ }) (v := .pointer (some ⟨gs, k * 4, none⟩)) rfl (by kernel_rfl) (by kernel_rfl) (by kernel_rfl) (fun _ _ _ h => h) (Or.inl ⟨by rfl, by intro w hSw; clear hSw; go_simp; (try with_reducible rfl)⟩) (by assumption) ?_
            try simp only [Act.put, List.setIfInBounds_toArray, List.set_cons_zero, List.set_cons_succ]
            refine wpAnyH_take (i := 11) (oi := { dst := some 66, op := _, type := _, pos := _, after := _, guard := _ }) (v := .agg (mk 4 fun j => hh (k * 4 + j))) rfl (by kernel_rfl) (by kernel_rfl) (by kernel_rfl) (fun _ _ _ h => h) (Or.inl ⟨by rfl, fun _ q => execAT q.2 (by omega) rfl rfl⟩) (by assumption) ?_
            try simp only [Act.put, List.setIfInBounds_toArray, List.set_cons_zero, List.set_cons_succ]
            refine wpAnyH_take (i := 13) (oi := { dst := some 68, op := _, type := _, pos := _, after := _, guard := _ }) (v := .slice (some ⟨gs, 0, none⟩) n cs) rfl (by kernel_rfl) (by kernel_rfl) (by kernel_rfl) (fun _ _ _ h => h) (Or.inl ⟨by rfl, by intro w hSw; clear hSw; go_simp; (try with_reducible rfl)⟩) (by assumption) ?_
            try simp only [Act.put, List.setIfInBounds_toArray, List.set_cons_zero, List.set_cons_succ]
            refine wpAnyH_take (i := 14) (oi := { dst := some 69, op := _, type := _, pos := _, after := _, guard := _ }) (v := .int .i64 (n : Int)) rfl (by kernel_rfl) (by kernel_rfl) (by kernel_rfl) (fun _ _ _ h => h) (Or.inl ⟨by rfl, by intro w hSw; clear hSw; go_simp; (try with_reducible rfl)⟩) (by assumption) ?_
            try simp only [Act.put, List.setIfInBounds_toArray, List.set_cons_zero, List.set_cons_succ]
            refine wpAnyH_take (i := 15) (oi := { dst := some 70, op := _, type := _, pos := _, after := _, guard := _ }) (v := .int .i64 ((5 * n : Nat) : Int)) rfl (by kernel_rfl) (by kernel_rfl) (by kernel_rfl) (fun _ _ _ h => h) (Or.inl ⟨by rfl, by intro W q; clear q; go_simp; (try rw [H5.out]); (try exact fit9 (by omega))⟩) (by assumption) ?_
            try simp only [Act.put, List.setIfInBounds_toArray, List.set_cons_zero, List.set_cons_succ]
            refine wpAnyH_ready (rs := [0, 7]) (by kernel_rfl) (by simp) ?_
            refine AllReadyH.cons rfl (fun K hK => ?_) ?_
            · rw [if_pos (by rfl)]
              refine wp_ldC7 KS rfl rfl ?_
              refine hK.out _ _ ⟨CB, CS⟩ (fun hHeld => ?_)
              clear hK K
              try simp only [Act.put, List.setIfInBounds_toArray, List.set_cons_zero, List.set_cons_succ]
              refine wpAnyH_ready (rs := [7]) (by kernel_rfl) (by simp) ?_
              refine AllReadyH.cons rfl (fun K hK => ?_) AllReadyH.nil
              go_simp
              refine (HCK.out _).mono ?_
              rintro _ x1 ⟨rfl, hb2⟩
              have K2 := K2.below hb2 K2.lt
              have K4 := K4.below hb2 K4.lt
              have K5 := K5.below hb2 K5.lt
              have KS := KS.below hb2 KS.lt
              have CM := CM.below hb2
              have CB := CB.below hb2
              have CS := CS.below hb2
              have HB : Hid (Below w.heap.size w x1) := HB.out.trans (hb2.mono HB.out.size)
              clear hb2 hHeld
              go_wp2_with fail
              refine hK.out _ _ ⟨CB, CS⟩ (fun hHeld => ?_)
              clear hK K
              try simp only [Act.put, List.setIfInBounds_toArray, List.set_cons_zero, List.set_cons_succ]
              refine wpAnyH_ready (rs := [12]) (by kernel_rfl) (by simp) ?_
              refine AllReadyH.cons rfl (fun K hK => ?_) AllReadyH.nil
              have HWC := l9Weight_any (fun j => hh (k * 4 + j)) x1
              rw [HWT.out] at HWC
              go_simp
              refine HWC.mono ?_
              rintro _ x2 ⟨rfl, hb2⟩
              clear HWC
              have K2 := K2.below hb2 K2.lt
              have K4 := K4.below hb2 K4.lt
              have K5 := K5.below hb2 K5.lt
              have KS := KS.below hb2 KS.lt
              have CM := CM.below hb2
              have CB := CB.below hb2
              have CS := CS.below hb2
              have HB : Hid (Below w.heap.size w x2) := HB.out.trans (hb2.mono HB.out.size)
              clear hb2 hHeld
              go_wp2_with fail
              refine hK.out _ _ ⟨CB, CS⟩ (fun hHeld => ?_)
              clear hK K
              try simp only [Act.put, List.setIfInBounds_toArray, List.set_cons_zero, List.set_cons_succ]
              refine wpAnyH_ready (rs := [16]) (by kernel_rfl) (by simp) ?_
              refine AllReadyH.cons rfl (fun K hK => ?_) AllReadyH.nil
              go_simp
              refine (l9Part_any (T (F k)) (wtP (psF S k)) (5 * n) _ HPT.out.1 (by omega) HPT.out.2.1 HPT.out.2.2).mono ?_
              rintro _ x3 ⟨rfl, hb2⟩
              have K2 := K2.below hb2 K2.lt
              have K4 := K4.below hb2 K4.lt
              have K5 := K5.below hb2 K5.lt
              have KS := KS.below hb2 KS.lt
              have CM := CM.below hb2
              have CB := CB.below hb2
              have CS := CS.below hb2
              have HB : Hid (Below w.heap.size w x3) := HB.out.trans (hb2.mono HB.out.size)
              clear hb2 hHeld
              go_wp2_with fail
              refine hK.out _ _ ⟨CB, CS⟩ (fun hHeld => ?_)
              clear hK K
              try simp only [Act.put, List.setIfInBounds_toArray, List.set_cons_zero, List.set_cons_succ]
              refine wpAnyH_ready (rs := [17]) (by kernel_rfl) (by simp) ?_
              refine AllReadyH.cons rfl (fun K hK => ?_) AllReadyH.nil
              go_simp
              refine (l9Plus_any (ptF s0 T S (5 * n) k) (partF (T (F k)) (wtP (psF S k)) (5 * n)) _ HSU.out.1 HSU.out.2.1 HSU.out.2.2.1 HSU.out.2.2.2.1 HSU.out.2.2.2.2).mono ?_
              rintro _ x4 ⟨rfl, hb2⟩
              have K2 := K2.below hb2 K2.lt
              have K4 := K4.below hb2 K4.lt
              have K5 := K5.below hb2 K5.lt
              have KS := KS.below hb2 KS.lt
              have CM := CM.below hb2
              have CB := CB.below hb2
              have CS := CS.below hb2
              have HB : Hid (Below w.heap.size w x4) := HB.out.trans (hb2.mono HB.out.size)
              clear hb2 hHeld
              go_wp2_with fail
              refine hK.out _ _ ⟨CB, CS⟩ (fun hHeld => ?_)
              clear hK K
              try simp only [Act.put, List.setIfInBounds_toArray, List.set_cons_zero, List.set_cons_succ]
              refine wpAnyH_ready (rs := [18]) (by kernel_rfl) (by simp) ?_
              refine AllReadyH.cons rfl (fun K hK => ?_) AllReadyH.nil
              have st1 := run_store_blk (P := Try.prog) (g := fcF (plusF (ptF s0 T S (5 * n) k) (partF (T (F k)) (wtP (psF S k)) (5 * n)))) KS
              have ms1 : (mk 2 (fcF (plusF (ptF s0 T S (5 * n) k) (partF (T (F k)) (wtP (psF S k)) (5 * n))))).size = 2 := mk_size 2 _
              rw [HPS.out] at *
              go_simp
              clear st1 ms1 hHeld
              have hgr : x4.grownBy (x4.setRow bS (mk 2 (fcF (ptF s0 T S (5 * n) (k + 1))))) (some bS) := grown_row KS _
              have CM := CM.grown hgr (fun e => by cases e; omega)
              have CB := CB.grown hgr (fun e => by cases e; exact absurd rfl HNB.out)
              have CS := CS.grown hgr (fun e => by cases e; exact absurd rfl HNS.out)
              have K2 := K2.rowOther bS (mk 2 (fcF (ptF s0 T S (5 * n) (k + 1)))) (by omega)
              have K4 := K4.rowOther bS (mk 2 (fcF (ptF s0 T S (5 * n) (k + 1)))) (by omega)
              have K5 := K5.rowOther bS (mk 2 (fcF (ptF s0 T S (5 * n) (k + 1)))) (by omega)
              have HB : Hid (Below w.heap.size w (x4.setRow bS (mk 2 (fcF (ptF s0 T S (5 * n) (k + 1)))))) := below_setRow HB.out (by omega) _
              have KS := KS.row 2 (fcF (ptF s0 T S (5 * n) (k + 1)))
              clear hgr
              generalize x4.setRow bS (mk 2 (fcF (ptF s0 T S (5 * n) (k + 1)))) = x5 at *
              refine hK.out _ _ ⟨CB, CS⟩ (fun hHeld => ?_)
              clear hK K
              try simp only [Act.put, List.setIfInBounds_toArray, List.set_cons_zero, List.set_cons_succ]
              refine wpAnyH_done (by kernel_rfl) ?_ _
              clear hHeld
              go_wp2_with fail
              go_roundg gk2
              case rel => exact ⟨k + 1, by omega, by go_num, CM, CB, CS, K2, K4, K5, KS, HB⟩
              case measure => omega
            refine AllReadyH.cons rfl (fun K hK => ?_) AllReadyH.nil
            go_simp
            refine (HCK.out _).mono ?_
            rintro _ x6 ⟨rfl, hb2⟩
            have K2 := K2.below hb2 K2.lt
            have K4 := K4.below hb2 K4.lt
            have K5 := K5.below hb2 K5.lt
            have KS := KS.below hb2 KS.lt
            have CM := CM.below hb2
            have CB := CB.below hb2
            have CS := CS.below hb2
            have HB : Hid (Below w.heap.size w x6) := HB.out.trans (hb2.mono HB.out.size)
            clear hb2 hHeld
            go_wp2_with fail
            refine hK.out _ _ ⟨CB, CS⟩ (fun hHeld => ?_)
            clear hK K
            try simp only [Act.put, List.setIfInBounds_toArray, List.set_cons_zero, List.set_cons_succ]
            refine wpAnyH_ready (rs := [0, 12]) (by kernel_rfl) (by simp) ?_
            refine AllReadyH.cons rfl (fun K hK => ?_) ?_
            · rw [if_pos (by rfl)]
              refine wp_ldC7 KS rfl rfl ?_
              refine hK.out _ _ ⟨CB, CS⟩ (fun hHeld => ?_)
              clear hK K
              try simp only [Act.put, List.setIfInBounds_toArray, List.set_cons_zero, List.set_cons_succ]
              refine wpAnyH_ready (rs := [12]) (by kernel_rfl) (by simp) ?_
              refine AllReadyH.cons rfl (fun K hK => ?_) AllReadyH.nil
              have HWC := l9Weight_any (fun j => hh (k * 4 + j)) x6
              rw [HWT.out] at HWC
              go_simp
              refine HWC.mono ?_
              rintro _ x7 ⟨rfl, hb2⟩
              clear HWC
              have K2 := K2.below hb2 K2.lt
              have K4 := K4.below hb2 K4.lt
              have K5 := K5.below hb2 K5.lt
              have KS := KS.below hb2 KS.lt
              have CM := CM.below hb2
              have CB := CB.below hb2
              have CS := CS.below hb2
              have HB : Hid (Below w.heap.size w x7) := HB.out.trans (hb2.mono HB.out.size)
              clear hb2 hHeld
              go_wp2_with fail
              refine hK.out _ _ ⟨CB, CS⟩ (fun hHeld => ?_)
              clear hK K
              try simp only [Act.put, List.setIfInBounds_toArray, List.set_cons_zero, List.set_cons_succ]
              refine wpAnyH_ready (rs := [16]) (by kernel_rfl) (by simp) ?_
              refine AllReadyH.cons rfl (fun K hK => ?_) AllReadyH.nil
              go_simp
              refine (l9Part_any (T (F k)) (wtP (psF S k)) (5 * n) _ HPT.out.1 (by omega) HPT.out.2.1 HPT.out.2.2).mono ?_
              rintro _ x8 ⟨rfl, hb2⟩
              have K2 := K2.below hb2 K2.lt
              have K4 := K4.below hb2 K4.lt
              have K5 := K5.below hb2 K5.lt
              have KS := KS.below hb2 KS.lt
              have CM := CM.below hb2
              have CB := CB.below hb2
              have CS := CS.below hb2
              have HB : Hid (Below w.heap.size w x8) := HB.out.trans (hb2.mono HB.out.size)
              clear hb2 hHeld
              go_wp2_with fail
              refine hK.out _ _ ⟨CB, CS⟩ (fun hHeld => ?_)
              clear hK K
              try simp only [Act.put, List.setIfInBounds_toArray, List.set_cons_zero, List.set_cons_succ]
              refine wpAnyH_ready (rs := [17]) (by kernel_rfl) (by simp) ?_
              refine AllReadyH.cons rfl (fun K hK => ?_) AllReadyH.nil
              go_simp
              refine (l9Plus_any (ptF s0 T S (5 * n) k) (partF (T (F k)) (wtP (psF S k)) (5 * n)) _ HSU.out.1 HSU.out.2.1 HSU.out.2.2.1 HSU.out.2.2.2.1 HSU.out.2.2.2.2).mono ?_
              rintro _ x9 ⟨rfl, hb2⟩
              have K2 := K2.below hb2 K2.lt
              have K4 := K4.below hb2 K4.lt
              have K5 := K5.below hb2 K5.lt
              have KS := KS.below hb2 KS.lt
              have CM := CM.below hb2
              have CB := CB.below hb2
              have CS := CS.below hb2
              have HB : Hid (Below w.heap.size w x9) := HB.out.trans (hb2.mono HB.out.size)
              clear hb2 hHeld
              go_wp2_with fail
              refine hK.out _ _ ⟨CB, CS⟩ (fun hHeld => ?_)
              clear hK K
              try simp only [Act.put, List.setIfInBounds_toArray, List.set_cons_zero, List.set_cons_succ]
              refine wpAnyH_ready (rs := [18]) (by kernel_rfl) (by simp) ?_
              refine AllReadyH.cons rfl (fun K hK => ?_) AllReadyH.nil
              have st1 := run_store_blk (P := Try.prog) (g := fcF (plusF (ptF s0 T S (5 * n) k) (partF (T (F k)) (wtP (psF S k)) (5 * n)))) KS
              have ms1 : (mk 2 (fcF (plusF (ptF s0 T S (5 * n) k) (partF (T (F k)) (wtP (psF S k)) (5 * n))))).size = 2 := mk_size 2 _
              rw [HPS.out] at *
              go_simp
              clear st1 ms1 hHeld
              have hgr : x9.grownBy (x9.setRow bS (mk 2 (fcF (ptF s0 T S (5 * n) (k + 1))))) (some bS) := grown_row KS _
              have CM := CM.grown hgr (fun e => by cases e; omega)
              have CB := CB.grown hgr (fun e => by cases e; exact absurd rfl HNB.out)
              have CS := CS.grown hgr (fun e => by cases e; exact absurd rfl HNS.out)
              have K2 := K2.rowOther bS (mk 2 (fcF (ptF s0 T S (5 * n) (k + 1)))) (by omega)
              have K4 := K4.rowOther bS (mk 2 (fcF (ptF s0 T S (5 * n) (k + 1)))) (by omega)
              have K5 := K5.rowOther bS (mk 2 (fcF (ptF s0 T S (5 * n) (k + 1)))) (by omega)
              have HB : Hid (Below w.heap.size w (x9.setRow bS (mk 2 (fcF (ptF s0 T S (5 * n) (k + 1)))))) := below_setRow HB.out (by omega) _
              have KS := KS.row 2 (fcF (ptF s0 T S (5 * n) (k + 1)))
              clear hgr
              generalize x9.setRow bS (mk 2 (fcF (ptF s0 T S (5 * n) (k + 1)))) = x10 at *
              refine hK.out _ _ ⟨CB, CS⟩ (fun hHeld => ?_)
              clear hK K
              try simp only [Act.put, List.setIfInBounds_toArray, List.set_cons_zero, List.set_cons_succ]
              refine wpAnyH_done (by kernel_rfl) ?_ _
              clear hHeld
              go_wp2_with fail
              go_roundg gk2
              case rel => exact ⟨k + 1, by omega, by go_num, CM, CB, CS, K2, K4, K5, KS, HB⟩
              case measure => omega
            refine AllReadyH.cons rfl (fun K hK => ?_) AllReadyH.nil
            have HWC := l9Weight_any (fun j => hh (k * 4 + j)) x6
            rw [HWT.out] at HWC
            go_simp
            refine HWC.mono ?_
            rintro _ x11 ⟨rfl, hb2⟩
            clear HWC
            have K2 := K2.below hb2 K2.lt
            have K4 := K4.below hb2 K4.lt
            have K5 := K5.below hb2 K5.lt
            have KS := KS.below hb2 KS.lt
            have CM := CM.below hb2
            have CB := CB.below hb2
            have CS := CS.below hb2
            have HB : Hid (Below w.heap.size w x11) := HB.out.trans (hb2.mono HB.out.size)
            clear hb2 hHeld
            go_wp2_with fail
            refine hK.out _ _ ⟨CB, CS⟩ (fun hHeld => ?_)
            clear hK K
            try simp only [Act.put, List.setIfInBounds_toArray, List.set_cons_zero, List.set_cons_succ]
            refine wpAnyH_ready (rs := [0, 16]) (by kernel_rfl) (by simp) ?_
            refine AllReadyH.cons rfl (fun K hK => ?_) ?_
            · rw [if_pos (by rfl)]
              refine wp_ldC7 KS rfl rfl ?_
              refine hK.out _ _ ⟨CB, CS⟩ (fun hHeld => ?_)
              clear hK K
              try simp only [Act.put, List.setIfInBounds_toArray, List.set_cons_zero, List.set_cons_succ]
              refine wpAnyH_ready (rs := [16]) (by kernel_rfl) (by simp) ?_
              refine AllReadyH.cons rfl (fun K hK => ?_) AllReadyH.nil
              go_simp
              refine (l9Part_any (T (F k)) (wtP (psF S k)) (5 * n) _ HPT.out.1 (by omega) HPT.out.2.1 HPT.out.2.2).mono ?_
              rintro _ x12 ⟨rfl, hb2⟩
              have K2 := K2.below hb2 K2.lt
              have K4 := K4.below hb2 K4.lt
              have K5 := K5.below hb2 K5.lt
              have KS := KS.below hb2 KS.lt
              have CM := CM.below hb2
              have CB := CB.below hb2
              have CS := CS.below hb2
              have HB : Hid (Below w.heap.size w x12) := HB.out.trans (hb2.mono HB.out.size)
              clear hb2 hHeld
              go_wp2_with fail
              refine hK.out _ _ ⟨CB, CS⟩ (fun hHeld => ?_)
              clear hK K
              try simp only [Act.put, List.setIfInBounds_toArray, List.set_cons_zero, List.set_cons_succ]
              refine wpAnyH_ready (rs := [17]) (by kernel_rfl) (by simp) ?_
              refine AllReadyH.cons rfl (fun K hK => ?_) AllReadyH.nil
              go_simp
              refine (l9Plus_any (ptF s0 T S (5 * n) k) (partF (T (F k)) (wtP (psF S k)) (5 * n)) _ HSU.out.1 HSU.out.2.1 HSU.out.2.2.1 HSU.out.2.2.2.1 HSU.out.2.2.2.2).mono ?_
              rintro _ x13 ⟨rfl, hb2⟩
              have K2 := K2.below hb2 K2.lt
              have K4 := K4.below hb2 K4.lt
              have K5 := K5.below hb2 K5.lt
              have KS := KS.below hb2 KS.lt
              have CM := CM.below hb2
              have CB := CB.below hb2
              have CS := CS.below hb2
              have HB : Hid (Below w.heap.size w x13) := HB.out.trans (hb2.mono HB.out.size)
              clear hb2 hHeld
              go_wp2_with fail
              refine hK.out _ _ ⟨CB, CS⟩ (fun hHeld => ?_)
              clear hK K
              try simp only [Act.put, List.setIfInBounds_toArray, List.set_cons_zero, List.set_cons_succ]
              refine wpAnyH_ready (rs := [18]) (by kernel_rfl) (by simp) ?_
              refine AllReadyH.cons rfl (fun K hK => ?_) AllReadyH.nil
              have st1 := run_store_blk (P := Try.prog) (g := fcF (plusF (ptF s0 T S (5 * n) k) (partF (T (F k)) (wtP (psF S k)) (5 * n)))) KS
              have ms1 : (mk 2 (fcF (plusF (ptF s0 T S (5 * n) k) (partF (T (F k)) (wtP (psF S k)) (5 * n))))).size = 2 := mk_size 2 _
              rw [HPS.out] at *
              go_simp
              clear st1 ms1 hHeld
              have hgr : x13.grownBy (x13.setRow bS (mk 2 (fcF (ptF s0 T S (5 * n) (k + 1))))) (some bS) := grown_row KS _
              have CM := CM.grown hgr (fun e => by cases e; omega)
              have CB := CB.grown hgr (fun e => by cases e; exact absurd rfl HNB.out)
              have CS := CS.grown hgr (fun e => by cases e; exact absurd rfl HNS.out)
              have K2 := K2.rowOther bS (mk 2 (fcF (ptF s0 T S (5 * n) (k + 1)))) (by omega)
              have K4 := K4.rowOther bS (mk 2 (fcF (ptF s0 T S (5 * n) (k + 1)))) (by omega)
              have K5 := K5.rowOther bS (mk 2 (fcF (ptF s0 T S (5 * n) (k + 1)))) (by omega)
              have HB : Hid (Below w.heap.size w (x13.setRow bS (mk 2 (fcF (ptF s0 T S (5 * n) (k + 1)))))) := below_setRow HB.out (by omega) _
              have KS := KS.row 2 (fcF (ptF s0 T S (5 * n) (k + 1)))
              clear hgr
              generalize x13.setRow bS (mk 2 (fcF (ptF s0 T S (5 * n) (k + 1)))) = x14 at *
              refine hK.out _ _ ⟨CB, CS⟩ (fun hHeld => ?_)
              clear hK K
              try simp only [Act.put, List.setIfInBounds_toArray, List.set_cons_zero, List.set_cons_succ]
              refine wpAnyH_done (by kernel_rfl) ?_ _
              clear hHeld
              go_wp2_with fail
              go_roundg gk2
              case rel => exact ⟨k + 1, by omega, by go_num, CM, CB, CS, K2, K4, K5, KS, HB⟩
              case measure => omega
            refine AllReadyH.cons rfl (fun K hK => ?_) AllReadyH.nil
            go_simp
            refine (l9Part_any (T (F k)) (wtP (psF S k)) (5 * n) _ HPT.out.1 (by omega) HPT.out.2.1 HPT.out.2.2).mono ?_
            rintro _ x15 ⟨rfl, hb2⟩
            have K2 := K2.below hb2 K2.lt
            have K4 := K4.below hb2 K4.lt
            have K5 := K5.below hb2 K5.lt
            have KS := KS.below hb2 KS.lt
            have CM := CM.below hb2
            have CB := CB.below hb2
            have CS := CS.below hb2
            have HB : Hid (Below w.heap.size w x15) := HB.out.trans (hb2.mono HB.out.size)
            clear hb2 hHeld
            go_wp2_with fail
            refine hK.out _ _ ⟨CB, CS⟩ (fun hHeld => ?_)
            clear hK K
            try simp only [Act.put, List.setIfInBounds_toArray, List.set_cons_zero, List.set_cons_succ]
            refine wpAnyH_ready (rs := [0]) (by kernel_rfl) (by simp) ?_
            refine AllReadyH.cons rfl (fun K hK => ?_) AllReadyH.nil
            rw [if_pos (by rfl)]
            refine wp_ldC7 KS rfl rfl ?_
            refine hK.out _ _ ⟨CB, CS⟩ (fun hHeld => ?_)
            clear hK K
            try simp only [Act.put, List.setIfInBounds_toArray, List.set_cons_zero, List.set_cons_succ]
            refine wpAnyH_ready (rs := [17]) (by kernel_rfl) (by simp) ?_
            refine AllReadyH.cons rfl (fun K hK => ?_) AllReadyH.nil
            go_simp
            refine (l9Plus_any (ptF s0 T S (5 * n) k) (partF (T (F k)) (wtP (psF S k)) (5 * n)) _ HSU.out.1 HSU.out.2.1 HSU.out.2.2.1 HSU.out.2.2.2.1 HSU.out.2.2.2.2).mono ?_
            rintro _ x16 ⟨rfl, hb2⟩
            have K2 := K2.below hb2 K2.lt
            have K4 := K4.below hb2 K4.lt
            have K5 := K5.below hb2 K5.lt
            have KS := KS.below hb2 KS.lt
            have CM := CM.below hb2
            have CB := CB.below hb2
            have CS := CS.below hb2
            have HB : Hid (Below w.heap.size w x16) := HB.out.trans (hb2.mono HB.out.size)
            clear hb2 hHeld
            go_wp2_with fail
            refine hK.out _ _ ⟨CB, CS⟩ (fun hHeld => ?_)
            clear hK K
            try simp only [Act.put, List.setIfInBounds_toArray, List.set_cons_zero, List.set_cons_succ]
            refine wpAnyH_ready (rs := [18]) (by kernel_rfl) (by simp) ?_
            refine AllReadyH.cons rfl (fun K hK => ?_) AllReadyH.nil
            have st1 := run_store_blk (P := Try.prog) (g := fcF (plusF (ptF s0 T S (5 * n) k) (partF (T (F k)) (wtP (psF S k)) (5 * n)))) KS
            have ms1 : (mk 2 (fcF (plusF (ptF s0 T S (5 * n) k) (partF (T (F k)) (wtP (psF S k)) (5 * n))))).size = 2 := mk_size 2 _
            rw [HPS.out] at *
            go_simp
            clear st1 ms1 hHeld
            have hgr : x16.grownBy (x16.setRow bS (mk 2 (fcF (ptF s0 T S (5 * n) (k + 1))))) (some bS) := grown_row KS _
            have CM := CM.grown hgr (fun e => by cases e; omega)
            have CB := CB.grown hgr (fun e => by cases e; exact absurd rfl HNB.out)
            have CS := CS.grown hgr (fun e => by cases e; exact absurd rfl HNS.out)
            have K2 := K2.rowOther bS (mk 2 (fcF (ptF s0 T S (5 * n) (k + 1)))) (by omega)
            have K4 := K4.rowOther bS (mk 2 (fcF (ptF s0 T S (5 * n) (k + 1)))) (by omega)
            have K5 := K5.rowOther bS (mk 2 (fcF (ptF s0 T S (5 * n) (k + 1)))) (by omega)
            have HB : Hid (Below w.heap.size w (x16.setRow bS (mk 2 (fcF (ptF s0 T S (5 * n) (k + 1)))))) := below_setRow HB.out (by omega) _
            have KS := KS.row 2 (fcF (ptF s0 T S (5 * n) (k + 1)))
            clear hgr
            generalize x16.setRow bS (mk 2 (fcF (ptF s0 T S (5 * n) (k + 1)))) = x17 at *
            refine hK.out _ _ ⟨CB, CS⟩ (fun hHeld => ?_)
            clear hK K
            try simp only [Act.put, List.setIfInBounds_toArray, List.set_cons_zero, List.set_cons_succ]
            refine wpAnyH_done (by kernel_rfl) ?_ _
            clear hHeld
            go_wp2_with fail
            go_roundg gk2
            case rel => exact ⟨k + 1, by omega, by go_num, CM, CB, CS, K2, K4, K5, KS, HB⟩
            case measure => omega
      refine AllReadyH.cons rfl (fun K hK => ?_) AllReadyH.nil
      go_simp
      clear hHeld
      have hl4 : w.heap.size + 1 < x0.heap.size := K4.lt
      have hl5 : bq < x0.heap.size := K5.lt
      have hl6 : gm < x0.heap.size := CM.1
      have KN := Blk.new x0 16 (fun _ => 0) 29
      have K2 := K2.alloc (.cells (mk 16 fun _ => 0) 29)
      have K4 := K4.alloc (.cells (mk 16 fun _ => 0) 29)
      have K5 := K5.alloc (.cells (mk 16 fun _ => 0) 29)
      have CM := CM.alloc (.cells (mk 16 fun _ => 0) 29)
      have HB : Hid (Below w.heap.size w (x0.alloc (.cells (mk 16 fun _ => 0) 29))) := HB.out.alloc HB.out.size _
      generalize x0.alloc (.cells (mk 16 fun _ => 0) 29) = x1 at *
      generalize x0.heap.size = bN at *
      refine hK.out _ _ (⟨K2, CM⟩) (fun hHeld => ?_)
      clear hK K
      try simp only [Act.put, List.setIfInBounds_toArray, List.set_cons_zero, List.set_cons_succ]
      refine wpAnyH_ready (rs := [5]) (by kernel_rfl) (by simp) ?_
      refine AllReadyH.cons rfl (fun K hK => ?_) AllReadyH.nil
      go_simp
      refine (HSL.out _).mono ?_
      rintro _ x2 ⟨rfl, hb⟩
      have K2 := K2.below hb K2.lt
      have K4 := K4.below hb K4.lt
      have K5 := K5.below hb K5.lt
      have KN := KN.below hb KN.lt
      have CM := CM.below hb
      have HB : Hid (Below w.heap.size w x2) := HB.out.trans (hb.mono HB.out.size)
      clear hb hHeld
      go_wp2_with fail
      refine hK.out _ _ (⟨K2, CM⟩) (fun hHeld => ?_)
      clear hK K
      try simp only [Act.put, List.setIfInBounds_toArray, List.set_cons_zero, List.set_cons_succ]
      refine wpAnyH_take (i := 6) (oi := { dst := some 27, op := _, type := _, pos := _, after := _, guard := _ }) (v := .tuple #[.agg (mk 16 SB), .int .i64 sc]) rfl (by kernel_rfl) (by kernel_rfl) (by kernel_rfl) (fun _ _ _ h => h) (Or.inl ⟨by rfl, by intro w hSw; clear hSw; go_simp; (try with_reducible rfl)⟩) (by assumption) ?_
      try simp only [Act.put, List.setIfInBounds_toArray, List.set_cons_zero, List.set_cons_succ]
      refine wpAnyH_take (i := 7) (oi := { dst := some 34, op := _, type := _, pos := _, after := _, guard := _ }) (v := .agg (mk 16 SB)) rfl (by kernel_rfl) (by kernel_rfl) (by kernel_rfl) (fun _ _ _ h => h) (Or.inl ⟨by rfl, by intro w hSw; clear hSw; go_simp; (try with_reducible rfl)⟩) (by assumption) ?_
      try simp only [Act.put, List.setIfInBounds_toArray, List.set_cons_zero, List.set_cons_succ]
      refine wpAnyH_take (i := 8) (oi := { dst := some 35, op := _, type := _, pos := _, after := _, guard := _ }) (v := .int .i64 sc) rfl (by kernel_rfl) (by kernel_rfl) (by kernel_rfl) (fun _ _ _ h => h) (Or.inl ⟨by rfl, by intro w hSw; clear hSw; go_simp; (try with_reducible rfl)⟩) (by assumption) ?_
      try simp only [Act.put, List.setIfInBounds_toArray, List.set_cons_zero, List.set_cons_succ]
      refine wpAnyH_ready (rs := [10]) (by kernel_rfl) (by simp) ?_
      refine AllReadyH.cons rfl (fun K hK => ?_) AllReadyH.nil
      have st1 := run_store_blk (P := Try.prog) (g := SB) KN
      have ms1 : (mk 16 SB).size = 16 := mk_size 16 _
      go_simp
      clear st1 ms1 hHeld
      have hgr : x2.grownBy (x2.setRow bN (mk 16 SB)) (some bN) := grown_row KN _
      have CM := CM.grown hgr (fun e => by cases e; omega)
      have K2 := K2.rowOther bN (mk 16 SB) (by omega)
      have K4 := K4.rowOther bN (mk 16 SB) (by omega)
      have K5 := K5.rowOther bN (mk 16 SB) (by omega)
      have HB : Hid (Below w.heap.size w (x2.setRow bN (mk 16 SB))) := below_setRow HB.out (by omega) _
      clear hgr KN
      generalize x2.setRow bN (mk 16 SB) = x3 at *
      refine hK.out _ _ (⟨K2, CM⟩) (fun hHeld => ?_)
      clear hK K
      try simp only [Act.put, List.setIfInBounds_toArray, List.set_cons_zero, List.set_cons_succ]
      refine wpAnyH_take (i := 11) (oi := { dst := some 9, op := _, type := _, pos := _, after := _, guard := _ }) (v := .int .i64 sc) rfl (by kernel_rfl) (by kernel_rfl) (by kernel_rfl) (fun _ _ _ h => h) (Or.inl ⟨by rfl, by intro w hSw; clear hSw; go_simp; (try with_reducible rfl)⟩) (by assumption) ?_
      try simp only [Act.put, List.setIfInBounds_toArray, List.set_cons_zero, List.set_cons_succ]
      refine wpAnyH_done (by kernel_rfl) ?_ _
      clear hHeld
      have hlS4 : w.heap.size + 1 < x3.heap.size := K4.lt
      have hlS5 : bq < x3.heap.size := K5.lt
      have hlS6 : gm < x3.heap.size := CM.1
      have K2 := K2.alloc (.cells (mk 2 (two sc 1)) 26)
      have K4 := K4.alloc (.cells (mk 2 (two sc 1)) 26)
      have K5 := K5.alloc (.cells (mk 2 (two sc 1)) 26)
      have CM := CM.alloc (.cells (mk 2 (two sc 1)) 26)
      have KS : Blk (x3.alloc (.cells (mk 2 (two sc 1)) 26)) x3.heap.size 2 (fcF (sn, 1)) 26 := by
        have := Blk.new x3 2 (two sc 1) 26
        rw [HSN.out] at *
        exact this
      have HB : Hid (Below w.heap.size w (x3.alloc (.cells (mk 2 (two sc 1)) 26))) := HB.out.alloc HB.out.size _
      have hbS1 : w.heap.size + 1 < x3.heap.size := hlS4
      go_wp2_with (first | ((with_reducible show wpList _ _ _ (Oper.mk _ (Op.store 26 _ _) _ _ _ _ :: _) _ _); refine storeC (g := two _ _) (Blk.new _ _ _ _) rfl rfl rfl rfl ?_; rw [World.setRow_alloc_new]))
      generalize x3.alloc (.cells (mk 2 (two sc 1)) 26) = z0 at *
      generalize x3.heap.size = bS at *
      refine wp_region_held_drew (S := fun W => Blk W w.heap.size 16 f 29 ∧ CAt W gm L (fun i => M.getD i 0)) (by kernel_rfl) (⟨K2.drew, CM.drew⟩) (fun hHeld => ?_)
      have K2 := K2.drew
      have K4 := K4.drew
      have K5 := K5.drew
      have KS := KS.drew
      have CM : CAt z0.drew gm L (fun i => M.getD i 0) := CM.drew
      have HB : Hid (Below w.heap.size w z0.drew) := HB.out.drew
      clear hHeld
      generalize z0.drew = z1 at *
      have hHeld : Blk z1 w.heap.size 16 f 29 ∧ CAt z1 gm L (fun i => M.getD i 0) := ⟨K2, CM⟩
      refine wpAnyH_take (i := 0) (oi := { dst := some 40, op := _, type := _, pos := _, after := _, guard := _ }) (v := .agg (mk 16 f)) rfl (by kernel_rfl) (by kernel_rfl) (by kernel_rfl) (fun _ _ _ h => h) (Or.inl ⟨by rfl, fun _ q => execB7 q.1 rfl rfl⟩) (by assumption) ?_
      try simp only [Act.put, List.setIfInBounds_toArray, List.set_cons_zero, List.set_cons_succ]
      refine wpAnyH_take (i := 1) (oi := { dst := some 41, op := _, type := _, pos := _, after := _, guard := _ }) (v := .slice (some ⟨gm, 0, none⟩) L cm) rfl (by kernel_rfl) (by kernel_rfl) (by kernel_rfl) (fun _ _ _ h => h) (Or.inl ⟨by rfl, by intro w hSw; clear hSw; go_simp; (try with_reducible rfl)⟩) (by assumption) ?_
      try simp only [Act.put, List.setIfInBounds_toArray, List.set_cons_zero, List.set_cons_succ]
      refine wpAnyH_take (i := 2) (oi := { dst := some 42, op := _, type := _, pos := _, after := _, guard := _ }) (v := .int .i64 (q : Int)) rfl (by kernel_rfl) (by kernel_rfl) (by kernel_rfl) (fun _ _ _ h => h) (Or.inl ⟨by rfl, by intro w hSw; clear hSw; go_simp; (try with_reducible rfl)⟩) (by assumption) ?_
      try simp only [Act.put, List.setIfInBounds_toArray, List.set_cons_zero, List.set_cons_succ]
      refine wpAnyH_take (i := 3) (oi := { dst := some 43, op := _, type := _, pos := _, after := _, guard := _ }) (v := .pointer (some ⟨gm, q, none⟩)) rfl (by kernel_rfl) (by kernel_rfl) (by kernel_rfl) (fun _ _ _ h => h) (Or.inl ⟨by rfl, by intro w hSw; clear hSw; go_simp; (try with_reducible rfl)⟩) (by assumption) ?_
      try simp only [Act.put, List.setIfInBounds_toArray, List.set_cons_zero, List.set_cons_succ]
      refine wpAnyH_take (i := 4) (oi := { dst := some 44, op := _, type := _, pos := _, after := _, guard := _ }) (v := .int .i64 (d : Int)) rfl (by kernel_rfl) (by kernel_rfl) (by kernel_rfl) (fun _ _ _ h => h) (Or.inl ⟨by rfl, by intro W q2; have c0 : W.cell? ⟨gm, q, none⟩ = some (.int .i64 (M.getD q 0)) := q2.2.2 q hq9; rw [HGD.out] at c0; clear q2; go_simp⟩) (by assumption) ?_
      try simp only [Act.put, List.setIfInBounds_toArray, List.set_cons_zero, List.set_cons_succ]
      refine wpAnyH_ready (rs := [5]) (by kernel_rfl) (by simp) ?_
      refine AllReadyH.cons rfl (fun K hK => ?_) AllReadyH.nil
      go_simp
      refine (HST.out _).mono ?_
      rintro _ z2 ⟨gs, cs, rfl, hs, hb⟩
      have CS : CAt z2 gs ((stepL f d).length * 4) (flatF (stepL f d)) := by
        obtain ⟨_, _, e1, _, hc⟩ := KRow.of_list HSA.out hs
        cases e1
        exact hc
      have hgsS : bS < gs := by have h1 := (hs.lt gs rfl).1; have h2 := KS.lt; omega
      have K2 := K2.below hb K2.lt
      have K4 := K4.below hb K4.lt
      have K5 := K5.below hb K5.lt
      have KS := KS.below hb KS.lt
      have CM := CM.below hb
      have HB : Hid (Below w.heap.size w z2) := HB.out.trans (hb.mono HB.out.size)
      clear hb hs hHeld
      go_wp2_with fail
      refine hK.out _ _ ⟨K2, CM⟩ (fun hHeld => ?_)
      clear hK K
      try simp only [Act.put, List.setIfInBounds_toArray, List.set_cons_zero, List.set_cons_succ]
      refine wpAnyH_take (i := 6) (oi := { dst := some 11, op := _, type := _, pos := _, after := _, guard := _ }) (v := .slice (some ⟨gs, 0, none⟩) (stepL f d).length cs) rfl (by kernel_rfl) (by kernel_rfl) (by kernel_rfl) (fun _ _ _ h => h) (Or.inl ⟨by rfl, by intro w hSw; clear hSw; go_simp; (try with_reducible rfl)⟩) (by assumption) ?_
      try simp only [Act.put, List.setIfInBounds_toArray, List.set_cons_zero, List.set_cons_succ]
      refine wpAnyH_done (by kernel_rfl) ?_ _
      clear hHeld
      generalize hNN : (stepL f d).length = n at *
      generalize hHH : flatF (stepL f d) = hh at *
      go_wp2_with ((with_reducible show wpList _ _ _ (Oper.mk _ (Op.load 29 _) _ _ _ _ :: _) _ _); refine loadB (K2) rfl rfl rfl ?_)
      refine (l9Boards_any f gs cs n hh F _ HV.out CS hn2 HF.out).mono ?_
      rintro _ z3 ⟨gb, cb, rfl, hbo, hb⟩
      have hgbS : bS < gb := by have h1 := (hbo.lt gb rfl).1; have h2 := KS.lt; omega
      have CB := bd_mem7 hbo
      have K2 := K2.below hb K2.lt
      have K4 := K4.below hb K4.lt
      have K5 := K5.below hb K5.lt
      have KS := KS.below hb KS.lt
      have CM := CM.below hb
      have CS := CS.below hb
      have HB : Hid (Below w.heap.size w z3) := HB.out.trans (hb.mono HB.out.size)
      have HNB : Hid (gb ≠ bS) := by show _ ≠ _; omega
      have HNS : Hid (gs ≠ bS) := by show _ ≠ _; omega
      rw [← HS0.out] at KS
      have KS : Blk z3 bS 2 (fcF (ptF s0 T S (5 * n) 0)) 26 := KS
      clear hb hbo
      have HAT : Hid (∀ k, k < n → mk 16 (fun j => flatF (bdL F n) (k * 16 + j)) = mk 16 (F k)) := fun k hk => by
        rw [flatF_mk (bdL_all F n) (bdL_at F hk)]
        exact mk_congr fun i hi => fn_cl _ i hi
      generalize flatF (bdL F n) = hb at *
      go_wp2_with fail
      go_loopg [13] n (fun gk sI wr => ∃ (k : Nat), k + gk = n ∧ sI = .int .i64 k ∧ CAt wr gm L (fun i => M.getD i 0) ∧ CAt wr gb (n * 16) hb ∧ CAt wr gs (n * 4) hh ∧ Blk wr w.heap.size 16 f 29 ∧ Blk wr (w.heap.size + 1) 2 (fun _ => 0) 26 ∧ Blk wr bq 2 (fcF (mxL V (M.take q))) 26 ∧ Blk wr bS 2 (fcF (ptF s0 T S (5 * n) k)) 26 ∧ Hid (Below w.heap.size w wr))
      case atStart => exact ⟨0, by omega, rfl, CM, CB, CS, K2, K4, K5, KS, HB⟩
      case round =>
        obtain ⟨k, hkg, rfl, CM, CB, CS, K2, K4, K5, KS, HB⟩ := hrel
        cases gk with
        | zero =>
          have hk : ¬ ((k : Int) < (n : Int)) := by omega
          obtain rfl : k = n := by omega
          clear hkg
          rw [HMN.out] at KS
          go_wp2_with (first | ((with_reducible show wpList _ _ _ (Oper.mk _ (Op.load 26 _) _ _ _ _ :: _) _ _); refine loadC (K5) rfl rfl rfl ?_) | ((with_reducible show wpList _ _ _ (Oper.mk _ (Op.load 26 _) _ _ _ _ :: _) _ _); refine loadC (KS) rfl rfl rfl ?_))
          refine (HLS.out _).mono ?_
          rintro _ y1 ⟨rfl, hb⟩
          have K2 := K2.below hb K2.lt
          have K4 := K4.below hb K4.lt
          have K5 := K5.below hb K5.lt
          have KS := KS.below hb KS.lt
          have CM := CM.below hb
          have HB : Hid (Below w.heap.size w y1) := HB.out.trans (hb.mono HB.out.size)
          clear hb
          cases hlt : ltF (mxL V (M.take q)) (V d) with
          | true =>
            have HN : Hid (mxL V (M.take (q + 1)) = V d) := by
              show _ = _; rw [HTK.out, mxL_snoc]; unfold mxS; rw [Int.toNat_natCast, hlt]; rfl
            clear hlt
            go_wp2_with (first | ((with_reducible show wpList _ _ _ (Oper.mk _ (Op.load 26 _) _ _ _ _ :: _) _ _); refine loadC (KS) rfl rfl rfl ?_) | ((with_reducible show wpList _ _ _ (Oper.mk _ (Op.store 26 _ _) _ _ _ _ :: _) _ _); refine storeC (K5) rfl rfl rfl rfl ?_))
            have hgr : y1.grownBy (y1.setRow bq (mk 2 (fcF (V d)))) (some bq) := grown_row K5 _
            have CM := CM.grown hgr (fun e => by cases e; omega)
            have K2 := K2.rowOther bq (mk 2 (fcF (V d))) (by omega)
            have K4 := K4.rowOther bq (mk 2 (fcF (V d))) (by omega)
            have HB : Hid (Below w.heap.size w (y1.setRow bq (mk 2 (fcF (V d))))) := below_setRow HB.out (by omega) _
            have K5 := K5.row 2 (fcF (V d))
            rw [← HN.out] at K5
            clear hgr
            rw [← HN.out] at *
            go_roundg gq2
            case rel => exact ⟨q + 1, by omega, by go_num, CM, K2, K4, K5, HB⟩
            case measure => omega
          | false =>
            have HN : Hid (mxL V (M.take (q + 1)) = mxL V (M.take q)) := by
              show _ = _; rw [HTK.out, mxL_snoc]; unfold mxS; rw [Int.toNat_natCast, hlt]; rfl
            clear hlt
            rw [← HN.out] at K5
            go_wp2_with fail
            go_roundg gq2
            case rel => exact ⟨q + 1, by omega, by go_num, CM, K2, K4, K5, HB⟩
            case measure => omega
        | succ gk2 =>
          have hk8 : (k : Int) < (n : Int) := by omega
          have hk9 : k < n := by omega
          have hk0 : (0 : Int) ≤ (k : Int) := by omega
          have HAK : Hid (mk 16 (fun j => hb (k * 16 + j)) = mk 16 (F k)) := HAT.out k hk9
          have HWT : Hid (wtI (hh (k * 4 + 3)) = wtP (psF S k)) := HWI.out k hk9
          have H5 : Hid ((5 : Int) * (n : Int) = ((5 * n : Nat) : Int)) := by show _ = _; omega
          have HPT := Lib.hid (HPO.out.part k hk9)
          have HSU := Lib.hid (HPO.out.sum k hk9)
          rw [HFK.out k] at HPT HSU
          rw [← HS0.out] at HSU
          have HPS : Hid (plusF (ptF s0 T S (5 * n) k) (partF (T (F k)) (wtP (psF S k)) (5 * n)) = ptF s0 T S (5 * n) (k + 1)) := by
            show _ = plusF _ (partF (T (plB S (psF S k))) _ _)
            rw [HFK.out k]
          have HCK := Lib.hid (fun w => show Calls Try.prog 64 #[.agg (mk 16 (F k)), .int .i64 1] w fun e w' => e = .returned (.agg (mk 2 (fcF (ScF 1 (F k))))) ∧ Below w.heap.size w w' from HCC1.out (F k) w (HVF.out k hk9))
          rw [← HTT.out] at HCK
          go_wp2_with fail
          refine wp_region_held_drew (S := fun W => CAt W gb (n * 16) hb ∧ CAt W gs (n * 4) hh) (by kernel_rfl) (⟨CB.drew, CS.drew⟩) (fun hHeld => ?_)
          have K2 := K2.drew
          have K4 := K4.drew
          have K5 := K5.drew
          have KS := KS.drew
          have CM : CAt wr.drew gm L (fun i => M.getD i 0) := CM.drew
          have CB : CAt wr.drew gb (n * 16) hb := CB.drew
          have CS : CAt wr.drew gs (n * 4) hh := CS.drew
          have HB : Hid (Below w.heap.size w wr.drew) := HB.out.drew
          clear hHeld
          generalize wr.drew = x0 at *
          have hHeld : CAt x0 gb (n * 16) hb ∧ CAt x0 gs (n * 4) hh := ⟨CB, CS⟩
          refine wpAnyH_take (i := 1) (oi := { dst := some 56, op := _, type := _, pos := _, after := _, guard := _ }) (v := .slice (some ⟨gb, 0, none⟩) n cb) rfl (by kernel_rfl) (by kernel_rfl) (by kernel_rfl) (fun _ _ _ h => h) (Or.inl ⟨by rfl, by intro w hSw; clear hSw; go_simp; (try with_reducible rfl)⟩) (by assumption) ?_
          try simp only [Act.put, List.setIfInBounds_toArray, List.set_cons_zero, List.set_cons_succ]
          refine wpAnyH_take (i := 2) (oi := { dst := some 57, op := _, type := _, pos := _, after := _, guard := _ }) (v := .int .i64 (k : Int)) rfl (by kernel_rfl) (by kernel_rfl) (by kernel_rfl) (fun _ _ _ h => h) (Or.inl ⟨by rfl, by intro w hSw; clear hSw; go_simp; (try with_reducible rfl)⟩) (by assumption) ?_
          try simp only [Act.put, List.setIfInBounds_toArray, List.set_cons_zero, List.set_cons_succ]
          refine wpAnyH_take (i := 3) (oi := { dst := some 58, op := _, type := _, pos := _, after := _, guard := _ }) (v := .pointer (some ⟨gb, k * 16, none⟩)) rfl (by kernel_rfl) (by kernel_rfl) (by kernel_rfl) (fun _ _ _ h => h) (Or.inl ⟨by rfl, by intro w hSw; clear hSw; go_simp; (try with_reducible rfl)⟩) (by assumption) ?_
          try simp only [Act.put, List.setIfInBounds_toArray, List.set_cons_zero, List.set_cons_succ]
          refine wpAnyH_take (i := 4) (oi := { dst := some 59, op := _, type := _, pos := _, after := _, guard := _ }) (v := .agg (mk 16 (F k))) rfl (by kernel_rfl) (by kernel_rfl) (by kernel_rfl) (fun _ _ _ h => h) (Or.inl ⟨by rfl, by intro W p; rw [← HAK.out]; exact execAB7 p.1 (by omega) rfl rfl⟩) (by assumption) ?_
          try simp only [Act.put, List.setIfInBounds_toArray, List.set_cons_zero, List.set_cons_succ]
          refine wpAnyH_take (i := 5) (oi := { dst := some 60, op := _, type := _, pos := _, after := _, guard := _ }) (v := .int .i64 2) rfl (by kernel_rfl) (by kernel_rfl) (by kernel_rfl) (fun _ _ _ h => h) (Or.inl ⟨by rfl, by intro w hSw; clear hSw; go_simp; (try with_reducible rfl)⟩) (by assumption) ?_
          try simp only [Act.put, List.setIfInBounds_toArray, List.set_cons_zero, List.set_cons_succ]
          refine wpAnyH_take (i := 6) (oi := { dst := some 61, op := _, type := _, pos := _, after := _, guard := _ }) (v := .int .i64 1) rfl (by kernel_rfl) (by kernel_rfl) (by kernel_rfl) (fun _ _ _ h => h) (Or.inl ⟨by rfl, by intro W q2; clear q2; go_simp; exact fit9 (a := 1) (by decide)⟩) (by assumption) ?_
          try simp only [Act.put, List.setIfInBounds_toArray, List.set_cons_zero, List.set_cons_succ]
          refine wpAnyH_take (i := 8) (oi := { dst := some 63, op := _, type := _, pos := _, after := _, guard := _ }) (v := .slice (some ⟨gs, 0, none⟩) n cs) rfl (by kernel_rfl) (by kernel_rfl) (by kernel_rfl) (fun _ _ _ h => h) (Or.inl ⟨by rfl, by intro w hSw; clear hSw; go_simp; (try with_reducible rfl)⟩) (by assumption) ?_
          try simp only [Act.put, List.setIfInBounds_toArray, List.set_cons_zero, List.set_cons_succ]
          refine wpAnyH_take (i := 9) (oi := { dst := some 64, op := _, type := _, pos := _, after := _, guard := _ }) (v := .int .i64 (k : Int)) rfl (by kernel_rfl) (by kernel_rfl) (by kernel_rfl) (fun _ _ _ h => h) (Or.inl ⟨by rfl, by intro w hSw; clear hSw; go_simp; (try with_reducible rfl)⟩) (by assumption) ?_
          try simp only [Act.put, List.setIfInBounds_toArray, List.set_cons_zero, List.set_cons_succ]
          refine wpAnyH_take (i := 10) (oi := { dst := some 65, op := _, type := _, pos := _, after := _, guard := _ }) (v := .pointer (some ⟨gs, k * 4, none⟩)) rfl (by kernel_rfl) (by kernel_rfl) (by kernel_rfl) (fun _ _ _ h => h) (Or.inl ⟨by rfl, by intro w hSw; clear hSw; go_simp; (try with_reducible rfl)⟩) (by assumption) ?_
          try simp only [Act.put, List.setIfInBounds_toArray, List.set_cons_zero, List.set_cons_succ]
          refine wpAnyH_take (i := 11) (oi := { dst := some 66, op := _, type := _, pos := _, after := _, guard := _ }) (v := .agg (mk 4 fun j => hh (k * 4 + j))) rfl (by kernel_rfl) (by kernel_rfl) (by kernel_rfl) (fun _ _ _ h => h) (Or.inl ⟨by rfl, fun _ q => execAT q.2 (by omega) rfl rfl⟩) (by assumption) ?_
          try simp only [Act.put, List.setIfInBounds_toArray, List.set_cons_zero, List.set_cons_succ]
          refine wpAnyH_take (i := 13) (oi := { dst := some 68, op := _, type := _, pos := _, after := _, guard := _ }) (v := .slice (some ⟨gs, 0, none⟩) n cs) rfl (by kernel_rfl) (by kernel_rfl) (by kernel_rfl) (fun _ _ _ h => h) (Or.inl ⟨by rfl, by intro w hSw; clear hSw; go_simp; (try with_reducible rfl)⟩) (by assumption) ?_
          try simp only [Act.put, List.setIfInBounds_toArray, List.set_cons_zero, List.set_cons_succ]
          refine wpAnyH_take (i := 14) (oi := { dst := some 69, op := _, type := _, pos := _, after := _, guard := _ }) (v := .int .i64 (n : Int)) rfl (by kernel_rfl) (by kernel_rfl) (by kernel_rfl) (fun _ _ _ h => h) (Or.inl ⟨by rfl, by intro w hSw; clear hSw; go_simp; (try with_reducible rfl)⟩) (by assumption) ?_
          try simp only [Act.put, List.setIfInBounds_toArray, List.set_cons_zero, List.set_cons_succ]
          refine wpAnyH_take (i := 15) (oi := { dst := some 70, op := _, type := _, pos := _, after := _, guard := _ }) (v := .int .i64 ((5 * n : Nat) : Int)) rfl (by kernel_rfl) (by kernel_rfl) (by kernel_rfl) (fun _ _ _ h => h) (Or.inl ⟨by rfl, by intro W q; clear q; go_simp; (try rw [H5.out]); (try exact fit9 (by omega))⟩) (by assumption) ?_
          try simp only [Act.put, List.setIfInBounds_toArray, List.set_cons_zero, List.set_cons_succ]
          refine wpAnyH_ready (rs := [0, 7]) (by kernel_rfl) (by simp) ?_
          refine AllReadyH.cons rfl (fun K hK => ?_) ?_
          · rw [if_pos (by rfl)]
            refine wp_ldC7 KS rfl rfl ?_
            refine hK.out _ _ ⟨CB, CS⟩ (fun hHeld => ?_)
            clear hK K
            try simp only [Act.put, List.setIfInBounds_toArray, List.set_cons_zero, List.set_cons_succ]
            refine wpAnyH_ready (rs := [7]) (by kernel_rfl) (by simp) ?_
            refine AllReadyH.cons rfl (fun K hK => ?_) AllReadyH.nil
            go_simp
            refine (HCK.out _).mono ?_
            rintro _ x1 ⟨rfl, hb2⟩
            have K2 := K2.below hb2 K2.lt
            have K4 := K4.below hb2 K4.lt
            have K5 := K5.below hb2 K5.lt
            have KS := KS.below hb2 KS.lt
            have CM := CM.below hb2
            have CB := CB.below hb2
            have CS := CS.below hb2
            have HB : Hid (Below w.heap.size w x1) := HB.out.trans (hb2.mono HB.out.size)
            clear hb2 hHeld
            go_wp2_with fail
            refine hK.out _ _ ⟨CB, CS⟩ (fun hHeld => ?_)
            clear hK K
            try simp only [Act.put, List.setIfInBounds_toArray, List.set_cons_zero, List.set_cons_succ]
            refine wpAnyH_ready (rs := [12]) (by kernel_rfl) (by simp) ?_
            refine AllReadyH.cons rfl (fun K hK => ?_) AllReadyH.nil
            have HWC := l9Weight_any (fun j => hh (k * 4 + j)) x1
            rw [HWT.out] at HWC
            go_simp
            refine HWC.mono ?_
            rintro _ x2 ⟨rfl, hb2⟩
            clear HWC
            have K2 := K2.below hb2 K2.lt
            have K4 := K4.below hb2 K4.lt
            have K5 := K5.below hb2 K5.lt
            have KS := KS.below hb2 KS.lt
            have CM := CM.below hb2
            have CB := CB.below hb2
            have CS := CS.below hb2
            have HB : Hid (Below w.heap.size w x2) := HB.out.trans (hb2.mono HB.out.size)
            clear hb2 hHeld
            go_wp2_with fail
            refine hK.out _ _ ⟨CB, CS⟩ (fun hHeld => ?_)
            clear hK K
            try simp only [Act.put, List.setIfInBounds_toArray, List.set_cons_zero, List.set_cons_succ]
            refine wpAnyH_ready (rs := [16]) (by kernel_rfl) (by simp) ?_
            refine AllReadyH.cons rfl (fun K hK => ?_) AllReadyH.nil
            go_simp
            refine (l9Part_any (T (F k)) (wtP (psF S k)) (5 * n) _ HPT.out.1 (by omega) HPT.out.2.1 HPT.out.2.2).mono ?_
            rintro _ x3 ⟨rfl, hb2⟩
            have K2 := K2.below hb2 K2.lt
            have K4 := K4.below hb2 K4.lt
            have K5 := K5.below hb2 K5.lt
            have KS := KS.below hb2 KS.lt
            have CM := CM.below hb2
            have CB := CB.below hb2
            have CS := CS.below hb2
            have HB : Hid (Below w.heap.size w x3) := HB.out.trans (hb2.mono HB.out.size)
            clear hb2 hHeld
            go_wp2_with fail
            refine hK.out _ _ ⟨CB, CS⟩ (fun hHeld => ?_)
            clear hK K
            try simp only [Act.put, List.setIfInBounds_toArray, List.set_cons_zero, List.set_cons_succ]
            refine wpAnyH_ready (rs := [17]) (by kernel_rfl) (by simp) ?_
            refine AllReadyH.cons rfl (fun K hK => ?_) AllReadyH.nil
            go_simp
            refine (l9Plus_any (ptF s0 T S (5 * n) k) (partF (T (F k)) (wtP (psF S k)) (5 * n)) _ HSU.out.1 HSU.out.2.1 HSU.out.2.2.1 HSU.out.2.2.2.1 HSU.out.2.2.2.2).mono ?_
            rintro _ x4 ⟨rfl, hb2⟩
            have K2 := K2.below hb2 K2.lt
            have K4 := K4.below hb2 K4.lt
            have K5 := K5.below hb2 K5.lt
            have KS := KS.below hb2 KS.lt
            have CM := CM.below hb2
            have CB := CB.below hb2
            have CS := CS.below hb2
            have HB : Hid (Below w.heap.size w x4) := HB.out.trans (hb2.mono HB.out.size)
            clear hb2 hHeld
            go_wp2_with fail
            refine hK.out _ _ ⟨CB, CS⟩ (fun hHeld => ?_)
            clear hK K
            try simp only [Act.put, List.setIfInBounds_toArray, List.set_cons_zero, List.set_cons_succ]
            refine wpAnyH_ready (rs := [18]) (by kernel_rfl) (by simp) ?_
            refine AllReadyH.cons rfl (fun K hK => ?_) AllReadyH.nil
            have st1 := run_store_blk (P := Try.prog) (g := fcF (plusF (ptF s0 T S (5 * n) k) (partF (T (F k)) (wtP (psF S k)) (5 * n)))) KS
            have ms1 : (mk 2 (fcF (plusF (ptF s0 T S (5 * n) k) (partF (T (F k)) (wtP (psF S k)) (5 * n))))).size = 2 := mk_size 2 _
            rw [HPS.out] at *
            go_simp
            clear st1 ms1 hHeld
            have hgr : x4.grownBy (x4.setRow bS (mk 2 (fcF (ptF s0 T S (5 * n) (k + 1))))) (some bS) := grown_row KS _
            have CM := CM.grown hgr (fun e => by cases e; omega)
            have CB := CB.grown hgr (fun e => by cases e; exact absurd rfl HNB.out)
            have CS := CS.grown hgr (fun e => by cases e; exact absurd rfl HNS.out)
            have K2 := K2.rowOther bS (mk 2 (fcF (ptF s0 T S (5 * n) (k + 1)))) (by omega)
            have K4 := K4.rowOther bS (mk 2 (fcF (ptF s0 T S (5 * n) (k + 1)))) (by omega)
            have K5 := K5.rowOther bS (mk 2 (fcF (ptF s0 T S (5 * n) (k + 1)))) (by omega)
            have HB : Hid (Below w.heap.size w (x4.setRow bS (mk 2 (fcF (ptF s0 T S (5 * n) (k + 1)))))) := below_setRow HB.out (by omega) _
            have KS := KS.row 2 (fcF (ptF s0 T S (5 * n) (k + 1)))
            clear hgr
            generalize x4.setRow bS (mk 2 (fcF (ptF s0 T S (5 * n) (k + 1)))) = x5 at *
            refine hK.out _ _ ⟨CB, CS⟩ (fun hHeld => ?_)
            clear hK K
            try simp only [Act.put, List.setIfInBounds_toArray, List.set_cons_zero, List.set_cons_succ]
            refine wpAnyH_done (by kernel_rfl) ?_ _
            clear hHeld
            go_wp2_with fail
            go_roundg gk2
            case rel => exact ⟨k + 1, by omega, by go_num, CM, CB, CS, K2, K4, K5, KS, HB⟩
            case measure => omega
          refine AllReadyH.cons rfl (fun K hK => ?_) AllReadyH.nil
          go_simp
          refine (HCK.out _).mono ?_
          rintro _ x6 ⟨rfl, hb2⟩
          have K2 := K2.below hb2 K2.lt
          have K4 := K4.below hb2 K4.lt
          have K5 := K5.below hb2 K5.lt
          have KS := KS.below hb2 KS.lt
          have CM := CM.below hb2
          have CB := CB.below hb2
          have CS := CS.below hb2
          have HB : Hid (Below w.heap.size w x6) := HB.out.trans (hb2.mono HB.out.size)
          clear hb2 hHeld
          go_wp2_with fail
          refine hK.out _ _ ⟨CB, CS⟩ (fun hHeld => ?_)
          clear hK K
          try simp only [Act.put, List.setIfInBounds_toArray, List.set_cons_zero, List.set_cons_succ]
          refine wpAnyH_ready (rs := [0, 12]) (by kernel_rfl) (by simp) ?_
          refine AllReadyH.cons rfl (fun K hK => ?_) ?_
          · rw [if_pos (by rfl)]
            refine wp_ldC7 KS rfl rfl ?_
            refine hK.out _ _ ⟨CB, CS⟩ (fun hHeld => ?_)
            clear hK K
            try simp only [Act.put, List.setIfInBounds_toArray, List.set_cons_zero, List.set_cons_succ]
            refine wpAnyH_ready (rs := [12]) (by kernel_rfl) (by simp) ?_
            refine AllReadyH.cons rfl (fun K hK => ?_) AllReadyH.nil
            have HWC := l9Weight_any (fun j => hh (k * 4 + j)) x6
            rw [HWT.out] at HWC
            go_simp
            refine HWC.mono ?_
            rintro _ x7 ⟨rfl, hb2⟩
            clear HWC
            have K2 := K2.below hb2 K2.lt
            have K4 := K4.below hb2 K4.lt
            have K5 := K5.below hb2 K5.lt
            have KS := KS.below hb2 KS.lt
            have CM := CM.below hb2
            have CB := CB.below hb2
            have CS := CS.below hb2
            have HB : Hid (Below w.heap.size w x7) := HB.out.trans (hb2.mono HB.out.size)
            clear hb2 hHeld
            go_wp2_with fail
            refine hK.out _ _ ⟨CB, CS⟩ (fun hHeld => ?_)
            clear hK K
            try simp only [Act.put, List.setIfInBounds_toArray, List.set_cons_zero, List.set_cons_succ]
            refine wpAnyH_ready (rs := [16]) (by kernel_rfl) (by simp) ?_
            refine AllReadyH.cons rfl (fun K hK => ?_) AllReadyH.nil
            go_simp
            refine (l9Part_any (T (F k)) (wtP (psF S k)) (5 * n) _ HPT.out.1 (by omega) HPT.out.2.1 HPT.out.2.2).mono ?_
            rintro _ x8 ⟨rfl, hb2⟩
            have K2 := K2.below hb2 K2.lt
            have K4 := K4.below hb2 K4.lt
            have K5 := K5.below hb2 K5.lt
            have KS := KS.below hb2 KS.lt
            have CM := CM.below hb2
            have CB := CB.below hb2
            have CS := CS.below hb2
            have HB : Hid (Below w.heap.size w x8) := HB.out.trans (hb2.mono HB.out.size)
            clear hb2 hHeld
            go_wp2_with fail
            refine hK.out _ _ ⟨CB, CS⟩ (fun hHeld => ?_)
            clear hK K
            try simp only [Act.put, List.setIfInBounds_toArray, List.set_cons_zero, List.set_cons_succ]
            refine wpAnyH_ready (rs := [17]) (by kernel_rfl) (by simp) ?_
            refine AllReadyH.cons rfl (fun K hK => ?_) AllReadyH.nil
            go_simp
            refine (l9Plus_any (ptF s0 T S (5 * n) k) (partF (T (F k)) (wtP (psF S k)) (5 * n)) _ HSU.out.1 HSU.out.2.1 HSU.out.2.2.1 HSU.out.2.2.2.1 HSU.out.2.2.2.2).mono ?_
            rintro _ x9 ⟨rfl, hb2⟩
            have K2 := K2.below hb2 K2.lt
            have K4 := K4.below hb2 K4.lt
            have K5 := K5.below hb2 K5.lt
            have KS := KS.below hb2 KS.lt
            have CM := CM.below hb2
            have CB := CB.below hb2
            have CS := CS.below hb2
            have HB : Hid (Below w.heap.size w x9) := HB.out.trans (hb2.mono HB.out.size)
            clear hb2 hHeld
            go_wp2_with fail
            refine hK.out _ _ ⟨CB, CS⟩ (fun hHeld => ?_)
            clear hK K
            try simp only [Act.put, List.setIfInBounds_toArray, List.set_cons_zero, List.set_cons_succ]
            refine wpAnyH_ready (rs := [18]) (by kernel_rfl) (by simp) ?_
            refine AllReadyH.cons rfl (fun K hK => ?_) AllReadyH.nil
            have st1 := run_store_blk (P := Try.prog) (g := fcF (plusF (ptF s0 T S (5 * n) k) (partF (T (F k)) (wtP (psF S k)) (5 * n)))) KS
            have ms1 : (mk 2 (fcF (plusF (ptF s0 T S (5 * n) k) (partF (T (F k)) (wtP (psF S k)) (5 * n))))).size = 2 := mk_size 2 _
            rw [HPS.out] at *
            go_simp
            clear st1 ms1 hHeld
            have hgr : x9.grownBy (x9.setRow bS (mk 2 (fcF (ptF s0 T S (5 * n) (k + 1))))) (some bS) := grown_row KS _
            have CM := CM.grown hgr (fun e => by cases e; omega)
            have CB := CB.grown hgr (fun e => by cases e; exact absurd rfl HNB.out)
            have CS := CS.grown hgr (fun e => by cases e; exact absurd rfl HNS.out)
            have K2 := K2.rowOther bS (mk 2 (fcF (ptF s0 T S (5 * n) (k + 1)))) (by omega)
            have K4 := K4.rowOther bS (mk 2 (fcF (ptF s0 T S (5 * n) (k + 1)))) (by omega)
            have K5 := K5.rowOther bS (mk 2 (fcF (ptF s0 T S (5 * n) (k + 1)))) (by omega)
            have HB : Hid (Below w.heap.size w (x9.setRow bS (mk 2 (fcF (ptF s0 T S (5 * n) (k + 1)))))) := below_setRow HB.out (by omega) _
            have KS := KS.row 2 (fcF (ptF s0 T S (5 * n) (k + 1)))
            clear hgr
            generalize x9.setRow bS (mk 2 (fcF (ptF s0 T S (5 * n) (k + 1)))) = x10 at *
            refine hK.out _ _ ⟨CB, CS⟩ (fun hHeld => ?_)
            clear hK K
            try simp only [Act.put, List.setIfInBounds_toArray, List.set_cons_zero, List.set_cons_succ]
            refine wpAnyH_done (by kernel_rfl) ?_ _
            clear hHeld
            go_wp2_with fail
            go_roundg gk2
            case rel => exact ⟨k + 1, by omega, by go_num, CM, CB, CS, K2, K4, K5, KS, HB⟩
            case measure => omega
          refine AllReadyH.cons rfl (fun K hK => ?_) AllReadyH.nil
          have HWC := l9Weight_any (fun j => hh (k * 4 + j)) x6
          rw [HWT.out] at HWC
          go_simp
          refine HWC.mono ?_
          rintro _ x11 ⟨rfl, hb2⟩
          clear HWC
          have K2 := K2.below hb2 K2.lt
          have K4 := K4.below hb2 K4.lt
          have K5 := K5.below hb2 K5.lt
          have KS := KS.below hb2 KS.lt
          have CM := CM.below hb2
          have CB := CB.below hb2
          have CS := CS.below hb2
          have HB : Hid (Below w.heap.size w x11) := HB.out.trans (hb2.mono HB.out.size)
          clear hb2 hHeld
          go_wp2_with fail
          refine hK.out _ _ ⟨CB, CS⟩ (fun hHeld => ?_)
          clear hK K
          try simp only [Act.put, List.setIfInBounds_toArray, List.set_cons_zero, List.set_cons_succ]
          refine wpAnyH_ready (rs := [0, 16]) (by kernel_rfl) (by simp) ?_
          refine AllReadyH.cons rfl (fun K hK => ?_) ?_
          · rw [if_pos (by rfl)]
            refine wp_ldC7 KS rfl rfl ?_
            refine hK.out _ _ ⟨CB, CS⟩ (fun hHeld => ?_)
            clear hK K
            try simp only [Act.put, List.setIfInBounds_toArray, List.set_cons_zero, List.set_cons_succ]
            refine wpAnyH_ready (rs := [16]) (by kernel_rfl) (by simp) ?_
            refine AllReadyH.cons rfl (fun K hK => ?_) AllReadyH.nil
            go_simp
            refine (l9Part_any (T (F k)) (wtP (psF S k)) (5 * n) _ HPT.out.1 (by omega) HPT.out.2.1 HPT.out.2.2).mono ?_
            rintro _ x12 ⟨rfl, hb2⟩
            have K2 := K2.below hb2 K2.lt
            have K4 := K4.below hb2 K4.lt
            have K5 := K5.below hb2 K5.lt
            have KS := KS.below hb2 KS.lt
            have CM := CM.below hb2
            have CB := CB.below hb2
            have CS := CS.below hb2
            have HB : Hid (Below w.heap.size w x12) := HB.out.trans (hb2.mono HB.out.size)
            clear hb2 hHeld
            go_wp2_with fail
            refine hK.out _ _ ⟨CB, CS⟩ (fun hHeld => ?_)
            clear hK K
            try simp only [Act.put, List.setIfInBounds_toArray, List.set_cons_zero, List.set_cons_succ]
            refine wpAnyH_ready (rs := [17]) (by kernel_rfl) (by simp) ?_
            refine AllReadyH.cons rfl (fun K hK => ?_) AllReadyH.nil
            go_simp
            refine (l9Plus_any (ptF s0 T S (5 * n) k) (partF (T (F k)) (wtP (psF S k)) (5 * n)) _ HSU.out.1 HSU.out.2.1 HSU.out.2.2.1 HSU.out.2.2.2.1 HSU.out.2.2.2.2).mono ?_
            rintro _ x13 ⟨rfl, hb2⟩
            have K2 := K2.below hb2 K2.lt
            have K4 := K4.below hb2 K4.lt
            have K5 := K5.below hb2 K5.lt
            have KS := KS.below hb2 KS.lt
            have CM := CM.below hb2
            have CB := CB.below hb2
            have CS := CS.below hb2
            have HB : Hid (Below w.heap.size w x13) := HB.out.trans (hb2.mono HB.out.size)
            clear hb2 hHeld
            go_wp2_with fail
            refine hK.out _ _ ⟨CB, CS⟩ (fun hHeld => ?_)
            clear hK K
            try simp only [Act.put, List.setIfInBounds_toArray, List.set_cons_zero, List.set_cons_succ]
            refine wpAnyH_ready (rs := [18]) (by kernel_rfl) (by simp) ?_
            refine AllReadyH.cons rfl (fun K hK => ?_) AllReadyH.nil
            have st1 := run_store_blk (P := Try.prog) (g := fcF (plusF (ptF s0 T S (5 * n) k) (partF (T (F k)) (wtP (psF S k)) (5 * n)))) KS
            have ms1 : (mk 2 (fcF (plusF (ptF s0 T S (5 * n) k) (partF (T (F k)) (wtP (psF S k)) (5 * n))))).size = 2 := mk_size 2 _
            rw [HPS.out] at *
            go_simp
            clear st1 ms1 hHeld
            have hgr : x13.grownBy (x13.setRow bS (mk 2 (fcF (ptF s0 T S (5 * n) (k + 1))))) (some bS) := grown_row KS _
            have CM := CM.grown hgr (fun e => by cases e; omega)
            have CB := CB.grown hgr (fun e => by cases e; exact absurd rfl HNB.out)
            have CS := CS.grown hgr (fun e => by cases e; exact absurd rfl HNS.out)
            have K2 := K2.rowOther bS (mk 2 (fcF (ptF s0 T S (5 * n) (k + 1)))) (by omega)
            have K4 := K4.rowOther bS (mk 2 (fcF (ptF s0 T S (5 * n) (k + 1)))) (by omega)
            have K5 := K5.rowOther bS (mk 2 (fcF (ptF s0 T S (5 * n) (k + 1)))) (by omega)
            have HB : Hid (Below w.heap.size w (x13.setRow bS (mk 2 (fcF (ptF s0 T S (5 * n) (k + 1)))))) := below_setRow HB.out (by omega) _
            have KS := KS.row 2 (fcF (ptF s0 T S (5 * n) (k + 1)))
            clear hgr
            generalize x13.setRow bS (mk 2 (fcF (ptF s0 T S (5 * n) (k + 1)))) = x14 at *
            refine hK.out _ _ ⟨CB, CS⟩ (fun hHeld => ?_)
            clear hK K
            try simp only [Act.put, List.setIfInBounds_toArray, List.set_cons_zero, List.set_cons_succ]
            refine wpAnyH_done (by kernel_rfl) ?_ _
            clear hHeld
            go_wp2_with fail
            go_roundg gk2
            case rel => exact ⟨k + 1, by omega, by go_num, CM, CB, CS, K2, K4, K5, KS, HB⟩
            case measure => omega
          refine AllReadyH.cons rfl (fun K hK => ?_) AllReadyH.nil
          go_simp
          refine (l9Part_any (T (F k)) (wtP (psF S k)) (5 * n) _ HPT.out.1 (by omega) HPT.out.2.1 HPT.out.2.2).mono ?_
          rintro _ x15 ⟨rfl, hb2⟩
          have K2 := K2.below hb2 K2.lt
          have K4 := K4.below hb2 K4.lt
          have K5 := K5.below hb2 K5.lt
          have KS := KS.below hb2 KS.lt
          have CM := CM.below hb2
          have CB := CB.below hb2
          have CS := CS.below hb2
          have HB : Hid (Below w.heap.size w x15) := HB.out.trans (hb2.mono HB.out.size)
          clear hb2 hHeld
          go_wp2_with fail
          refine hK.out _ _ ⟨CB, CS⟩ (fun hHeld => ?_)
          clear hK K
          try simp only [Act.put, List.setIfInBounds_toArray, List.set_cons_zero, List.set_cons_succ]
          refine wpAnyH_ready (rs := [0]) (by kernel_rfl) (by simp) ?_
          refine AllReadyH.cons rfl (fun K hK => ?_) AllReadyH.nil
          rw [if_pos (by rfl)]
          refine wp_ldC7 KS rfl rfl ?_
          refine hK.out _ _ ⟨CB, CS⟩ (fun hHeld => ?_)
          clear hK K
          try simp only [Act.put, List.setIfInBounds_toArray, List.set_cons_zero, List.set_cons_succ]
          refine wpAnyH_ready (rs := [17]) (by kernel_rfl) (by simp) ?_
          refine AllReadyH.cons rfl (fun K hK => ?_) AllReadyH.nil
          go_simp
          refine (l9Plus_any (ptF s0 T S (5 * n) k) (partF (T (F k)) (wtP (psF S k)) (5 * n)) _ HSU.out.1 HSU.out.2.1 HSU.out.2.2.1 HSU.out.2.2.2.1 HSU.out.2.2.2.2).mono ?_
          rintro _ x16 ⟨rfl, hb2⟩
          have K2 := K2.below hb2 K2.lt
          have K4 := K4.below hb2 K4.lt
          have K5 := K5.below hb2 K5.lt
          have KS := KS.below hb2 KS.lt
          have CM := CM.below hb2
          have CB := CB.below hb2
          have CS := CS.below hb2
          have HB : Hid (Below w.heap.size w x16) := HB.out.trans (hb2.mono HB.out.size)
          clear hb2 hHeld
          go_wp2_with fail
          refine hK.out _ _ ⟨CB, CS⟩ (fun hHeld => ?_)
          clear hK K
          try simp only [Act.put, List.setIfInBounds_toArray, List.set_cons_zero, List.set_cons_succ]
          refine wpAnyH_ready (rs := [18]) (by kernel_rfl) (by simp) ?_
          refine AllReadyH.cons rfl (fun K hK => ?_) AllReadyH.nil
          have st1 := run_store_blk (P := Try.prog) (g := fcF (plusF (ptF s0 T S (5 * n) k) (partF (T (F k)) (wtP (psF S k)) (5 * n)))) KS
          have ms1 : (mk 2 (fcF (plusF (ptF s0 T S (5 * n) k) (partF (T (F k)) (wtP (psF S k)) (5 * n))))).size = 2 := mk_size 2 _
          rw [HPS.out] at *
          go_simp
          clear st1 ms1 hHeld
          have hgr : x16.grownBy (x16.setRow bS (mk 2 (fcF (ptF s0 T S (5 * n) (k + 1))))) (some bS) := grown_row KS _
          have CM := CM.grown hgr (fun e => by cases e; omega)
          have CB := CB.grown hgr (fun e => by cases e; exact absurd rfl HNB.out)
          have CS := CS.grown hgr (fun e => by cases e; exact absurd rfl HNS.out)
          have K2 := K2.rowOther bS (mk 2 (fcF (ptF s0 T S (5 * n) (k + 1)))) (by omega)
          have K4 := K4.rowOther bS (mk 2 (fcF (ptF s0 T S (5 * n) (k + 1)))) (by omega)
          have K5 := K5.rowOther bS (mk 2 (fcF (ptF s0 T S (5 * n) (k + 1)))) (by omega)
          have HB : Hid (Below w.heap.size w (x16.setRow bS (mk 2 (fcF (ptF s0 T S (5 * n) (k + 1)))))) := below_setRow HB.out (by omega) _
          have KS := KS.row 2 (fcF (ptF s0 T S (5 * n) (k + 1)))
          clear hgr
          generalize x16.setRow bS (mk 2 (fcF (ptF s0 T S (5 * n) (k + 1)))) = x17 at *
          refine hK.out _ _ ⟨CB, CS⟩ (fun hHeld => ?_)
          clear hK K
          try simp only [Act.put, List.setIfInBounds_toArray, List.set_cons_zero, List.set_cons_succ]
          refine wpAnyH_done (by kernel_rfl) ?_ _
          clear hHeld
          go_wp2_with fail
          go_roundg gk2
          case rel => exact ⟨k + 1, by omega, by go_num, CM, CB, CS, K2, K4, K5, KS, HB⟩
          case measure => omega
theorem ss_all : ∀ n, n ≤ 2 → SSn n
  | 0, _ => SSn_zero
  | 1, _ => SSn_one
  | 2, _ => SSn_two SSn_one
end Go.Proofs.Ytkocfpldgjfpeaa
