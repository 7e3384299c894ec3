/-
  The contracts of the reference's l10Row and l10Slide: a row and a board behind a slide by a rule.
-/
import Derived.Test.YtblcojacmjbjcaaRuleSpec
import Derived.Test.YtblcojacmjbjcaaRuleWith
import Derived.Deep.RegionHeld3
import Derived.Test.YtblcojacmjbjcaaBaseA
import Derived.Deep.QuietTactic
import Derived.BigQuiet
import Derived.OrdersHeld
import Derived.Deep.RegionHeld2
namespace Go.Proofs.Ytblcojacmjbjcaa
open Go.RowKit Plain
attribute [local go_sem] store_new
set_option linter.unusedVariables false
set_option linter.unusedSimpArgs false
set_option maxHeartbeats 2000000 in
theorem l10Row_any (f : Nat → Int) (r : Int) (w : World) (hr : RlOk r) (hf : VdRow f) :
    Calls Try.prog 81 #[.agg (mk 4 f), .int .i64 r] w fun e w' => e = .returned (.agg (mk 4 (rsl (mgF r) f 4).row)) ∧ Below w.heap.size w w' := by
  have z4 := zero4
  have HV := Lib.hid hf
  have HR := Lib.hid hr
  clear hf hr
  have K1 := ((Blk.new w 4 f 33).alloc (.cells (mk 4 fun _ => 0) 33)).alloc (.cells (mk 4 fun _ => 0) 33)
  have K2 := (Blk.new (w.alloc (.cells (mk 4 f) 33)) 4 (fun _ => 0) 33).alloc (.cells (mk 4 fun _ => 0) 33)
  have K3 := Blk.new ((w.alloc (.cells (mk 4 f) 33)).alloc (.cells (mk 4 fun _ => 0) 33)) 4 (fun _ => 0) 33
  have HB := Lib.hid ((((Below.refl w.heap.size w).alloc (Nat.le_refl _) (.cells (mk 4 f) 33)).alloc (by simp) (.cells (mk 4 fun _ => 0) 33)).alloc (by simp; omega) (.cells (mk 4 fun _ => 0) 33))
  simp only [World.size_alloc] at K2 K3
  go_enter Try.func81, Try.ntmps81
  go_wp2_with fail
  generalize ((w.alloc (.cells (mk 4 f) 33)).alloc (.cells (mk 4 fun _ => 0) 33)).alloc (.cells (mk 4 fun _ => 0) 33) = w1 at *
  go_loopg [8, 6, 7] 4 (fun g s8 s6 s7 wr => ∃ (k : Nat) (m : Bool), k + g = 4 ∧ s8 = .int .i64 k ∧ s6 = .int .i64 (rsl (mgF r) f k).n ∧ s7 = .bool m ∧ Hid ((rsl (mgF r) f k).op = (decide (0 < (rsl (mgF r) f k).n) && !m)) ∧
    Blk wr w.heap.size 4 f 33 ∧ Blk wr (w.heap.size + 1) 4 (fun _ => 0) 33 ∧ Blk wr (w.heap.size + 1 + 1) 4 (rsl (mgF r) f k).row 33 ∧ Hid (Below w.heap.size w wr))
  case atStart => exact ⟨0, false, by omega, rfl, rfl, rfl, rfl, K1, K2, K3, HB⟩
  case round =>
    obtain ⟨k, m, hkg, rfl, rfl, rfl, HM, k1, k2, k3, hb⟩ := hrel
    cases gk with
    | zero =>
      have hk : ¬ ((k : Int) < 4) := by omega
      have HK : Hid (k = 4) := by show k = 4; omega
      clear hkg
      go_wp2_with (first | ((with_reducible show wpList _ _ _ (Oper.mk _ (Op.load 33 _) _ _ _ _ :: _) _ _); refine loadR (k3) rfl rfl rfl ?_) | ((with_reducible show wpList _ _ _ (Oper.mk _ (Op.store 33 _ _) _ _ _ _ :: _) _ _); refine storeR (k2) rfl rfl rfl rfl ?_))
      try simp only [Exit.inBlock, Exit.then]
      exact retcR (k2.row 4 _) rfl rfl rfl ⟨by rw [HK.out], below_setRow hb.out (by omega) _⟩
    | succ g =>
      have hk : (k : Int) < 4 := by omega
      have hk0 : (0 : Int) ≤ (k : Int) := by omega
      have hk4 : k < 4 := by omega
      have HOK := Lib.hid (rsl_ok (mgFn r) HV.out k (by omega))
      obtain ⟨t0, t1⟩ := HV.out k hk4
      have HS : Hid (rsl (mgF r) f (k + 1) = rslStep (mgF r) (rsl (mgF r) f k) (f k)) := rfl
      have c1 := k1.cell (i := k) (by omega)
      generalize rsl (mgF r) f k = s at *
      generalize hft : f k = t at c1 t0 t1 HS
      have HFT := Lib.hid hft
      clear hft
      obtain ⟨row, n, mg, op⟩ := s
      simp only [] at k3
      have hn0 : n ≤ k := HOK.out.n_le
      by_cases h0 : t = 0
      · have d0 : (t == 0) = true := by simpa using h0
        have HS2 : Hid (rsl (mgF r) f (k + 1) = ⟨row, n, mg, op⟩) := by have := HS.out; unfold rslStep at this; rw [if_pos h0] at this; exact this
        clear h0
        go_wp2_with fail
        go_roundg g
        case rel => exact ⟨k + 1, m, by omega, by go_num, by rw [HS2.out], rfl, by rw [HS2.out]; exact HM, k1, k2, by rw [HS2.out]; exact k3, hb⟩
        case measure => omega
      · have d0 : (t == 0) = false := by simpa using h0
        have HT2 : Hid (TlOk t) := by show TlOk t; unfold TlOk; omega
        have HD := Lib.hid h0
        clear h0
        cases op with
        | false =>
          have HS2 : Hid (rsl (mgF r) f (k + 1) = ⟨upd row n t, n + 1, mg, true⟩) := by have := HS.out; unfold rslStep at this; rw [if_neg HD.out, if_neg (by simp)] at this; exact this
          have c3 := k3.cell (i := n) (by omega)
          have f3 := k3.free n
          have hn4 : n < 4 := by omega
          have hnn : (0 : Int) ≤ (n : Int) := by omega
          have hMM := HM.out
          simp only [] at hMM
          by_cases hA : n = 0
          · have d1 : decide ((0 : Int) < (n : Int)) = false := by simp; omega
            have d1' : decide (0 < n) = false := by simp; omega
            have HA := Lib.hid hA
            clear hA hMM
            go_wp2_with fail
            go_roundg g
            case rel => exact ⟨k + 1, false, by omega, by go_num, by rw [HS2.out]; go_num, rfl, by rw [HS2.out]; show true = _; simp, k1.setOther _ _ (by dsimp only; omega), k2.setOther _ _ (by dsimp only; omega), by rw [HS2.out]; exact k3.set (by omega) _, hb.out.setCell (by dsimp only; omega) _⟩
            case measure => omega
          · have d1 : (0 : Int) < (n : Int) := by omega
            have d1' : 0 < n := by omega
            have hmm : m = true := by
              cases m
              · simp [d1'] at hMM
              · rfl
            subst hmm
            clear hA hMM
            go_wp2_with fail
            go_roundg g
            case rel => exact ⟨k + 1, false, by omega, by go_num, by rw [HS2.out]; go_num, rfl, by rw [HS2.out]; show true = _; simp, k1.setOther _ _ (by dsimp only; omega), k2.setOther _ _ (by dsimp only; omega), by rw [HS2.out]; exact k3.set (by omega) _, hb.out.setCell (by dsimp only; omega) _⟩
            case measure => omega
        | true =>
          have HT1 : Hid (TlOk (row (n - 1))) := HOK.out.tile rfl
          have hn1 : 1 ≤ n := HOK.out.last rfl
          have hmm : m = false := by
            have := HM.out
            simp only [] at this
            cases m
            · rfl
            · simp at this
          subst hmm
          have g0 : (0 : Int) < (n : Int) := by omega
          have g0' : 0 < n := by omega
          have g1 : (0 : Int) ≤ (n : Int) - 1 := by omega
          have g2 : (n : Int) - 1 < 4 := by omega
          have c4 := k3.cell (i := n - 1) (by omega)
          have HU : Hid (∃ u, mgF r (row (n - 1)) t = u) := ⟨_, rfl⟩
          have HC : Hid (∀ W, Calls Try.prog 50 #[.int .i64 r, .int .i64 (row (n - 1)), .int .i64 t] W fun e w' => e = .returned (.int .i64 (mgF r (row (n - 1)) t)) ∧ W = w') := fun W => l10Merge_any r _ _ W HR.out HT1.out HT2.out
          by_cases hu : 0 < mgF r (row (n - 1)) t
          · have HS2 : Hid (rsl (mgF r) f (k + 1) = ⟨upd row (n - 1) (mgF r (row (n - 1)) t), n, mg + 1, false⟩) := by have := HS.out; unfold rslStep at this; rw [if_neg HD.out, if_pos ⟨rfl, hu⟩] at this; exact this
            generalize mgF r (row (n - 1)) t = u at *
            generalize row (n - 1) = v at c4 HC
            have du : decide (0 < u) = true := by simpa using hu
            have f3 := k3.free (n - 1)
            clear HS HU hu
            go_wp2_with fail
            go_quiet ((go_at_call 50; exact Calls.quiet_of_same ((HC.out _).mono fun e w2 h => ⟨h.1, h.2.symm⟩)))
            have c5 := (k3.drewN nq).cell (i := n - 1) (by omega)
            have f5 := (k3.drewN nq).free (n - 1)
            go_wp2_with fail
            go_roundg g
            case rel => exact ⟨k + 1, true, by omega, by go_num, by rw [HS2.out], rfl, by rw [HS2.out]; show false = _; simp, (k1.drewN _).setOther _ _ (by dsimp only; omega), (k2.drewN _).setOther _ _ (by dsimp only; omega), by rw [HS2.out]; exact (k3.drewN _).set (by omega) _, (below_drewN hb.out _).setCell (by dsimp only; omega) _⟩
            case measure => omega
          · have HS2 : Hid (rsl (mgF r) f (k + 1) = ⟨upd row n t, n + 1, mg, true⟩) := by have := HS.out; unfold rslStep at this; rw [if_neg HD.out, if_neg (fun q => hu q.2)] at this; exact this
            generalize mgF r (row (n - 1)) t = u at *
            generalize row (n - 1) = v at c4 HC
            have du : decide (0 < u) = false := by simpa using hu
            have hn4 : n < 4 := by omega
            clear HS HU hu
            go_wp2_with fail
            go_quiet ((go_at_call 50; exact Calls.quiet_of_same ((HC.out _).mono fun e w2 h => ⟨h.1, h.2.symm⟩)))
            have c5 := (k3.drewN nq).cell (i := n) (by omega)
            have f5 := (k3.drewN nq).free n
            have c6 := (k1.drewN nq).cell (i := k) (by omega)
            rw [HFT.out] at c6
            go_wp2_with fail
            go_roundg g
            case rel => exact ⟨k + 1, false, by omega, by go_num, by rw [HS2.out]; go_num, rfl, by rw [HS2.out]; show true = _; simp, (k1.drewN _).setOther _ _ (by dsimp only; omega), (k2.drewN _).setOther _ _ (by dsimp only; omega), by rw [HS2.out]; exact (k3.drewN _).set (by omega) _, (below_drewN hb.out _).setCell (by dsimp only; omega) _⟩
            case measure => omega
theorem rOut_step (m : Int → Int → Int) (f : Nat → Int) (d i : Nat) (hi : i < 4) : ∀ j, j < 16 → withR d i (rOut m f d i) (rsl m (lineF f d i) 4).row j = rOut m f d (i + 1) j := by
  intro j hj
  unfold withR rOut
  by_cases h : lineOf d j = i
  · rw [if_pos h, if_pos (by omega)]; unfold rB; rw [h]
  · rw [if_neg h]
    by_cases h2 : lineOf d j < i
    · rw [if_pos h2, if_pos (by omega)]
    · rw [if_neg h2, if_neg (by omega)]
theorem wp_ofRun {P : Program} {w : World} {o : Oper} {a : Act} {K : Act → World → Prop} {Q : Exit → Act → World → Prop} {v : Value} (h : (execOp a.eval o).run P w = .ok (.value v) w)
    (hK : K (a.put o.dst v) w) : o.wp P a w K Q := by
  unfold Oper.wp
  rw [h]
  exact hK
set_option maxHeartbeats 2000000 in
set_option maxRecDepth 20000 in
theorem l10Slide_any (f : Nat → Int) (d : Nat) (r : Int) (w : World) (hr : RlOk r) (hf : Vd f) (hd : d < 4) :
    Calls Try.prog 57 #[.agg (mk 16 f), .int .i64 (d : Int), .int .i64 r] w fun e w' => e = .returned (.agg (mk 16 (rB (mgF r) f d))) ∧ Below w.heap.size w w' := by
  have z16 := zero16
  have HV := Lib.hid hf
  have HR := Lib.hid hr
  clear hf hr
  have K1 := ((Blk.new w 16 f 37).alloc (.cells (mk 16 fun _ => 0) 37)).alloc (.cells (mk 16 f) 37)
  have K2 := (Blk.new (w.alloc (.cells (mk 16 f) 37)) 16 (fun _ => 0) 37).alloc (.cells (mk 16 f) 37)
  have K3 := Blk.new ((w.alloc (.cells (mk 16 f) 37)).alloc (.cells (mk 16 fun _ => 0) 37)) 16 f 37
  have HB := Lib.hid ((((Below.refl w.heap.size w).alloc (Nat.le_refl _) (.cells (mk 16 f) 37)).alloc (by simp) (.cells (mk 16 fun _ => 0) 37)).alloc (by simp; omega) (.cells (mk 16 f) 37))
  simp only [World.size_alloc] at K2 K3
  go_enter Try.func57, Try.ntmps57
  go_wp2_with (first | ((with_reducible show wpList _ _ _ (Oper.mk _ (Op.load 37 _) _ _ _ _ :: _) _ _); refine loadB ((Blk.new w 16 f 37).alloc _) rfl rfl rfl ?_))
  generalize ((w.alloc (.cells (mk 16 f) 37)).alloc (.cells (mk 16 fun _ => 0) 37)).alloc (.cells (mk 16 f) 37) = w1 at *
  go_loopg [8] 4 (fun g s8 wr => ∃ i : Nat, i + g = 4 ∧ s8 = .int .i64 (i : Int) ∧ Blk wr w.heap.size 16 f 37 ∧ Blk wr (w.heap.size + 1) 16 (fun _ => 0) 37 ∧ Blk wr (w.heap.size + 1 + 1) 16 (rOut (mgF r) f d i) 37 ∧ Hid (Below w.heap.size w wr))
  case atStart => exact ⟨0, by omega, rfl, K1, K2, K3.congr fun j _ => (rOut_zero (mgF r) f d j).symm, HB⟩
  case round =>
    clear K1 K2 K3 HB
    obtain ⟨i, hig, rfl, K1, K2, K3, HB⟩ := hrel
    cases gk with
    | zero =>
      have hi : ¬ ((i : Int) < 4) := by omega
      obtain rfl : i = 4 := by omega
      have K3 := K3.congr fun j hj => rOut_all (mgF r) f d hj
      go_wp2_with (first | ((with_reducible show wpList _ _ _ (Oper.mk _ (Op.load 37 _) _ _ _ _ :: _) _ _); refine loadB (K3) rfl rfl rfl ?_) | ((with_reducible show wpList _ _ _ (Oper.mk _ (Op.store 37 _ _) _ _ _ _ :: _) _ _); refine storeB (K2) rfl rfl rfl rfl ?_))
      try simp only [Exit.inBlock, Exit.then]
      exact retcB (K2.row 16 _) rfl rfl rfl ⟨rfl, below_setRow HB.out (by omega) _⟩
    | succ g =>
      have hi : (i : Int) < 4 := by omega
      have hi4 : i < 4 := by omega
      have HS : Hid (∀ j, j < 16 → withR d i (rOut (mgF r) f d i) (rsl (mgF r) (lineF f d i) 4).row j = rOut (mgF r) f d (i + 1) j) := rOut_step (mgF r) f d i hi4
      have HL : Hid (VdRow (lineF f d i)) := lineF_vd HV.out d hi4
      generalize rOut (mgF r) f d i = o at *
      go_wp2_with fail
      refine wp_region_held_drew (S := fun W => Blk W w.heap.size 16 f 37) (by kernel_rfl) (K1.drew) (fun hHeld => ?_)
      have K1 : Blk wr.drew w.heap.size 16 f 37 := K1.drew
      have K2 : Blk wr.drew (w.heap.size + 1) 16 (fun _ => 0) 37 := K2.drew
      have K3 : Blk wr.drew (w.heap.size + 1 + 1) 16 o 37 := K3.drew
      have HB : Hid (Below w.heap.size w wr.drew) := HB.out.drew
      generalize wr.drew = x0 at *
      refine wpAnyH_take (i := 1) (oi := { dst := some 15, op := _, type := _, pos := _, after := _, guard := _ }) (v := .int .i64 (d : Int)) rfl (by kernel_rfl) (by kernel_rfl) (by kernel_rfl) (fun _ _ _ h => h) (Or.inl ⟨by rfl, by intro w hSw; clear hSw; go_simp; (try with_reducible rfl)⟩) (by assumption) ?_
      try simp only [Act.put, List.setIfInBounds_toArray, List.set_cons_zero, List.set_cons_succ]
      refine wpAnyH_take (i := 2) (oi := { dst := some 16, op := _, type := _, pos := _, after := _, guard := _ }) (v := .int .i64 (i : Int)) rfl (by kernel_rfl) (by kernel_rfl) (by kernel_rfl) (fun _ _ _ h => h) (Or.inl ⟨by rfl, by intro w hSw; clear hSw; go_simp; (try with_reducible rfl)⟩) (by assumption) ?_
      try simp only [Act.put, List.setIfInBounds_toArray, List.set_cons_zero, List.set_cons_succ]
      refine wpAnyH_take (i := 3) (oi := { dst := some 17, op := _, type := _, pos := _, after := _, guard := _ }) (v := .agg (mk 16 f)) rfl (by kernel_rfl) (by kernel_rfl) (by kernel_rfl) (fun _ _ _ h => h) (Or.inl ⟨by rfl, fun _ q => execB q rfl rfl⟩) (by assumption) ?_
      try simp only [Act.put, List.setIfInBounds_toArray, List.set_cons_zero, List.set_cons_succ]
      refine wpAnyH_take (i := 4) (oi := { dst := some 18, op := _, type := _, pos := _, after := _, guard := _ }) (v := .int .i64 (d : Int)) rfl (by kernel_rfl) (by kernel_rfl) (by kernel_rfl) (fun _ _ _ h => h) (Or.inl ⟨by rfl, by intro w hSw; clear hSw; go_simp; (try with_reducible rfl)⟩) (by assumption) ?_
      try simp only [Act.put, List.setIfInBounds_toArray, List.set_cons_zero, List.set_cons_succ]
      refine wpAnyH_take (i := 5) (oi := { dst := some 19, op := _, type := _, pos := _, after := _, guard := _ }) (v := .int .i64 (i : Int)) rfl (by kernel_rfl) (by kernel_rfl) (by kernel_rfl) (fun _ _ _ h => h) (Or.inl ⟨by rfl, by intro w hSw; clear hSw; go_simp; (try with_reducible rfl)⟩) (by assumption) ?_
      try simp only [Act.put, List.setIfInBounds_toArray, List.set_cons_zero, List.set_cons_succ]
      refine wpAnyH_take (i := 7) (oi := { dst := some 21, op := _, type := _, pos := _, after := _, guard := _ }) (v := .int .i64 r) rfl (by kernel_rfl) (by kernel_rfl) (by kernel_rfl) (fun _ _ _ h => h) (Or.inl ⟨by rfl, by intro w hSw; clear hSw; go_simp; (try with_reducible rfl)⟩) (by assumption) ?_
      try simp only [Act.put, List.setIfInBounds_toArray, List.set_cons_zero, List.set_cons_succ]
      refine wpAnyH_ready (rs := [0, 6]) (by kernel_rfl) (by simp) ?_
      refine AllReadyH.cons rfl (fun K hK => ?_) ?_
      · refine wp_ofRun (v := .agg (mk 16 o)) (execB K3 rfl rfl) ?_
        clear hHeld
        refine hK.out _ _ K1 (fun hHeld => ?_)
        clear hK K
        try simp only [Act.put, List.setIfInBounds_toArray, List.set_cons_zero, List.set_cons_succ]
        refine wpAnyH_ready (rs := [6]) (by kernel_rfl) (by simp) ?_
        refine AllReadyH.cons rfl (fun K hK => ?_) AllReadyH.nil
        go_simp
        refine (l2NumbersR_nat f d i _ hd hi4).mono ?_
        rintro e x1 ⟨rfl, hb⟩
        have K1 := K1.below hb K1.lt
        have K2 := K2.below hb K2.lt
        have K3 := K3.below hb K3.lt
        have HB : Hid (Below w.heap.size w x1) := HB.out.trans (hb.mono HB.out.size)
        clear hb
        go_wp2_with fail
        clear hHeld
        refine hK.out _ _ K1 (fun hHeld => ?_)
        clear hK K
        try simp only [Act.put, List.setIfInBounds_toArray, List.set_cons_zero, List.set_cons_succ]
        refine wpAnyH_ready (rs := [8]) (by kernel_rfl) (by simp) ?_
        refine AllReadyH.cons rfl (fun K hK => ?_) AllReadyH.nil
        go_simp
        refine (l10Row_any (lineF f d i) r _ HR.out HL.out).mono ?_
        rintro e x2 ⟨rfl, hb⟩
        have K1 := K1.below hb K1.lt
        have K2 := K2.below hb K2.lt
        have K3 := K3.below hb K3.lt
        have HB : Hid (Below w.heap.size w x2) := HB.out.trans (hb.mono HB.out.size)
        clear hb
        go_wp2_with fail
        clear hHeld
        refine hK.out _ _ K1 (fun hHeld => ?_)
        clear hK K
        try simp only [Act.put, List.setIfInBounds_toArray, List.set_cons_zero, List.set_cons_succ]
        refine wpAnyH_ready (rs := [9]) (by kernel_rfl) (by simp) ?_
        refine AllReadyH.cons rfl (fun K hK => ?_) AllReadyH.nil
        go_simp
        refine (l6WithR_any o (rsl (mgF r) (lineF f d i) 4).row d i _ hd hi4).mono ?_
        rintro e x3 ⟨rfl, hb⟩
        have K1 := K1.below hb K1.lt
        have K2 := K2.below hb K2.lt
        have K3 := K3.below hb K3.lt
        have HB : Hid (Below w.heap.size w x3) := HB.out.trans (hb.mono HB.out.size)
        clear hb
        go_wp2_with fail
        clear hHeld
        refine hK.out _ _ K1 (fun hHeld => ?_)
        clear hK K
        try simp only [Act.put, List.setIfInBounds_toArray, List.set_cons_zero, List.set_cons_succ]
        refine wpAnyH_ready (rs := [10]) (by kernel_rfl) (by simp) ?_
        refine AllReadyH.cons rfl (fun K hK => ?_) AllReadyH.nil
        have st1 := run_store_blk (P := Try.prog) (withR d i o (rsl (mgF r) (lineF f d i) 4).row) K3
        have ms1 : (mk 16 (withR d i o (rsl (mgF r) (lineF f d i) 4).row)).size = 16 := mk_size 16 _
        go_simp
        clear st1 ms1
        have K1 := K1.rowOther (w.heap.size + 1 + 1) (mk 16 (withR d i o (rsl (mgF r) (lineF f d i) 4).row)) (by omega)
        have K2 := K2.rowOther (w.heap.size + 1 + 1) (mk 16 (withR d i o (rsl (mgF r) (lineF f d i) 4).row)) (by omega)
        have HB : Hid (Below w.heap.size w (x3.setRow (w.heap.size + 1 + 1) (mk 16 (withR d i o (rsl (mgF r) (lineF f d i) 4).row)))) := below_setRow HB.out (by omega) _
        have K3 := (K3.row 16 (withR d i o (rsl (mgF r) (lineF f d i) 4).row)).congr HS.out
        generalize x3.setRow (w.heap.size + 1 + 1) (mk 16 (withR d i o (rsl (mgF r) (lineF f d i) 4).row)) = x4 at *
        clear hHeld
        refine hK.out _ _ K1 (fun hHeld => ?_)
        clear hK K
        try simp only [Act.put, List.setIfInBounds_toArray, List.set_cons_zero, List.set_cons_succ]
        refine wpAnyH_done (by kernel_rfl) ?_ _
        clear hHeld
        go_wp2_with fail
        go_roundg g
        case rel => exact ⟨i + 1, by omega, by go_num, K1, K2, K3, HB⟩
        case measure => omega
      refine AllReadyH.cons rfl (fun K hK => ?_) AllReadyH.nil
      go_simp
      refine (l2NumbersR_nat f d i _ hd hi4).mono ?_
      rintro e x1 ⟨rfl, hb⟩
      have K1 := K1.below hb K1.lt
      have K2 := K2.below hb K2.lt
      have K3 := K3.below hb K3.lt
      have HB : Hid (Below w.heap.size w x1) := HB.out.trans (hb.mono HB.out.size)
      clear hb
      go_wp2_with fail
      clear hHeld
      refine hK.out _ _ K1 (fun hHeld => ?_)
      clear hK K
      try simp only [Act.put, List.setIfInBounds_toArray, List.set_cons_zero, List.set_cons_succ]
      refine wpAnyH_ready (rs := [0, 8]) (by kernel_rfl) (by simp) ?_
      refine AllReadyH.cons rfl (fun K hK => ?_) ?_
      · refine wp_ofRun (v := .agg (mk 16 o)) (execB K3 rfl rfl) ?_
        clear hHeld
        refine hK.out _ _ K1 (fun hHeld => ?_)
        clear hK K
        try simp only [Act.put, List.setIfInBounds_toArray, List.set_cons_zero, List.set_cons_succ]
        refine wpAnyH_ready (rs := [8]) (by kernel_rfl) (by simp) ?_
        refine AllReadyH.cons rfl (fun K hK => ?_) AllReadyH.nil
        go_simp
        refine (l10Row_any (lineF f d i) r _ HR.out HL.out).mono ?_
        rintro e x2 ⟨rfl, hb⟩
        have K1 := K1.below hb K1.lt
        have K2 := K2.below hb K2.lt
        have K3 := K3.below hb K3.lt
        have HB : Hid (Below w.heap.size w x2) := HB.out.trans (hb.mono HB.out.size)
        clear hb
        go_wp2_with fail
        clear hHeld
        refine hK.out _ _ K1 (fun hHeld => ?_)
        clear hK K
        try simp only [Act.put, List.setIfInBounds_toArray, List.set_cons_zero, List.set_cons_succ]
        refine wpAnyH_ready (rs := [9]) (by kernel_rfl) (by simp) ?_
        refine AllReadyH.cons rfl (fun K hK => ?_) AllReadyH.nil
        go_simp
        refine (l6WithR_any o (rsl (mgF r) (lineF f d i) 4).row d i _ hd hi4).mono ?_
        rintro e x3 ⟨rfl, hb⟩
        have K1 := K1.below hb K1.lt
        have K2 := K2.below hb K2.lt
        have K3 := K3.below hb K3.lt
        have HB : Hid (Below w.heap.size w x3) := HB.out.trans (hb.mono HB.out.size)
        clear hb
        go_wp2_with fail
        clear hHeld
        refine hK.out _ _ K1 (fun hHeld => ?_)
        clear hK K
        try simp only [Act.put, List.setIfInBounds_toArray, List.set_cons_zero, List.set_cons_succ]
        refine wpAnyH_ready (rs := [10]) (by kernel_rfl) (by simp) ?_
        refine AllReadyH.cons rfl (fun K hK => ?_) AllReadyH.nil
        have st1 := run_store_blk (P := Try.prog) (withR d i o (rsl (mgF r) (lineF f d i) 4).row) K3
        have ms1 : (mk 16 (withR d i o (rsl (mgF r) (lineF f d i) 4).row)).size = 16 := mk_size 16 _
        go_simp
        clear st1 ms1
        have K1 := K1.rowOther (w.heap.size + 1 + 1) (mk 16 (withR d i o (rsl (mgF r) (lineF f d i) 4).row)) (by omega)
        have K2 := K2.rowOther (w.heap.size + 1 + 1) (mk 16 (withR d i o (rsl (mgF r) (lineF f d i) 4).row)) (by omega)
        have HB : Hid (Below w.heap.size w (x3.setRow (w.heap.size + 1 + 1) (mk 16 (withR d i o (rsl (mgF r) (lineF f d i) 4).row)))) := below_setRow HB.out (by omega) _
        have K3 := (K3.row 16 (withR d i o (rsl (mgF r) (lineF f d i) 4).row)).congr HS.out
        generalize x3.setRow (w.heap.size + 1 + 1) (mk 16 (withR d i o (rsl (mgF r) (lineF f d i) 4).row)) = x4 at *
        clear hHeld
        refine hK.out _ _ K1 (fun hHeld => ?_)
        clear hK K
        try simp only [Act.put, List.setIfInBounds_toArray, List.set_cons_zero, List.set_cons_succ]
        refine wpAnyH_done (by kernel_rfl) ?_ _
        clear hHeld
        go_wp2_with fail
        go_roundg g
        case rel => exact ⟨i + 1, by omega, by go_num, K1, K2, K3, HB⟩
        case measure => omega
      refine AllReadyH.cons rfl (fun K hK => ?_) AllReadyH.nil
      go_simp
      refine (l10Row_any (lineF f d i) r _ HR.out HL.out).mono ?_
      rintro e x2 ⟨rfl, hb⟩
      have K1 := K1.below hb K1.lt
      have K2 := K2.below hb K2.lt
      have K3 := K3.below hb K3.lt
      have HB : Hid (Below w.heap.size w x2) := HB.out.trans (hb.mono HB.out.size)
      clear hb
      go_wp2_with fail
      clear hHeld
      refine hK.out _ _ K1 (fun hHeld => ?_)
      clear hK K
      try simp only [Act.put, List.setIfInBounds_toArray, List.set_cons_zero, List.set_cons_succ]
      refine wpAnyH_ready (rs := [0]) (by kernel_rfl) (by simp) ?_
      refine AllReadyH.cons rfl (fun K hK => ?_) AllReadyH.nil
      refine wp_ofRun (v := .agg (mk 16 o)) (execB K3 rfl rfl) ?_
      clear hHeld
      refine hK.out _ _ K1 (fun hHeld => ?_)
      clear hK K
      try simp only [Act.put, List.setIfInBounds_toArray, List.set_cons_zero, List.set_cons_succ]
      refine wpAnyH_ready (rs := [9]) (by kernel_rfl) (by simp) ?_
      refine AllReadyH.cons rfl (fun K hK => ?_) AllReadyH.nil
      go_simp
      refine (l6WithR_any o (rsl (mgF r) (lineF f d i) 4).row d i _ hd hi4).mono ?_
      rintro e x3 ⟨rfl, hb⟩
      have K1 := K1.below hb K1.lt
      have K2 := K2.below hb K2.lt
      have K3 := K3.below hb K3.lt
      have HB : Hid (Below w.heap.size w x3) := HB.out.trans (hb.mono HB.out.size)
      clear hb
      go_wp2_with fail
      clear hHeld
      refine hK.out _ _ K1 (fun hHeld => ?_)
      clear hK K
      try simp only [Act.put, List.setIfInBounds_toArray, List.set_cons_zero, List.set_cons_succ]
      refine wpAnyH_ready (rs := [10]) (by kernel_rfl) (by simp) ?_
      refine AllReadyH.cons rfl (fun K hK => ?_) AllReadyH.nil
      have st1 := run_store_blk (P := Try.prog) (withR d i o (rsl (mgF r) (lineF f d i) 4).row) K3
      have ms1 : (mk 16 (withR d i o (rsl (mgF r) (lineF f d i) 4).row)).size = 16 := mk_size 16 _
      go_simp
      clear st1 ms1
      have K1 := K1.rowOther (w.heap.size + 1 + 1) (mk 16 (withR d i o (rsl (mgF r) (lineF f d i) 4).row)) (by omega)
      have K2 := K2.rowOther (w.heap.size + 1 + 1) (mk 16 (withR d i o (rsl (mgF r) (lineF f d i) 4).row)) (by omega)
      have HB : Hid (Below w.heap.size w (x3.setRow (w.heap.size + 1 + 1) (mk 16 (withR d i o (rsl (mgF r) (lineF f d i) 4).row)))) := below_setRow HB.out (by omega) _
      have K3 := (K3.row 16 (withR d i o (rsl (mgF r) (lineF f d i) 4).row)).congr HS.out
      generalize x3.setRow (w.heap.size + 1 + 1) (mk 16 (withR d i o (rsl (mgF r) (lineF f d i) 4).row)) = x4 at *
      clear hHeld
      refine hK.out _ _ K1 (fun hHeld => ?_)
      clear hK K
      try simp only [Act.put, List.setIfInBounds_toArray, List.set_cons_zero, List.set_cons_succ]
      refine wpAnyH_done (by kernel_rfl) ?_ _
      clear hHeld
      go_wp2_with fail
      go_roundg g
      case rel => exact ⟨i + 1, by omega, by go_num, K1, K2, K3, HB⟩
      case measure => omega
end Go.Proofs.Ytblcojacmjbjcaa
