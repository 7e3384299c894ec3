/-
  The contracts of FirstParting in the reference and in the program.
-/
import Derived.Test.YtekdodlkimgbhaaCommonTop
namespace Go.Proofs.Ytekdodlkimgbhaa
open Go.RowKit Plain
attribute [local go_sem] store_new
set_option linter.unusedVariables false
set_option linter.unusedSimpArgs false
theorem rb_load (f h : Nat → Int) {k n : Nat} (hk : k < n) : mk 16 (fun i => flatF (rbL f h n) (k * 16 + i)) = mk 16 (pyB f h k) := by
  rw [flatF_mk (rbL_all f h _) (rbL_get f h hk)]
  exact mk_congr fun i hi => fn_cl _ i hi
theorem rb_cat {t : TypeId} {b g c n : Nat} {w : World} {f h : Nat → Int} (ho : OwnsL t 16 w b (.slice (some ⟨g, 0, none⟩) n c) (rbL f h n)) : CAt w g (n * 16) (flatF (rbL f h n)) := by
  have HLN := rbL_len f h n
  obtain ⟨_, _, e1, _, CO⟩ := KRow.of_list (rbL_all f h n) (OwnsL.len HLN ho)
  cases e1
  rwa [HLN] at CO
theorem loadA16 {ops : Array Oper} {rest : List Oper} {o : Oper} {a : Act} {w : World} {Q : Exit → Act → World → Prop} {x : Operand} {b n off : Nat} {f F : Nat → Int} (hg : CAt w b n f) (he : mk 16 (fun i => f (off + i)) = mk 16 F) (hm : off + 16 ≤ n)
    (hgd : o.guard = none) (ho : o.op = .load 31 x) (hx : a.eval x = .pointer (some ⟨b, off, none⟩))
    (h : wpList Try.prog ops Q rest (a.put o.dst (.agg (mk 16 F))) w) : wpList Try.prog ops Q (o :: rest) a w :=
  loadAB hg hm hgd ho hx (by rw [he]; exact h)
set_option maxHeartbeats 8000000 in
set_option maxRecDepth 20000 in
theorem specPart_any (f : Nat → Int) (v : Value) (n : Nat) (h : Nat → Int) (f2 : Nat → Int) (v2 : Value) (m : Nat) (h2 : Nat → Int) (w : World) (hv : KRow 4 w v n h) (hn : n ≤ 1048576) (hv2 : KRow 4 w v2 m h2) (hm : m ≤ 1048576) :
    Calls Try.prog 34 #[.agg (rpl f v), .agg (rpl f2 v2)] w fun e w' => e = .returned (.tuple #[.int .i64 (ptgR f h n f2 h2 m).1, .bool (ptgR f h n f2 h2 m).2]) ∧ Below w.heap.size w w' := by
  have z16 := zero16
  have hb0 := ((Below.refl w.heap.size w).alloc (Nat.le_refl _) (.cells (rpl f v) 34)).alloc (by simp) (.cells (rpl f2 v2) 34)
  have K1 := (Rp.new w f v 34).alloc (.cells (rpl f2 v2) 34)
  have K2 := Rp.new (w.alloc (.cells (rpl f v) 34)) f2 v2 34
  simp only [World.size_alloc] at K2
  have HV := Lib.hid (hv.below hb0)
  have HV2 := Lib.hid (hv2.below hb0)
  have HB0 := Lib.hid hb0
  clear hb0
  have HCon := Lib.hid (fun W q => l11Boards_any f v n h W q hn)
  have HCon2 := Lib.hid (fun W q => l11Boards_any f2 v2 m h2 W q hm)
  by_cases hR : RpOk f h n
  · have HR := Lib.hid (rplO_yes hR)
    by_cases hR2 : RpOk f2 h2 m
    · have HR2 := Lib.hid (rplO_yes hR2)
      have hn40 := hR.2.1
      have hm40 := hR2.2.1
      have HPS := Lib.hid (fun k (e : ptgK f h f2 h2 (min (n + 1) (m + 1)) = some k) => ptg_some ⟨hR, hR2⟩ e)
      have HPN := Lib.hid (fun (e : ptgK f h f2 h2 (min (n + 1) (m + 1)) = none) => ptg_none ⟨hR, hR2⟩ e)
      have HE : Hid (rbR f h n = rbL f h (n + 1)) := by show _ = _; unfold rbR; rw [if_pos hR]
      have HE2 : Hid (rbR f2 h2 m = rbL f2 h2 (m + 1)) := by show _ = _; unfold rbR; rw [if_pos hR2]
      rw [HE.out, rbL_len] at HCon
      rw [HE2.out, rbL_len] at HCon2
      clear hR hR2 HE HE2
      go_enter Try.func34, Try.ntmps34
      go_wp2_with ((with_reducible show wpList _ _ _ (Oper.mk _ (Op.load 34 _) _ _ _ _ :: _) _ _); refine loadRp (K1) rfl rfl rfl ?_)
      have hc1 := HCon.out _ HV.out
      rw [HR.out] at hc1
      refine hc1.mono ?_
      clear hc1 HCon
      rintro e w1 ⟨u1, rfl, ⟨ga, ca, rfl⟩, ho1, hb⟩
      have K2 := K2.below hb K2.lt
      have HV2 := Lib.hid (HV2.out.below hb)
      have HB := Lib.hid (HB0.out.trans (hb.mono HB0.out.size))
      have HO1 := Lib.hid ho1
      clear hb HB0 HV HR K1 ho1
      go_wp2_with ((with_reducible show wpList _ _ _ (Oper.mk _ (Op.load 34 _) _ _ _ _ :: _) _ _); refine loadRp (K2) rfl rfl rfl ?_)
      have hc2 := HCon2.out _ HV2.out
      rw [HR2.out] at hc2
      refine hc2.mono ?_
      clear hc2 HCon2
      rintro e w2 ⟨u2, rfl, ⟨gb, cb, rfl⟩, ho2, hb⟩
      have HO1 := Lib.hid (OwnsL.below HO1.out hb)
      have HO2 := Lib.hid ho2
      have HB : Hid (Below w.heap.size w w2) := HB.out.trans (hb.mono HB.out.size)
      clear hb HV2 HR2 K2 ho2
      have CA := rb_cat HO1.out
      have CB := rb_cat HO2.out
      clear HO1 HO2
      go_wp2_with fail
      go_loopg [12] (min (n + 1) (m + 1)) (fun gk s12 wr => ∃ k : Nat, k + gk = min (n + 1) (m + 1) ∧ s12 = .int .i64 k ∧ Hid (ptgK f h f2 h2 k = none) ∧ CAt wr ga ((n + 1) * 16) (flatF (rbL f h (n + 1))) ∧ CAt wr gb ((m + 1) * 16) (flatF (rbL f2 h2 (m + 1))) ∧ Hid (Below w.heap.size w wr))
      case atStart => exact ⟨0, by omega, rfl, rfl, CA, CB, HB⟩
      case round =>
        clear CA CB HB
        obtain ⟨k, hkg, rfl, HN, CA, CB, HB⟩ := hrel
        have hk0 : (0 : Int) ≤ (k : Int) := by omega
        cases gk with
        | zero =>
          have HQ := Lib.hid (HPN.out (by have : min (n + 1) (m + 1) = k := by omega
                                          rw [this]; exact HN.out))
          clear HPS HPN
          by_cases hkn : k < n + 1
          · have h1 : (k : Int) < (n : Int) + 1 := by omega
            have h2' : ¬ ((k : Int) < (m : Int) + 1) := by omega
            go_wp2_with fail
            go_ret2
            exact ⟨by rw [HQ.out]; rfl, HB.out⟩
          · have h1 : ¬ ((k : Int) < (n : Int) + 1) := by omega
            go_wp2_with fail
            go_ret2
            exact ⟨by rw [HQ.out]; rfl, HB.out⟩
        | succ gk2 =>
          have h1 : (k : Int) < (n : Int) + 1 := by omega
          have h2' : (k : Int) < (m : Int) + 1 := by omega
          have h4 : ¬ ((n : Int) + 1 ≤ (k : Int)) := by omega
          have h5 : ¬ ((m : Int) + 1 ≤ (k : Int)) := by omega
          have HF1 := Lib.hid (rb_load f h (k := k) (n := n + 1) (by omega))
          have HF2 := Lib.hid (rb_load f2 h2 (k := k) (n := m + 1) (by omega))
          cases hS : sameB (pyB f h k) (pyB f2 h2 k) with
          | true =>
            have iE : ∀ (w : World), (Op.equalIn 10000 31 (.agg (mk 16 (pyB f h k))) (.agg (mk 16 (pyB f2 h2 k)))).run Try.prog w = .ok true w := fun w => by rw [eqB 9996, hS]
            have HN2 : Hid (ptgK f h f2 h2 (k + 1) = none) := ptgK_same HN.out hS
            clear hS
            go_wp2_with fail
            refine wp_region_held_drew (S := fun W => CAt W ga ((n + 1) * 16) (flatF (rbL f h (n + 1))) ∧ CAt W gb ((m + 1) * 16) (flatF (rbL f2 h2 (m + 1)))) (by kernel_rfl) (⟨CA.drew, CB.drew⟩) (fun hHeld => ?_)
            have CA : CAt wr.drew ga ((n + 1) * 16) (flatF (rbL f h (n + 1))) := CA.drew
            have CB : CAt wr.drew gb ((m + 1) * 16) (flatF (rbL f2 h2 (m + 1))) := CB.drew
            have HB : Hid (Below w.heap.size w wr.drew) := HB.out.drew
            generalize wr.drew = x0 at *
            refine wpAnyH_take (i := 0) (oi := { dst := some 43, op := _, type := _, pos := _, after := _, guard := _ }) (v := .slice (some ⟨ga, 0, none⟩) (n + 1) ca) rfl (by kernel_rfl) (by kernel_rfl) (by kernel_rfl) (fun _ _ _ h => h) (Or.inl ⟨by rfl, by intro w hSw; clear hSw; go_simp; (try with_reducible rfl)⟩) (by assumption) ?_
            try simp only [Act.put, List.setIfInBounds_toArray, List.set_cons_zero, List.set_cons_succ]
            refine wpAnyH_take (i := 1) (oi := { dst := some 44, op := _, type := _, pos := _, after := _, guard := _ }) (v := .int .i64 (k : Int)) rfl (by kernel_rfl) (by kernel_rfl) (by kernel_rfl) (fun _ _ _ h => h) (Or.inl ⟨by rfl, by intro w hSw; clear hSw; go_simp; (try with_reducible rfl)⟩) (by assumption) ?_
            try simp only [Act.put, List.setIfInBounds_toArray, List.set_cons_zero, List.set_cons_succ]
            refine wpAnyH_take (i := 2) (oi := { dst := some 45, op := _, type := _, pos := _, after := _, guard := _ }) (v := .pointer (some ⟨ga, k * 16, none⟩)) rfl (by kernel_rfl) (by kernel_rfl) (by kernel_rfl) (fun _ _ _ h => h) (Or.inl ⟨by rfl, by intro w hSw; clear hSw; go_simp; (try with_reducible rfl)⟩) (by assumption) ?_
            try simp only [Act.put, List.setIfInBounds_toArray, List.set_cons_zero, List.set_cons_succ]
            refine wpAnyH_take (i := 3) (oi := { dst := some 46, op := _, type := _, pos := _, after := _, guard := _ }) (v := .agg (mk 16 (pyB f h k))) rfl (by kernel_rfl) (by kernel_rfl) (by kernel_rfl) (fun _ _ _ h => h) (Or.inl ⟨by rfl, fun W q => Eq.mp (congrArg (fun z => (execOp _ _).run Try.prog W = .ok (.value (.agg z)) W) HF1.out) (execAB q.1 (by omega) rfl rfl)⟩) (by assumption) ?_
            try simp only [Act.put, List.setIfInBounds_toArray, List.set_cons_zero, List.set_cons_succ]
            refine wpAnyH_take (i := 4) (oi := { dst := some 47, op := _, type := _, pos := _, after := _, guard := _ }) (v := .slice (some ⟨gb, 0, none⟩) (m + 1) cb) rfl (by kernel_rfl) (by kernel_rfl) (by kernel_rfl) (fun _ _ _ h => h) (Or.inl ⟨by rfl, by intro w hSw; clear hSw; go_simp; (try with_reducible rfl)⟩) (by assumption) ?_
            try simp only [Act.put, List.setIfInBounds_toArray, List.set_cons_zero, List.set_cons_succ]
            refine wpAnyH_take (i := 5) (oi := { dst := some 48, op := _, type := _, pos := _, after := _, guard := _ }) (v := .int .i64 (k : Int)) rfl (by kernel_rfl) (by kernel_rfl) (by kernel_rfl) (fun _ _ _ h => h) (Or.inl ⟨by rfl, by intro w hSw; clear hSw; go_simp; (try with_reducible rfl)⟩) (by assumption) ?_
            try simp only [Act.put, List.setIfInBounds_toArray, List.set_cons_zero, List.set_cons_succ]
            refine wpAnyH_take (i := 6) (oi := { dst := some 49, op := _, type := _, pos := _, after := _, guard := _ }) (v := .pointer (some ⟨gb, k * 16, none⟩)) rfl (by kernel_rfl) (by kernel_rfl) (by kernel_rfl) (fun _ _ _ h => h) (Or.inl ⟨by rfl, by intro w hSw; clear hSw; go_simp; (try with_reducible rfl)⟩) (by assumption) ?_
            try simp only [Act.put, List.setIfInBounds_toArray, List.set_cons_zero, List.set_cons_succ]
            refine wpAnyH_take (i := 7) (oi := { dst := some 50, op := _, type := _, pos := _, after := _, guard := _ }) (v := .agg (mk 16 (pyB f2 h2 k))) rfl (by kernel_rfl) (by kernel_rfl) (by kernel_rfl) (fun _ _ _ h => h) (Or.inl ⟨by rfl, fun W q => Eq.mp (congrArg (fun z => (execOp _ _).run Try.prog W = .ok (.value (.agg z)) W) HF2.out) (execAB q.2 (by omega) rfl rfl)⟩) (by assumption) ?_
            try simp only [Act.put, List.setIfInBounds_toArray, List.set_cons_zero, List.set_cons_succ]
            refine wpAnyH_take (i := 8) (oi := { dst := some 51, op := _, type := _, pos := _, after := _, guard := _ }) (v := .bool false) rfl (by kernel_rfl) (by kernel_rfl) (by kernel_rfl) (fun _ _ _ h => h) (Or.inl ⟨by rfl, by intro w hSw; clear hSw; go_simp; (try with_reducible rfl)⟩) (by assumption) ?_
            try simp only [Act.put, List.setIfInBounds_toArray, List.set_cons_zero, List.set_cons_succ]
            refine wpAnyH_done (by kernel_rfl) ?_ _
            clear hHeld
            clear iE HF1 HF2
            go_wp2_with fail
            go_roundg gk2
            case rel => exact ⟨k + 1, by omega, by go_num, HN2, CA, CB, HB⟩
            case measure => omega
          | false =>
            have iE : ∀ (w : World), (Op.equalIn 10000 31 (.agg (mk 16 (pyB f h k))) (.agg (mk 16 (pyB f2 h2 k)))).run Try.prog w = .ok false w := fun w => by rw [eqB 9996, hS]
            have HQ := Lib.hid (HPS.out k (ptgK_part HN.out hS _ (by omega)))
            clear hS HPS HPN
            go_wp2_with fail
            refine wp_region_held_drew (S := fun W => CAt W ga ((n + 1) * 16) (flatF (rbL f h (n + 1))) ∧ CAt W gb ((m + 1) * 16) (flatF (rbL f2 h2 (m + 1)))) (by kernel_rfl) (⟨CA.drew, CB.drew⟩) (fun hHeld => ?_)
            have CA : CAt wr.drew ga ((n + 1) * 16) (flatF (rbL f h (n + 1))) := CA.drew
            have CB : CAt wr.drew gb ((m + 1) * 16) (flatF (rbL f2 h2 (m + 1))) := CB.drew
            have HB : Hid (Below w.heap.size w wr.drew) := HB.out.drew
            generalize wr.drew = x0 at *
            refine wpAnyH_take (i := 0) (oi := { dst := some 43, op := _, type := _, pos := _, after := _, guard := _ }) (v := .slice (some ⟨ga, 0, none⟩) (n + 1) ca) rfl (by kernel_rfl) (by kernel_rfl) (by kernel_rfl) (fun _ _ _ h => h) (Or.inl ⟨by rfl, by intro w hSw; clear hSw; go_simp; (try with_reducible rfl)⟩) (by assumption) ?_
            try simp only [Act.put, List.setIfInBounds_toArray, List.set_cons_zero, List.set_cons_succ]
            refine wpAnyH_take (i := 1) (oi := { dst := some 44, op := _, type := _, pos := _, after := _, guard := _ }) (v := .int .i64 (k : Int)) rfl (by kernel_rfl) (by kernel_rfl) (by kernel_rfl) (fun _ _ _ h => h) (Or.inl ⟨by rfl, by intro w hSw; clear hSw; go_simp; (try with_reducible rfl)⟩) (by assumption) ?_
            try simp only [Act.put, List.setIfInBounds_toArray, List.set_cons_zero, List.set_cons_succ]
            refine wpAnyH_take (i := 2) (oi := { dst := some 45, op := _, type := _, pos := _, after := _, guard := _ }) (v := .pointer (some ⟨ga, k * 16, none⟩)) rfl (by kernel_rfl) (by kernel_rfl) (by kernel_rfl) (fun _ _ _ h => h) (Or.inl ⟨by rfl, by intro w hSw; clear hSw; go_simp; (try with_reducible rfl)⟩) (by assumption) ?_
            try simp only [Act.put, List.setIfInBounds_toArray, List.set_cons_zero, List.set_cons_succ]
            refine wpAnyH_take (i := 3) (oi := { dst := some 46, op := _, type := _, pos := _, after := _, guard := _ }) (v := .agg (mk 16 (pyB f h k))) rfl (by kernel_rfl) (by kernel_rfl) (by kernel_rfl) (fun _ _ _ h => h) (Or.inl ⟨by rfl, fun W q => Eq.mp (congrArg (fun z => (execOp _ _).run Try.prog W = .ok (.value (.agg z)) W) HF1.out) (execAB q.1 (by omega) rfl rfl)⟩) (by assumption) ?_
            try simp only [Act.put, List.setIfInBounds_toArray, List.set_cons_zero, List.set_cons_succ]
            refine wpAnyH_take (i := 4) (oi := { dst := some 47, op := _, type := _, pos := _, after := _, guard := _ }) (v := .slice (some ⟨gb, 0, none⟩) (m + 1) cb) rfl (by kernel_rfl) (by kernel_rfl) (by kernel_rfl) (fun _ _ _ h => h) (Or.inl ⟨by rfl, by intro w hSw; clear hSw; go_simp; (try with_reducible rfl)⟩) (by assumption) ?_
            try simp only [Act.put, List.setIfInBounds_toArray, List.set_cons_zero, List.set_cons_succ]
            refine wpAnyH_take (i := 5) (oi := { dst := some 48, op := _, type := _, pos := _, after := _, guard := _ }) (v := .int .i64 (k : Int)) rfl (by kernel_rfl) (by kernel_rfl) (by kernel_rfl) (fun _ _ _ h => h) (Or.inl ⟨by rfl, by intro w hSw; clear hSw; go_simp; (try with_reducible rfl)⟩) (by assumption) ?_
            try simp only [Act.put, List.setIfInBounds_toArray, List.set_cons_zero, List.set_cons_succ]
            refine wpAnyH_take (i := 6) (oi := { dst := some 49, op := _, type := _, pos := _, after := _, guard := _ }) (v := .pointer (some ⟨gb, k * 16, none⟩)) rfl (by kernel_rfl) (by kernel_rfl) (by kernel_rfl) (fun _ _ _ h => h) (Or.inl ⟨by rfl, by intro w hSw; clear hSw; go_simp; (try with_reducible rfl)⟩) (by assumption) ?_
            try simp only [Act.put, List.setIfInBounds_toArray, List.set_cons_zero, List.set_cons_succ]
            refine wpAnyH_take (i := 7) (oi := { dst := some 50, op := _, type := _, pos := _, after := _, guard := _ }) (v := .agg (mk 16 (pyB f2 h2 k))) rfl (by kernel_rfl) (by kernel_rfl) (by kernel_rfl) (fun _ _ _ h => h) (Or.inl ⟨by rfl, fun W q => Eq.mp (congrArg (fun z => (execOp _ _).run Try.prog W = .ok (.value (.agg z)) W) HF2.out) (execAB q.2 (by omega) rfl rfl)⟩) (by assumption) ?_
            try simp only [Act.put, List.setIfInBounds_toArray, List.set_cons_zero, List.set_cons_succ]
            refine wpAnyH_take (i := 8) (oi := { dst := some 51, op := _, type := _, pos := _, after := _, guard := _ }) (v := .bool true) rfl (by kernel_rfl) (by kernel_rfl) (by kernel_rfl) (fun _ _ _ h => h) (Or.inl ⟨by rfl, by intro w hSw; clear hSw; go_simp; (try with_reducible rfl)⟩) (by assumption) ?_
            try simp only [Act.put, List.setIfInBounds_toArray, List.set_cons_zero, List.set_cons_succ]
            refine wpAnyH_done (by kernel_rfl) ?_ _
            clear hHeld
            clear iE HF1 HF2
            go_wp2_with fail
            go_ret2
            exact ⟨by rw [HQ.out]; rfl, HB.out⟩
    · rw [ptg_no (f := f) (h := h) (n := n) (f' := f2) (g := h2) (m := m) (fun q => hR2 q.2)]
      have HR2 := Lib.hid (rplO_no hR2)
      clear hR hR2
      go_enter Try.func34, Try.ntmps34
      go_wp2_with ((with_reducible show wpList _ _ _ (Oper.mk _ (Op.load 34 _) _ _ _ _ :: _) _ _); refine loadRp (K1) rfl rfl rfl ?_)
      have hc1 := HCon.out _ HV.out
      rw [HR.out] at hc1
      refine hc1.mono ?_
      clear hc1 HCon
      rintro e w1 ⟨u1, rfl, ⟨ga, ca, rfl⟩, ho1, hb⟩
      have K2 := K2.below hb K2.lt
      have HV2 := Lib.hid (HV2.out.below hb)
      have HB := Lib.hid (HB0.out.trans (hb.mono HB0.out.size))
      have HO1 := Lib.hid ho1
      clear hb HB0 HV HR K1 ho1
      go_wp2_with ((with_reducible show wpList _ _ _ (Oper.mk _ (Op.load 34 _) _ _ _ _ :: _) _ _); refine loadRp (K2) rfl rfl rfl ?_)
      have hc2 := HCon2.out _ HV2.out
      rw [HR2.out] at hc2
      refine hc2.mono ?_
      clear hc2 HCon2
      rintro e w2 ⟨u2, rfl, ⟨gb, cb, rfl⟩, ho2, hb⟩
      have HO1 := Lib.hid (OwnsL.below HO1.out hb)
      have HO2 := Lib.hid ho2
      have HB : Hid (Below w.heap.size w w2) := HB.out.trans (hb.mono HB.out.size)
      clear hb HV2 HR2 K2 ho2
      go_wp2_with fail
      go_ret2
      exact ⟨rfl, HB.out⟩
  · rw [ptg_no (f := f) (h := h) (n := n) (f' := f2) (g := h2) (m := m) (fun q => hR q.1)]
    have HR := Lib.hid (rplO_no hR)
    clear hR
    go_enter Try.func34, Try.ntmps34
    go_wp2_with ((with_reducible show wpList _ _ _ (Oper.mk _ (Op.load 34 _) _ _ _ _ :: _) _ _); refine loadRp (K1) rfl rfl rfl ?_)
    have hc1 := HCon.out _ HV.out
    rw [HR.out] at hc1
    refine hc1.mono ?_
    clear hc1 HCon
    rintro e w1 ⟨u1, rfl, ⟨ga, ca, rfl⟩, ho1, hb⟩
    have K2 := K2.below hb K2.lt
    have HV2 := Lib.hid (HV2.out.below hb)
    have HB := Lib.hid (HB0.out.trans (hb.mono HB0.out.size))
    have HO1 := Lib.hid ho1
    clear hb HB0 HV HR K1 ho1
    go_wp2_with ((with_reducible show wpList _ _ _ (Oper.mk _ (Op.load 34 _) _ _ _ _ :: _) _ _); refine loadRp (K2) rfl rfl rfl ?_)
    have hc2 := HCon2.out _ HV2.out
    refine hc2.mono ?_
    clear hc2 HCon2
    rintro e w2 ⟨u2, rfl, ⟨gb, cb, rfl⟩, ho2, hb⟩
    have HO1 := Lib.hid (OwnsL.below HO1.out hb)
    have HO2 := Lib.hid ho2
    have HB : Hid (Below w.heap.size w w2) := HB.out.trans (hb.mono HB.out.size)
    clear hb HV2 K2 ho2
    go_wp2_with fail
    go_ret2
    exact ⟨rfl, HB.out⟩
set_option maxHeartbeats 8000000 in
set_option maxRecDepth 20000 in
theorem implPart_any (f : Nat → Int) (v : Value) (n : Nat) (h : Nat → Int) (f2 : Nat → Int) (v2 : Value) (m : Nat) (h2 : Nat → Int) (w : World) (hv : KRow 4 w v n h) (hn : n ≤ 1048576) (hv2 : KRow 4 w v2 m h2) (hm : m ≤ 1048576) :
    Calls Try.prog 35 #[.agg (rpl f v), .agg (rpl f2 v2)] w fun e w' => e = .returned (.tuple #[.int .i64 (ptgR f h n f2 h2 m).1, .bool (ptgR f h n f2 h2 m).2]) ∧ Below w.heap.size w w' := by
  have z16 := zero16
  have hb0 := ((Below.refl w.heap.size w).alloc (Nat.le_refl _) (.cells (rpl f v) 34)).alloc (by simp) (.cells (rpl f2 v2) 34)
  have K1 := (Rp.new w f v 34).alloc (.cells (rpl f2 v2) 34)
  have K2 := Rp.new (w.alloc (.cells (rpl f v) 34)) f2 v2 34
  simp only [World.size_alloc] at K2
  have HV := Lib.hid (hv.below hb0)
  have HV2 := Lib.hid (hv2.below hb0)
  have HB0 := Lib.hid hb0
  clear hb0
  have HCon := Lib.hid (fun W q => implIs_any f v n h W q hn)
  have HCon2 := Lib.hid (fun W q => implIs_any f2 v2 m h2 W q hm)
  by_cases hR : RpOk f h n
  · have HR := Lib.hid (rplO_yes hR)
    by_cases hR2 : RpOk f2 h2 m
    · have HR2 := Lib.hid (rplO_yes hR2)
      have hn40 := hR.2.1
      have hm40 := hR2.2.1
      have HPS := Lib.hid (fun k (e : ptgK f h f2 h2 (min (n + 1) (m + 1)) = some k) => ptg_some ⟨hR, hR2⟩ e)
      have HPN := Lib.hid (fun (e : ptgK f h f2 h2 (min (n + 1) (m + 1)) = none) => ptg_none ⟨hR, hR2⟩ e)
      have HRa := Lib.hid hR
      have HRb := Lib.hid hR2
      clear hR hR2
      go_enter Try.func35, Try.ntmps35
      go_wp2_with ((with_reducible show wpList _ _ _ (Oper.mk _ (Op.load 34 _) _ _ _ _ :: _) _ _); refine loadRp (K1) rfl rfl rfl ?_)
      have hc1 := HCon.out _ HV.out
      rw [HR.out] at hc1
      refine hc1.mono ?_
      clear hc1 HCon
      rintro e w1 ⟨rfl, hb⟩
      have K1 := K1.below hb K1.lt
      have K2 := K2.below hb K2.lt
      have HV := Lib.hid (HV.out.below hb)
      have HV2 := Lib.hid (HV2.out.below hb)
      have HB := Lib.hid (HB0.out.trans (hb.mono HB0.out.size))
      clear hb HB0 HR
      go_wp2_with ((with_reducible show wpList _ _ _ (Oper.mk _ (Op.load 34 _) _ _ _ (some _) :: _) _ _); refine loadRpg (K2) rfl rfl rfl ?_)
      have hc2 := HCon2.out _ HV2.out
      rw [HR2.out] at hc2
      refine hc2.mono ?_
      clear hc2 HCon2
      rintro e w2 ⟨rfl, hb⟩
      have K1 := K1.below hb K1.lt
      have K2 := K2.below hb K2.lt
      have HV := Lib.hid (HV.out.below hb)
      have HV2 := Lib.hid (HV2.out.below hb)
      have HB : Hid (Below w.heap.size w w2) := HB.out.trans (hb.mono HB.out.size)
      clear hb HR2
      go_wp2_with ((with_reducible show wpList _ _ _ (Oper.mk _ (Op.load 34 _) _ _ _ _ :: _) _ _); refine loadRp (K2) rfl rfl rfl ?_)
      refine (repBoards_any f2 _ m h2 _ HV2.out HRb.out).mono ?_
      rintro e w3 ⟨gb, cb, rfl, ho2, hb⟩
      have K1 := K1.below hb K1.lt
      have HV := Lib.hid (HV.out.below hb)
      have HB : Hid (Below w.heap.size w w3) := HB.out.trans (hb.mono HB.out.size)
      have CB := rb_cat ho2
      clear hb ho2 K2 HV2
      go_wp2_with ((with_reducible show wpList _ _ _ (Oper.mk _ (Op.load 34 _) _ _ _ _ :: _) _ _); refine loadRp (K1) rfl rfl rfl ?_)
      refine (repBoards_any f _ n h _ HV.out HRa.out).mono ?_
      rintro e w4 ⟨ga, ca, rfl, ho1, hb⟩
      have HB : Hid (Below w.heap.size w w4) := HB.out.trans (hb.mono HB.out.size)
      have CA := rb_cat ho1
      have CB := CB.below hb
      clear hb ho1 K1 HV
      go_wp2_with fail
      go_loopg [22] (n + 1) (fun gk s22 wr => ∃ k : Nat, k + gk = n + 1 ∧ s22 = .int .i64 k ∧ Hid (ptgK f h f2 h2 (min k (m + 1)) = none) ∧ CAt wr ga ((n + 1) * 16) (flatF (rbL f h (n + 1))) ∧ CAt wr gb ((m + 1) * 16) (flatF (rbL f2 h2 (m + 1))) ∧ Hid (Below w.heap.size w wr))
      case atStart => exact ⟨0, by omega, rfl, (by show ptgK f h f2 h2 (min 0 (m + 1)) = none; rw [Nat.zero_min]; rfl), CA, CB, HB⟩
      case round =>
        clear CA CB HB
        obtain ⟨k, hkg, rfl, HN, CA, CB, HB⟩ := hrel
        have hk0 : (0 : Int) ≤ (k : Int) := by omega
        cases gk with
        | zero =>
          have h1 : ¬ ((k : Int) < (n : Int) + 1) := by omega
          have HQ := Lib.hid (HPN.out (by have : min (n + 1) (m + 1) = min k (m + 1) := by omega
                                          rw [this]; exact HN.out))
          clear HPS HPN
          go_wp2_with fail
          go_ret2
          exact ⟨by rw [HQ.out]; rfl, HB.out⟩
        | succ gk2 =>
          have h1 : (k : Int) < (n : Int) + 1 := by omega
          have h4 : ¬ ((n : Int) + 1 ≤ (k : Int)) := by omega
          have HF1 := Lib.hid (rb_load f h (k := k) (n := n + 1) (by omega))
          have K8 := Blk.new wr 16 (pyB f h k) 31
          have CA8 := CA.alloc (.cells (mk 16 (pyB f h k)) 31)
          have CB8 := CB.alloc (.cells (mk 16 (pyB f h k)) 31)
          have HB8 : Hid (Below w.heap.size w (wr.alloc (.cells (mk 16 (pyB f h k)) 31))) := HB.out.alloc HB.out.size _
          by_cases hkm : k < m + 1
          · have h2' : (k : Int) < (m : Int) + 1 := by omega
            have h5 : ¬ ((m : Int) + 1 ≤ (k : Int)) := by omega
            have HF2 := Lib.hid (rb_load f2 h2 (k := k) (n := m + 1) (by omega))
            have HNk : Hid (ptgK f h f2 h2 k = none) := by have : min k (m + 1) = k := by omega
                                                           have q := HN.out
                                                           rw [this] at q; exact q
            cases hS : sameB (pyB f h k) (pyB f2 h2 k) with
            | true =>
              have iE : ∀ (w : World), (Op.equalIn 10000 31 (.agg (mk 16 (pyB f h k))) (.agg (mk 16 (pyB f2 h2 k)))).run Try.prog w = .ok true w := fun w => by rw [eqB 9996, hS]
              have HN2 : Hid (ptgK f h f2 h2 (min (k + 1) (m + 1)) = none) := by
                have : min (k + 1) (m + 1) = k + 1 := by omega
                show _ = _
                rw [this]; exact ptgK_same HNk.out hS
              clear hS
              go_wp2_with ((with_reducible show wpList _ _ _ (Oper.mk _ (Op.load 31 _) _ _ _ _ :: _) _ _); refine loadA16 CA HF1.out (by omega) rfl rfl rfl ?_)
              refine wp_region_held_drew (S := fun W => CAt W gb ((m + 1) * 16) (flatF (rbL f2 h2 (m + 1))) ∧ Blk W wr.heap.size 16 (pyB f h k) 31) (by kernel_rfl) (⟨CB8.drew, K8.drew⟩) (fun hHeld => ?_)
              have CA : CAt (wr.alloc (.cells (mk 16 (pyB f h k)) 31)).drew ga ((n + 1) * 16) (flatF (rbL f h (n + 1))) := CA8.drew
              have CB : CAt (wr.alloc (.cells (mk 16 (pyB f h k)) 31)).drew gb ((m + 1) * 16) (flatF (rbL f2 h2 (m + 1))) := CB8.drew
              have HB : Hid (Below w.heap.size w (wr.alloc (.cells (mk 16 (pyB f h k)) 31)).drew) := HB8.out.drew
              generalize (wr.alloc (.cells (mk 16 (pyB f h k)) 31)).drew = x0 at *
              refine wpAnyH_take (i := 0) (oi := { dst := some 27, op := _, type := _, pos := _, after := _, guard := _ }) (v := .int .i64 (k : Int)) rfl (by kernel_rfl) (by kernel_rfl) (by kernel_rfl) (fun _ _ _ h => h) (Or.inl ⟨by rfl, by intro w hSw; clear hSw; go_simp; (try with_reducible rfl)⟩) (by assumption) ?_
              try simp only [Act.put, List.setIfInBounds_toArray, List.set_cons_zero, List.set_cons_succ]
              refine wpAnyH_take (i := 1) (oi := { dst := some 28, op := _, type := _, pos := _, after := _, guard := _ }) (v := .slice (some ⟨gb, 0, none⟩) (m + 1) cb) rfl (by kernel_rfl) (by kernel_rfl) (by kernel_rfl) (fun _ _ _ h => h) (Or.inl ⟨by rfl, by intro w hSw; clear hSw; go_simp; (try with_reducible rfl)⟩) (by assumption) ?_
              try simp only [Act.put, List.setIfInBounds_toArray, List.set_cons_zero, List.set_cons_succ]
              refine wpAnyH_take (i := 2) (oi := { dst := some 29, op := _, type := _, pos := _, after := _, guard := _ }) (v := .int .i64 ((m : Int) + 1)) rfl (by kernel_rfl) (by kernel_rfl) (by kernel_rfl) (fun _ _ _ h => h) (Or.inl ⟨by rfl, by intro w hSw; clear hSw; go_simp; (try with_reducible rfl)⟩) (by assumption) ?_
              try simp only [Act.put, List.setIfInBounds_toArray, List.set_cons_zero, List.set_cons_succ]
              refine wpAnyH_take (i := 3) (oi := { dst := some 30, op := _, type := _, pos := _, after := _, guard := _ }) (v := .bool true) rfl (by kernel_rfl) (by kernel_rfl) (by kernel_rfl) (fun _ _ _ h => h) (Or.inl ⟨by rfl, by intro w hSw; clear hSw; go_simp; (try with_reducible rfl)⟩) (by assumption) ?_
              try simp only [Act.put, List.setIfInBounds_toArray, List.set_cons_zero, List.set_cons_succ]
              refine wpAnyH_take (i := 4) (oi := { dst := some 31, op := _, type := _, pos := _, after := _, guard := _ }) (v := .bool true) rfl (by kernel_rfl) (by kernel_rfl) (by kernel_rfl) (fun _ _ _ h => h) (Or.inl ⟨by rfl, by intro w hSw; clear hSw; go_simp; (try with_reducible rfl)⟩) (by assumption) ?_
              try simp only [Act.put, List.setIfInBounds_toArray, List.set_cons_zero, List.set_cons_succ]
              refine wpAnyH_take (i := 5) (oi := { dst := some 32, op := _, type := _, pos := _, after := _, guard := _ }) (v := .agg (mk 16 (pyB f h k))) rfl (by kernel_rfl) (by kernel_rfl) (by kernel_rfl) (fun _ _ _ h => h) (Or.inl ⟨by rfl, fun _ q => execB q.2 rfl rfl⟩) (by assumption) ?_
              try simp only [Act.put, List.setIfInBounds_toArray, List.set_cons_zero, List.set_cons_succ]
              refine wpAnyH_take (i := 6) (oi := { dst := some 33, op := _, type := _, pos := _, after := _, guard := _ }) (v := .slice (some ⟨gb, 0, none⟩) (m + 1) cb) rfl (by kernel_rfl) (by kernel_rfl) (by kernel_rfl) (fun _ _ _ h => h) (Or.inl ⟨by rfl, by intro w hSw; clear hSw; go_simp; (try with_reducible rfl)⟩) (by assumption) ?_
              try simp only [Act.put, List.setIfInBounds_toArray, List.set_cons_zero, List.set_cons_succ]
              refine wpAnyH_take (i := 7) (oi := { dst := some 34, op := _, type := _, pos := _, after := _, guard := _ }) (v := .int .i64 (k : Int)) rfl (by kernel_rfl) (by kernel_rfl) (by kernel_rfl) (fun _ _ _ h => h) (Or.inl ⟨by rfl, by intro w hSw; clear hSw; go_simp; (try with_reducible rfl)⟩) (by assumption) ?_
              try simp only [Act.put, List.setIfInBounds_toArray, List.set_cons_zero, List.set_cons_succ]
              refine wpAnyH_take (i := 8) (oi := { dst := some 35, op := _, type := _, pos := _, after := _, guard := _ }) (v := .pointer (some ⟨gb, k * 16, none⟩)) rfl (by kernel_rfl) (by kernel_rfl) (by kernel_rfl) (fun _ _ _ h => h) (Or.inl ⟨by rfl, by intro w hSw; clear hSw; go_simp; (try with_reducible rfl)⟩) (by assumption) ?_
              try simp only [Act.put, List.setIfInBounds_toArray, List.set_cons_zero, List.set_cons_succ]
              refine wpAnyH_take (i := 9) (oi := { dst := some 36, op := _, type := _, pos := _, after := _, guard := _ }) (v := .agg (mk 16 (pyB f2 h2 k))) rfl (by kernel_rfl) (by kernel_rfl) (by kernel_rfl) (fun _ _ _ h => h) (Or.inl ⟨by rfl, fun W q => Eq.mp (congrArg (fun z => (execOp _ _).run Try.prog W = .ok (.value (.agg z)) W) HF2.out) (execAB q.1 (by omega) rfl rfl)⟩) (by assumption) ?_
              try simp only [Act.put, List.setIfInBounds_toArray, List.set_cons_zero, List.set_cons_succ]
              refine wpAnyH_take (i := 10) (oi := { dst := some 37, op := _, type := _, pos := _, after := _, guard := _ }) (v := .bool false) rfl (by kernel_rfl) (by kernel_rfl) (by kernel_rfl) (fun _ _ _ h => h) (Or.inl ⟨by rfl, by intro w hSw; clear hSw; go_simp; (try with_reducible rfl)⟩) (by assumption) ?_
              try simp only [Act.put, List.setIfInBounds_toArray, List.set_cons_zero, List.set_cons_succ]
              refine wpAnyH_take (i := 11) (oi := { dst := some 38, op := _, type := _, pos := _, after := _, guard := _ }) (v := .bool false) rfl (by kernel_rfl) (by kernel_rfl) (by kernel_rfl) (fun _ _ _ h => h) (Or.inl ⟨by rfl, by intro w hSw; clear hSw; go_simp; (try with_reducible rfl)⟩) (by assumption) ?_
              try simp only [Act.put, List.setIfInBounds_toArray, List.set_cons_zero, List.set_cons_succ]
              refine wpAnyH_done (by kernel_rfl) ?_ _
              clear hHeld
              clear iE HF1 HF2
              go_wp2_with fail
              go_roundg gk2
              case rel => exact ⟨k + 1, by omega, by go_num, HN2, CA, CB, HB⟩
              case measure => omega
            | false =>
              have iE : ∀ (w : World), (Op.equalIn 10000 31 (.agg (mk 16 (pyB f h k))) (.agg (mk 16 (pyB f2 h2 k)))).run Try.prog w = .ok false w := fun w => by rw [eqB 9996, hS]
              have HQ := Lib.hid (HPS.out k (ptgK_part HNk.out hS _ (by omega)))
              clear hS HPS HPN
              go_wp2_with ((with_reducible show wpList _ _ _ (Oper.mk _ (Op.load 31 _) _ _ _ _ :: _) _ _); refine loadA16 CA HF1.out (by omega) rfl rfl rfl ?_)
              refine wp_region_held_drew (S := fun W => CAt W gb ((m + 1) * 16) (flatF (rbL f2 h2 (m + 1))) ∧ Blk W wr.heap.size 16 (pyB f h k) 31) (by kernel_rfl) (⟨CB8.drew, K8.drew⟩) (fun hHeld => ?_)
              have CA : CAt (wr.alloc (.cells (mk 16 (pyB f h k)) 31)).drew ga ((n + 1) * 16) (flatF (rbL f h (n + 1))) := CA8.drew
              have CB : CAt (wr.alloc (.cells (mk 16 (pyB f h k)) 31)).drew gb ((m + 1) * 16) (flatF (rbL f2 h2 (m + 1))) := CB8.drew
              have HB : Hid (Below w.heap.size w (wr.alloc (.cells (mk 16 (pyB f h k)) 31)).drew) := HB8.out.drew
              generalize (wr.alloc (.cells (mk 16 (pyB f h k)) 31)).drew = x0 at *
              refine wpAnyH_take (i := 0) (oi := { dst := some 27, op := _, type := _, pos := _, after := _, guard := _ }) (v := .int .i64 (k : Int)) rfl (by kernel_rfl) (by kernel_rfl) (by kernel_rfl) (fun _ _ _ h => h) (Or.inl ⟨by rfl, by intro w hSw; clear hSw; go_simp; (try with_reducible rfl)⟩) (by assumption) ?_
              try simp only [Act.put, List.setIfInBounds_toArray, List.set_cons_zero, List.set_cons_succ]
              refine wpAnyH_take (i := 1) (oi := { dst := some 28, op := _, type := _, pos := _, after := _, guard := _ }) (v := .slice (some ⟨gb, 0, none⟩) (m + 1) cb) rfl (by kernel_rfl) (by kernel_rfl) (by kernel_rfl) (fun _ _ _ h => h) (Or.inl ⟨by rfl, by intro w hSw; clear hSw; go_simp; (try with_reducible rfl)⟩) (by assumption) ?_
              try simp only [Act.put, List.setIfInBounds_toArray, List.set_cons_zero, List.set_cons_succ]
              refine wpAnyH_take (i := 2) (oi := { dst := some 29, op := _, type := _, pos := _, after := _, guard := _ }) (v := .int .i64 ((m : Int) + 1)) rfl (by kernel_rfl) (by kernel_rfl) (by kernel_rfl) (fun _ _ _ h => h) (Or.inl ⟨by rfl, by intro w hSw; clear hSw; go_simp; (try with_reducible rfl)⟩) (by assumption) ?_
              try simp only [Act.put, List.setIfInBounds_toArray, List.set_cons_zero, List.set_cons_succ]
              refine wpAnyH_take (i := 3) (oi := { dst := some 30, op := _, type := _, pos := _, after := _, guard := _ }) (v := .bool true) rfl (by kernel_rfl) (by kernel_rfl) (by kernel_rfl) (fun _ _ _ h => h) (Or.inl ⟨by rfl, by intro w hSw; clear hSw; go_simp; (try with_reducible rfl)⟩) (by assumption) ?_
              try simp only [Act.put, List.setIfInBounds_toArray, List.set_cons_zero, List.set_cons_succ]
              refine wpAnyH_take (i := 4) (oi := { dst := some 31, op := _, type := _, pos := _, after := _, guard := _ }) (v := .bool true) rfl (by kernel_rfl) (by kernel_rfl) (by kernel_rfl) (fun _ _ _ h => h) (Or.inl ⟨by rfl, by intro w hSw; clear hSw; go_simp; (try with_reducible rfl)⟩) (by assumption) ?_
              try simp only [Act.put, List.setIfInBounds_toArray, List.set_cons_zero, List.set_cons_succ]
              refine wpAnyH_take (i := 5) (oi := { dst := some 32, op := _, type := _, pos := _, after := _, guard := _ }) (v := .agg (mk 16 (pyB f h k))) rfl (by kernel_rfl) (by kernel_rfl) (by kernel_rfl) (fun _ _ _ h => h) (Or.inl ⟨by rfl, fun _ q => execB q.2 rfl rfl⟩) (by assumption) ?_
              try simp only [Act.put, List.setIfInBounds_toArray, List.set_cons_zero, List.set_cons_succ]
              refine wpAnyH_take (i := 6) (oi := { dst := some 33, op := _, type := _, pos := _, after := _, guard := _ }) (v := .slice (some ⟨gb, 0, none⟩) (m + 1) cb) rfl (by kernel_rfl) (by kernel_rfl) (by kernel_rfl) (fun _ _ _ h => h) (Or.inl ⟨by rfl, by intro w hSw; clear hSw; go_simp; (try with_reducible rfl)⟩) (by assumption) ?_
              try simp only [Act.put, List.setIfInBounds_toArray, List.set_cons_zero, List.set_cons_succ]
              refine wpAnyH_take (i := 7) (oi := { dst := some 34, op := _, type := _, pos := _, after := _, guard := _ }) (v := .int .i64 (k : Int)) rfl (by kernel_rfl) (by kernel_rfl) (by kernel_rfl) (fun _ _ _ h => h) (Or.inl ⟨by rfl, by intro w hSw; clear hSw; go_simp; (try with_reducible rfl)⟩) (by assumption) ?_
              try simp only [Act.put, List.setIfInBounds_toArray, List.set_cons_zero, List.set_cons_succ]
              refine wpAnyH_take (i := 8) (oi := { dst := some 35, op := _, type := _, pos := _, after := _, guard := _ }) (v := .pointer (some ⟨gb, k * 16, none⟩)) rfl (by kernel_rfl) (by kernel_rfl) (by kernel_rfl) (fun _ _ _ h => h) (Or.inl ⟨by rfl, by intro w hSw; clear hSw; go_simp; (try with_reducible rfl)⟩) (by assumption) ?_
              try simp only [Act.put, List.setIfInBounds_toArray, List.set_cons_zero, List.set_cons_succ]
              refine wpAnyH_take (i := 9) (oi := { dst := some 36, op := _, type := _, pos := _, after := _, guard := _ }) (v := .agg (mk 16 (pyB f2 h2 k))) rfl (by kernel_rfl) (by kernel_rfl) (by kernel_rfl) (fun _ _ _ h => h) (Or.inl ⟨by rfl, fun W q => Eq.mp (congrArg (fun z => (execOp _ _).run Try.prog W = .ok (.value (.agg z)) W) HF2.out) (execAB q.1 (by omega) rfl rfl)⟩) (by assumption) ?_
              try simp only [Act.put, List.setIfInBounds_toArray, List.set_cons_zero, List.set_cons_succ]
              refine wpAnyH_take (i := 10) (oi := { dst := some 37, op := _, type := _, pos := _, after := _, guard := _ }) (v := .bool true) rfl (by kernel_rfl) (by kernel_rfl) (by kernel_rfl) (fun _ _ _ h => h) (Or.inl ⟨by rfl, by intro w hSw; clear hSw; go_simp; (try with_reducible rfl)⟩) (by assumption) ?_
              try simp only [Act.put, List.setIfInBounds_toArray, List.set_cons_zero, List.set_cons_succ]
              refine wpAnyH_take (i := 11) (oi := { dst := some 38, op := _, type := _, pos := _, after := _, guard := _ }) (v := .bool true) rfl (by kernel_rfl) (by kernel_rfl) (by kernel_rfl) (fun _ _ _ h => h) (Or.inl ⟨by rfl, by intro w hSw; clear hSw; go_simp; (try with_reducible rfl)⟩) (by assumption) ?_
              try simp only [Act.put, List.setIfInBounds_toArray, List.set_cons_zero, List.set_cons_succ]
              refine wpAnyH_done (by kernel_rfl) ?_ _
              clear hHeld
              clear iE HF1 HF2
              go_wp2_with fail
              go_ret2
              exact ⟨by rw [HQ.out]; rfl, HB.out⟩
          · have h2' : ¬ ((k : Int) < (m : Int) + 1) := by omega
            have HN2 : Hid (ptgK f h f2 h2 (min (k + 1) (m + 1)) = none) := by
              have e1 : min (k + 1) (m + 1) = min k (m + 1) := by omega
              show _ = _
              rw [e1]; exact HN.out
            go_wp2_with ((with_reducible show wpList _ _ _ (Oper.mk _ (Op.load 31 _) _ _ _ _ :: _) _ _); refine loadA16 CA HF1.out (by omega) rfl rfl rfl ?_)
            refine wp_region_held_drew (S := fun W => CAt W gb ((m + 1) * 16) (flatF (rbL f2 h2 (m + 1))) ∧ Blk W wr.heap.size 16 (pyB f h k) 31) (by kernel_rfl) (⟨CB8.drew, K8.drew⟩) (fun hHeld => ?_)
            have CA : CAt (wr.alloc (.cells (mk 16 (pyB f h k)) 31)).drew ga ((n + 1) * 16) (flatF (rbL f h (n + 1))) := CA8.drew
            have CB : CAt (wr.alloc (.cells (mk 16 (pyB f h k)) 31)).drew gb ((m + 1) * 16) (flatF (rbL f2 h2 (m + 1))) := CB8.drew
            have HB : Hid (Below w.heap.size w (wr.alloc (.cells (mk 16 (pyB f h k)) 31)).drew) := HB8.out.drew
            generalize (wr.alloc (.cells (mk 16 (pyB f h k)) 31)).drew = x0 at *
            refine wpAnyH_take (i := 0) (oi := { dst := some 27, op := _, type := _, pos := _, after := _, guard := _ }) (v := .int .i64 (k : Int)) rfl (by kernel_rfl) (by kernel_rfl) (by kernel_rfl) (fun _ _ _ h => h) (Or.inl ⟨by rfl, by intro w hSw; clear hSw; go_simp; (try with_reducible rfl)⟩) (by assumption) ?_
            try simp only [Act.put, List.setIfInBounds_toArray, List.set_cons_zero, List.set_cons_succ]
            refine wpAnyH_take (i := 1) (oi := { dst := some 28, op := _, type := _, pos := _, after := _, guard := _ }) (v := .slice (some ⟨gb, 0, none⟩) (m + 1) cb) rfl (by kernel_rfl) (by kernel_rfl) (by kernel_rfl) (fun _ _ _ h => h) (Or.inl ⟨by rfl, by intro w hSw; clear hSw; go_simp; (try with_reducible rfl)⟩) (by assumption) ?_
            try simp only [Act.put, List.setIfInBounds_toArray, List.set_cons_zero, List.set_cons_succ]
            refine wpAnyH_take (i := 2) (oi := { dst := some 29, op := _, type := _, pos := _, after := _, guard := _ }) (v := .int .i64 ((m : Int) + 1)) rfl (by kernel_rfl) (by kernel_rfl) (by kernel_rfl) (fun _ _ _ h => h) (Or.inl ⟨by rfl, by intro w hSw; clear hSw; go_simp; (try with_reducible rfl)⟩) (by assumption) ?_
            try simp only [Act.put, List.setIfInBounds_toArray, List.set_cons_zero, List.set_cons_succ]
            refine wpAnyH_take (i := 3) (oi := { dst := some 30, op := _, type := _, pos := _, after := _, guard := _ }) (v := .bool false) rfl (by kernel_rfl) (by kernel_rfl) (by kernel_rfl) (fun _ _ _ h => h) (Or.inl ⟨by rfl, by intro w hSw; clear hSw; go_simp; (try with_reducible rfl)⟩) (by assumption) ?_
            try simp only [Act.put, List.setIfInBounds_toArray, List.set_cons_zero, List.set_cons_succ]
            refine wpAnyH_take (i := 4) (oi := { dst := some 31, op := _, type := _, pos := _, after := _, guard := _ }) (v := .bool false) rfl (by kernel_rfl) (by kernel_rfl) (by kernel_rfl) (fun _ _ _ h => h) (Or.inl ⟨by rfl, by intro w hSw; clear hSw; go_simp; (try with_reducible rfl)⟩) (by assumption) ?_
            try simp only [Act.put, List.setIfInBounds_toArray, List.set_cons_zero, List.set_cons_succ]
            refine wpAnyH_take (i := 5) (oi := { dst := some 32, op := _, type := _, pos := _, after := _, guard := _ }) (v := undef) rfl (by kernel_rfl) (by kernel_rfl) (by kernel_rfl) (fun _ _ _ h => h) (Or.inr ⟨by rfl, rfl⟩) (by assumption) ?_
            try simp only [Act.put, List.setIfInBounds_toArray, List.set_cons_zero, List.set_cons_succ]
            refine wpAnyH_take (i := 6) (oi := { dst := some 33, op := _, type := _, pos := _, after := _, guard := _ }) (v := undef) rfl (by kernel_rfl) (by kernel_rfl) (by kernel_rfl) (fun _ _ _ h => h) (Or.inr ⟨by rfl, rfl⟩) (by assumption) ?_
            try simp only [Act.put, List.setIfInBounds_toArray, List.set_cons_zero, List.set_cons_succ]
            refine wpAnyH_take (i := 7) (oi := { dst := some 34, op := _, type := _, pos := _, after := _, guard := _ }) (v := undef) rfl (by kernel_rfl) (by kernel_rfl) (by kernel_rfl) (fun _ _ _ h => h) (Or.inr ⟨by rfl, rfl⟩) (by assumption) ?_
            try simp only [Act.put, List.setIfInBounds_toArray, List.set_cons_zero, List.set_cons_succ]
            refine wpAnyH_take (i := 8) (oi := { dst := some 35, op := _, type := _, pos := _, after := _, guard := _ }) (v := undef) rfl (by kernel_rfl) (by kernel_rfl) (by kernel_rfl) (fun _ _ _ h => h) (Or.inr ⟨by rfl, rfl⟩) (by assumption) ?_
            try simp only [Act.put, List.setIfInBounds_toArray, List.set_cons_zero, List.set_cons_succ]
            refine wpAnyH_take (i := 9) (oi := { dst := some 36, op := _, type := _, pos := _, after := _, guard := _ }) (v := undef) rfl (by kernel_rfl) (by kernel_rfl) (by kernel_rfl) (fun _ _ _ h => h) (Or.inr ⟨by rfl, rfl⟩) (by assumption) ?_
            try simp only [Act.put, List.setIfInBounds_toArray, List.set_cons_zero, List.set_cons_succ]
            refine wpAnyH_take (i := 10) (oi := { dst := some 37, op := _, type := _, pos := _, after := _, guard := _ }) (v := undef) rfl (by kernel_rfl) (by kernel_rfl) (by kernel_rfl) (fun _ _ _ h => h) (Or.inr ⟨by rfl, rfl⟩) (by assumption) ?_
            try simp only [Act.put, List.setIfInBounds_toArray, List.set_cons_zero, List.set_cons_succ]
            refine wpAnyH_take (i := 11) (oi := { dst := some 38, op := _, type := _, pos := _, after := _, guard := _ }) (v := .bool false) rfl (by kernel_rfl) (by kernel_rfl) (by kernel_rfl) (fun _ _ _ h => h) (Or.inl ⟨by rfl, by intro w hSw; clear hSw; go_simp; (try with_reducible rfl)⟩) (by assumption) ?_
            try simp only [Act.put, List.setIfInBounds_toArray, List.set_cons_zero, List.set_cons_succ]
            refine wpAnyH_done (by kernel_rfl) ?_ _
            clear hHeld
            clear HF1
            go_wp2_with fail
            go_roundg gk2
            case rel => exact ⟨k + 1, by omega, by go_num, HN2, CA, CB, HB⟩
            case measure => omega
    · rw [ptg_no (f := f) (h := h) (n := n) (f' := f2) (g := h2) (m := m) (fun q => hR2 q.2)]
      have HR2 := Lib.hid (rplO_no hR2)
      clear hR hR2
      go_enter Try.func35, Try.ntmps35
      go_wp2_with ((with_reducible show wpList _ _ _ (Oper.mk _ (Op.load 34 _) _ _ _ _ :: _) _ _); refine loadRp (K1) rfl rfl rfl ?_)
      have hc1 := HCon.out _ HV.out
      rw [HR.out] at hc1
      refine hc1.mono ?_
      clear hc1 HCon
      rintro e w1 ⟨rfl, hb⟩
      have K1 := K1.below hb K1.lt
      have K2 := K2.below hb K2.lt
      have HV := Lib.hid (HV.out.below hb)
      have HV2 := Lib.hid (HV2.out.below hb)
      have HB := Lib.hid (HB0.out.trans (hb.mono HB0.out.size))
      clear hb HB0 HR
      go_wp2_with ((with_reducible show wpList _ _ _ (Oper.mk _ (Op.load 34 _) _ _ _ (some _) :: _) _ _); refine loadRpg (K2) rfl rfl rfl ?_)
      have hc2 := HCon2.out _ HV2.out
      rw [HR2.out] at hc2
      refine hc2.mono ?_
      clear hc2 HCon2
      rintro e w2 ⟨rfl, hb⟩
      have K1 := K1.below hb K1.lt
      have K2 := K2.below hb K2.lt
      have HV := Lib.hid (HV.out.below hb)
      have HV2 := Lib.hid (HV2.out.below hb)
      have HB : Hid (Below w.heap.size w w2) := HB.out.trans (hb.mono HB.out.size)
      clear hb HR2
      go_wp2_with fail
      go_ret2
      exact ⟨rfl, HB.out⟩
  · rw [ptg_no (f := f) (h := h) (n := n) (f' := f2) (g := h2) (m := m) (fun q => hR q.1)]
    have HR := Lib.hid (rplO_no hR)
    clear hR
    go_enter Try.func35, Try.ntmps35
    go_wp2_with ((with_reducible show wpList _ _ _ (Oper.mk _ (Op.load 34 _) _ _ _ _ :: _) _ _); refine loadRp (K1) rfl rfl rfl ?_)
    have hc1 := HCon.out _ HV.out
    rw [HR.out] at hc1
    refine hc1.mono ?_
    clear hc1 HCon
    rintro e w1 ⟨rfl, hb⟩
    have K1 := K1.below hb K1.lt
    have K2 := K2.below hb K2.lt
    have HV := Lib.hid (HV.out.below hb)
    have HV2 := Lib.hid (HV2.out.below hb)
    have HB := Lib.hid (HB0.out.trans (hb.mono HB0.out.size))
    clear hb HB0 HR
    go_wp2_with fail
    go_ret2
    exact ⟨rfl, HB.out⟩
end Go.Proofs.Ytekdodlkimgbhaa
