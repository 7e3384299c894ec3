/-
  The contract of the reference's DeadPlaces, for every board.
-/
import Derived.Test.YtlboglcpbbnbcabPlaceKit
import Derived.Test.YtlboglcpbbnbcabOverR
namespace Go.Proofs.Ytlboglcpbbnbcab
open Go.RowKit Plain
attribute [local go_sem] store_new
set_option linter.unusedVariables false
set_option linter.unusedSimpArgs false
theorem mk_cl_eq {m : Nat} {f g : Nat → Int} (h : mk m f = mk m g) : cl m f = cl m g := cl_inj.2 (mk_inj h)
set_option maxHeartbeats 4000000 in
set_option maxRecDepth 20000 in
theorem specDead_any (f : Nat → Int) (w : World) :
    Calls Try.prog 59 #[.agg (mk 16 f)] w fun e w' => ∃ g cap, e = .returned (.tuple #[.slice (some ⟨g, 0, none⟩) (ddR f).length cap, .bool (vdO f)]) ∧
      OwnsL 70 3 w' w.heap.size (.slice (some ⟨g, 0, none⟩) (ddR f).length cap) (ddR f) ∧ Below w.heap.size w w' := by
  obtain ⟨i0, hi, hz0, hz1, hz2⟩ := info_parts infoA
  have K1 := (Blk.new w 16 f 29).alloc (.cells #[] 70)
  have HB := Lib.hid (((Below.refl w.heap.size w).alloc (Nat.le_refl _) (.cells (mk 16 f) 29)).alloc (by simp) (.cells #[] 70))
  have HO : Hid (OwnsL 70 3 ((w.alloc (.cells (mk 16 f) 29)).alloc (.cells #[] 70)) w.heap.size (.slice (some ⟨w.heap.size + 1, 0, none⟩) 0 0) []) := by
    have := OwnsL.made (t := 70) (m := 3) (b := w.heap.size) (w.alloc (.cells (mk 16 f) 29)) (by simp)
    simp only [World.size_alloc] at this
    exact this
  by_cases hV : Vd f
  · rw [ddR_yes hV, vdO_yes hV]
    have HV := Lib.hid hV
    clear hV
    go_enter Try.func59, Try.ntmps59
    go_wp2_with ((with_reducible show wpList _ _ _ (Oper.mk _ (Op.load 29 _) _ _ _ _ :: _) _ _); refine loadB (K1) rfl rfl rfl ?_)
    refine (l2Board_yes _ _ HV.out).mono ?_
    rintro e w1 ⟨rfl, hb⟩
    have K1 := K1.below hb K1.lt
    have HO : Hid (OwnsL 70 3 w1 w.heap.size (.slice (some ⟨w.heap.size + 1, 0, none⟩) 0 0) []) := HO.out.below hb
    have HB : Hid (Below w.heap.size w w1) := HB.out.trans (hb.mono HB.out.size)
    clear hb
    go_wp2_with ((with_reducible show wpList _ _ _ (Oper.mk _ (Op.load 29 _) _ _ _ _ :: _) _ _); refine loadB (K1) rfl rfl rfl ?_)
    refine (l8Places_any f _).mono ?_
    rintro e w2 ⟨ga, ca, rfl, ho, hb⟩
    have K1 := K1.below hb K1.lt
    have HNE0 : (Value.slice (some ⟨w.heap.size + 1, 0, none⟩) 0 0).ownBlock ≠ some ga := by
      have h3 := (ho.lt ga rfl).1
      have h4 := (HO.out.lt (w.heap.size + 1) rfl).2
      simp only [Value.ownBlock]
      intro e
      simp only [Option.some.injEq] at e
      omega
    have HO : Hid (OwnsL 70 3 w2 w.heap.size (.slice (some ⟨w.heap.size + 1, 0, none⟩) 0 0) []) := HO.out.below hb
    have HB : Hid (Below w.heap.size w w2) := HB.out.trans (hb.mono HB.out.size)
    obtain ⟨_, _, e1, _, hc⟩ := KRow.of_list (pl_all (plA f)) ho
    cases e1
    have CM : CAt w2 ga ((plL (plA f)).length * 3) (flatF (plL (plA f))) := hc
    have hle : (plL (plA f)).length ≤ 32 := by rw [plL_len]; exact plA_le f
    have HGE := Lib.hid (fun k (hk : k < (plL (plA f)).length) => (show ∃ p, (plA f)[k]? = some p from ⟨(plA f)[k]'(by rw [plL_len] at hk; exact hk), List.getElem?_eq_getElem (by rw [plL_len] at hk; exact hk)⟩))
    have HAT := Lib.hid (fun k p (e : (plA f)[k]? = some p) => pl_at e)
    have HOK := Lib.hid (fun k p (e : (plA f)[k]? = some p) => plA_ok.1 (List.mem_of_getElem? e))
    have HTK := Lib.hid (fun k p (e : (plA f)[k]? = some p) => take_step e)
    have HTA : Hid ((plA f).take (plL (plA f)).length = plA f) := by show _ = _; rw [plL_len]; exact List.take_length
    clear hb ho hc
    generalize hLL : plA f = L at *
    generalize hN : (plL L).length = n at *
    generalize hH : flatF (plL L) = h at *
    have HNE : Hid ((Value.slice (some ⟨w.heap.size + 1, 0, none⟩) 0 0).ownBlock ≠ some ga) := HNE0
    go_wp2_with fail
    go_loopg [4, 6] n (fun gk s4 s6 wr => ∃ (k : Nat) (v : Value), k + gk = n ∧ s6 = .int .i64 k ∧ v = s4 ∧ (∃ gg cap, v = .slice (some ⟨gg, 0, none⟩) (plL (ddL f (L.take k))).length cap) ∧ Hid (OwnsL 70 3 wr w.heap.size v (plL (ddL f (L.take k)))) ∧ Hid (v.ownBlock ≠ some ga) ∧ CAt wr ga (n * 3) h ∧ Blk wr w.heap.size 16 f 29 ∧ Hid (Below w.heap.size w wr))
    case atStart => exact ⟨0, _, by omega, rfl, rfl, ⟨_, _, rfl⟩, HO, HNE, CM, K1, HB⟩
    case round =>
      obtain ⟨k, v, hkg, rfl, rfl, ⟨gg, cap, hv⟩, HO, HNE, CM, K1, HB⟩ := hrel
      subst hv
      cases gk with
      | zero =>
        have hk : ¬ ((k : Int) < (n : Int)) := by omega
        obtain rfl : k = n := by omega
        clear hkg
        have HOe := HO.out
        rw [HTA.out] at HOe
        have HO := Lib.hid HOe
        clear HOe
        go_wp2_with fail
        go_ret2
        rw [HTA.out]
        exact ⟨gg, cap, rfl, HO.out, HB.out⟩
      | succ gk2 =>
        have hk8 : (k : Int) < (n : Int) := by omega
        have hk9 : k < n := by omega
        have hk0 : (0 : Int) ≤ (k : Int) := by omega
        obtain ⟨p, hkp⟩ := HGE.out k hk9
        have HPV : Hid (mk 3 (fun j => h (k * 3 + j)) = mk 3 (plF p)) := HAT.out k p hkp
        have HPO : Hid (PlOk f p) := HOK.out k p hkp
        have HT : Hid (L.take (k + 1) = L.take k ++ [p]) := HTK.out k p hkp
        have HPB : Hid (Vd (plB f p)) := plB_vd HV.out HPO.out
        clear hkp
        have hdl : (plL (ddL f (L.take k))).length ≤ 32 := by
          rw [plL_len]
          have h1 := ddL_le f (L.take k)
          rw [List.length_take] at h1
          omega
        by_cases hz : (movL (plB f p) 4).length = 0
        · have Y : Hid (ddL f (L.take (k + 1)) = ddL f (L.take k) ++ [p]) := by show _ = _; rw [HT.out]; exact ddL_yes hz
          have hzi : ((movL (plB f p) 4).length : Int) = 0 := by omega
          have hzb : (((movL (plB f p) 4).length : Int) == 0) = true := by rw [hzi]; rfl
          clear hz hzi
          go_wp2_with fail
          refine wp_region_held_drew (S := fun W => Blk W w.heap.size 16 f 29 ∧ CAt W ga (n * 3) h) (by kernel_rfl) (⟨K1.drew, CM.drew⟩) (fun hHeld => ?_)
          have K1 : Blk wr.drew w.heap.size 16 f 29 := K1.drew
          have CM : CAt wr.drew ga (n * 3) h := CM.drew
          have BX : Hid (Below wr.heap.size wr wr.drew) := (Below.refl _ wr).drew
          generalize wr.drew = x0 at *
          refine wpAnyH_take (i := 0) (oi := { dst := some 20, op := _, type := _, pos := _, after := _, guard := _ }) (v := .agg (mk 16 f)) rfl (by kernel_rfl) (by kernel_rfl) (by kernel_rfl) (fun _ _ _ h => h) (Or.inl ⟨by rfl, fun _ q => execB q.1 rfl rfl⟩) (by assumption) ?_
          try simp only [Act.put, List.setIfInBounds_toArray, List.set_cons_zero, List.set_cons_succ]
          refine wpAnyH_take (i := 1) (oi := { dst := some 21, op := _, type := _, pos := _, after := _, guard := _ }) (v := .slice (some ⟨ga, 0, none⟩) n ca) rfl (by kernel_rfl) (by kernel_rfl) (by kernel_rfl) (fun _ _ _ h => h) (Or.inl ⟨by rfl, by intro w hSw; clear hSw; go_simp; (try with_reducible rfl)⟩) (by assumption) ?_
          try simp only [Act.put, List.setIfInBounds_toArray, List.set_cons_zero, List.set_cons_succ]
          refine wpAnyH_take (i := 2) (oi := { dst := some 22, op := _, type := _, pos := _, after := _, guard := _ }) (v := .int .i64 (k : Int)) rfl (by kernel_rfl) (by kernel_rfl) (by kernel_rfl) (fun _ _ _ h => h) (Or.inl ⟨by rfl, by intro w hSw; clear hSw; go_simp; (try with_reducible rfl)⟩) (by assumption) ?_
          try simp only [Act.put, List.setIfInBounds_toArray, List.set_cons_zero, List.set_cons_succ]
          refine wpAnyH_take (i := 3) (oi := { dst := some 23, op := _, type := _, pos := _, after := _, guard := _ }) (v := .pointer (some ⟨ga, k * 3, none⟩)) rfl (by kernel_rfl) (by kernel_rfl) (by kernel_rfl) (fun _ _ _ h => h) (Or.inl ⟨by rfl, by intro w hSw; clear hSw; go_simp; (try with_reducible rfl)⟩) (by assumption) ?_
          try simp only [Act.put, List.setIfInBounds_toArray, List.set_cons_zero, List.set_cons_succ]
          refine wpAnyH_take (i := 4) (oi := { dst := some 24, op := _, type := _, pos := _, after := _, guard := _ }) (v := .agg (mk 3 (plF p))) rfl (by kernel_rfl) (by kernel_rfl) (by kernel_rfl) (fun _ _ _ h => h) (Or.inl ⟨by rfl, by intro W q; rw [← HPV.out]; exact execAA q.2 (by omega) rfl rfl⟩) (by assumption) ?_
          try simp only [Act.put, List.setIfInBounds_toArray, List.set_cons_zero, List.set_cons_succ]
          refine wpAnyH_ready (rs := [5]) (by kernel_rfl) (by simp) ?_
          refine AllReadyH.cons rfl (fun K hK => ?_) AllReadyH.nil
          go_simp
          refine (putPl_any f p _ HPO.out).mono ?_
          rintro e x1 ⟨rfl, hb⟩
          have CM := CM.below hb
          have K1 := K1.below hb K1.lt
          have BX : Hid (Below wr.heap.size wr x1) := BX.out.trans (hb.mono BX.out.size)
          clear hb hHeld
          go_wp2_with fail
          refine hK.out _ _ ⟨K1, CM⟩ (fun hHeld => ?_)
          clear hK K
          try simp only [Act.put, List.setIfInBounds_toArray, List.set_cons_zero, List.set_cons_succ]
          refine wpAnyH_ready (rs := [6]) (by kernel_rfl) (by simp) ?_
          refine AllReadyH.cons rfl (fun K hK => ?_) AllReadyH.nil
          go_simp
          refine (l2Moves_any (plB f p) _ HPB.out).mono ?_
          rintro e x2 ⟨gm, cm, rfl, _, hb⟩
          have CM := CM.below hb
          have K1 := K1.below hb K1.lt
          have BX : Hid (Below wr.heap.size wr x2) := BX.out.trans (hb.mono BX.out.size)
          clear hb hHeld
          go_wp2_with fail
          refine hK.out _ _ ⟨K1, CM⟩ (fun hHeld => ?_)
          clear hK K
          try simp only [Act.put, List.setIfInBounds_toArray, List.set_cons_zero, List.set_cons_succ]
          refine wpAnyH_take (i := 7) (oi := { dst := some 27, op := _, type := _, pos := _, after := _, guard := _ }) (v := .int .i64 ((movL (plB f p) 4).length : Int)) rfl (by kernel_rfl) (by kernel_rfl) (by kernel_rfl) (fun _ _ _ h => h) (Or.inl ⟨by rfl, by intro w hSw; clear hSw; go_simp; (try with_reducible rfl)⟩) (by assumption) ?_
          try simp only [Act.put, List.setIfInBounds_toArray, List.set_cons_zero, List.set_cons_succ]
          refine wpAnyH_take (i := 8) (oi := { dst := some 28, op := _, type := _, pos := _, after := _, guard := _ }) (v := .bool true) rfl (by kernel_rfl) (by kernel_rfl) (by kernel_rfl) (fun _ _ _ h => h) (Or.inl ⟨by rfl, by intro W hSw; clear hSw; go_simp⟩) (by assumption) ?_
          try simp only [Act.put, List.setIfInBounds_toArray, List.set_cons_zero, List.set_cons_succ]
          refine wpAnyH_done (by kernel_rfl) ?_ _
          clear hHeld
          have HO : Hid (OwnsL 70 3 x2 w.heap.size (.slice (some ⟨gg, 0, none⟩) (plL (ddL f (L.take k))).length cap) (plL (ddL f (L.take k)))) := owns_below HO.out BX.out
          have HB : Hid (Below w.heap.size w x2) := HB.out.trans (BX.out.mono HB.out.size)
          clear BX
          have hsz := HB.out.size
          go_wp2_with (first | ((with_reducible show wpList _ _ _ (Oper.mk _ (Op.load 70 _) _ _ _ _ :: _) _ _); refine loadAA (CM) (by omega) rfl rfl rfl ?_) | ((with_reducible show wpList _ _ _ (Oper.mk _ (Op.buildSlice _ 1 _) _ _ _ _ :: _) _ _); refine wpl_buildA _ rfl rfl (f := fun j => h (k * 3 + j)) rfl ?_) | (at_builtin; refine wpl_app (v := .slice (some ⟨gg, 0, none⟩) (plL (ddL f (L.take k))).length cap) rfl _ _ 73 rfl w.heap.size 70 i0 _ 3 24 Try.underlying73 hi hz0 hz1 hz2 rfl (by decide) rfl (World.ownsRow.alloc HO.out _) x2.heap.size 0 1 1 (fun j => h (k * 3 + j)) 3 rfl (Blk.new _ _ _ _).at (by omega) (by unfold maxLen; omega) (by omega) (by simp; omega) ?_))
          intro v' w7 R hbl hgr hloc
          obtain ⟨g', cap', hv'⟩ := ownsRow_succ R
          have HVv : Hid (∃ gg cap, v' = .slice (some ⟨gg, 0, none⟩) (plL (ddL f (L.take (k + 1)))).length cap) := ⟨g', cap', by rw [Y.out, plL_snoc, List.length_append]; exact hv'⟩
          have HO7 : Hid (OwnsL 70 3 w7 w.heap.size v' (plL (ddL f (L.take (k + 1))))) := by
            rw [snoc_walk (m := 3) _ (fun j => h (k * 3 + j)), mk_cl_eq HPV.out] at R
            show OwnsL _ _ _ _ _ _
            rw [Y.out, plL_snoc]
            unfold OwnsL
            rw [List.length_append]
            exact R
          have hne2 : (Value.slice (some ⟨gg, 0, none⟩) (plL (ddL f (L.take k))).length cap).ownBlock ≠ some ga := HNE.out
          have HNE2 : Hid (v'.ownBlock ≠ some ga) := by
            intro e
            have h9 := CM.1
            rcases hloc with r | r
            · rw [r] at e; exact hne2 e
            · rw [r] at e; simp at e; omega
          have HB7 : Hid (Below w.heap.size w w7) := (HB.out.alloc hsz _).trans hbl
          have CM := (CM.alloc (.cells (mk 3 (fun j => h (k * 3 + j))) 70)).grownP hgr (fun e => hne2 e.symm)
          have K1 := (K1.alloc (.cells (mk 3 (fun j => h (k * 3 + j))) 70)).grown hgr (fun e => own_not_blk (World.ownsRow.alloc HO.out (.cells (mk 3 (fun j => h (k * 3 + j))) 70)) (K1.alloc _) (by decide) e.symm)
          clear hbl hgr R hv' HO hloc HB hne2
          go_wp2_with fail
          go_roundg gk2
          case rel => exact ⟨k + 1, _, by omega, by go_num, rfl, HVv.out, HO7, HNE2, CM, K1, HB7⟩
          case measure => omega
        · have Y : Hid (ddL f (L.take (k + 1)) = ddL f (L.take k)) := by show _ = _; rw [HT.out]; exact ddL_no hz
          have hzb : (((movL (plB f p) 4).length : Int) == 0) = false := by rw [beq_eq_false_iff_ne]; omega
          clear hz
          go_wp2_with fail
          refine wp_region_held_drew (S := fun W => Blk W w.heap.size 16 f 29 ∧ CAt W ga (n * 3) h) (by kernel_rfl) (⟨K1.drew, CM.drew⟩) (fun hHeld => ?_)
          have K1 : Blk wr.drew w.heap.size 16 f 29 := K1.drew
          have CM : CAt wr.drew ga (n * 3) h := CM.drew
          have BX : Hid (Below wr.heap.size wr wr.drew) := (Below.refl _ wr).drew
          generalize wr.drew = x0 at *
          refine wpAnyH_take (i := 0) (oi := { dst := some 20, op := _, type := _, pos := _, after := _, guard := _ }) (v := .agg (mk 16 f)) rfl (by kernel_rfl) (by kernel_rfl) (by kernel_rfl) (fun _ _ _ h => h) (Or.inl ⟨by rfl, fun _ q => execB q.1 rfl rfl⟩) (by assumption) ?_
          try simp only [Act.put, List.setIfInBounds_toArray, List.set_cons_zero, List.set_cons_succ]
          refine wpAnyH_take (i := 1) (oi := { dst := some 21, op := _, type := _, pos := _, after := _, guard := _ }) (v := .slice (some ⟨ga, 0, none⟩) n ca) rfl (by kernel_rfl) (by kernel_rfl) (by kernel_rfl) (fun _ _ _ h => h) (Or.inl ⟨by rfl, by intro w hSw; clear hSw; go_simp; (try with_reducible rfl)⟩) (by assumption) ?_
          try simp only [Act.put, List.setIfInBounds_toArray, List.set_cons_zero, List.set_cons_succ]
          refine wpAnyH_take (i := 2) (oi := { dst := some 22, op := _, type := _, pos := _, after := _, guard := _ }) (v := .int .i64 (k : Int)) rfl (by kernel_rfl) (by kernel_rfl) (by kernel_rfl) (fun _ _ _ h => h) (Or.inl ⟨by rfl, by intro w hSw; clear hSw; go_simp; (try with_reducible rfl)⟩) (by assumption) ?_
          try simp only [Act.put, List.setIfInBounds_toArray, List.set_cons_zero, List.set_cons_succ]
          refine wpAnyH_take (i := 3) (oi := { dst := some 23, op := _, type := _, pos := _, after := _, guard := _ }) (v := .pointer (some ⟨ga, k * 3, none⟩)) rfl (by kernel_rfl) (by kernel_rfl) (by kernel_rfl) (fun _ _ _ h => h) (Or.inl ⟨by rfl, by intro w hSw; clear hSw; go_simp; (try with_reducible rfl)⟩) (by assumption) ?_
          try simp only [Act.put, List.setIfInBounds_toArray, List.set_cons_zero, List.set_cons_succ]
          refine wpAnyH_take (i := 4) (oi := { dst := some 24, op := _, type := _, pos := _, after := _, guard := _ }) (v := .agg (mk 3 (plF p))) rfl (by kernel_rfl) (by kernel_rfl) (by kernel_rfl) (fun _ _ _ h => h) (Or.inl ⟨by rfl, by intro W q; rw [← HPV.out]; exact execAA q.2 (by omega) rfl rfl⟩) (by assumption) ?_
          try simp only [Act.put, List.setIfInBounds_toArray, List.set_cons_zero, List.set_cons_succ]
          refine wpAnyH_ready (rs := [5]) (by kernel_rfl) (by simp) ?_
          refine AllReadyH.cons rfl (fun K hK => ?_) AllReadyH.nil
          go_simp
          refine (putPl_any f p _ HPO.out).mono ?_
          rintro e x1 ⟨rfl, hb⟩
          have CM := CM.below hb
          have K1 := K1.below hb K1.lt
          have BX : Hid (Below wr.heap.size wr x1) := BX.out.trans (hb.mono BX.out.size)
          clear hb hHeld
          go_wp2_with fail
          refine hK.out _ _ ⟨K1, CM⟩ (fun hHeld => ?_)
          clear hK K
          try simp only [Act.put, List.setIfInBounds_toArray, List.set_cons_zero, List.set_cons_succ]
          refine wpAnyH_ready (rs := [6]) (by kernel_rfl) (by simp) ?_
          refine AllReadyH.cons rfl (fun K hK => ?_) AllReadyH.nil
          go_simp
          refine (l2Moves_any (plB f p) _ HPB.out).mono ?_
          rintro e x2 ⟨gm, cm, rfl, _, hb⟩
          have CM := CM.below hb
          have K1 := K1.below hb K1.lt
          have BX : Hid (Below wr.heap.size wr x2) := BX.out.trans (hb.mono BX.out.size)
          clear hb hHeld
          go_wp2_with fail
          refine hK.out _ _ ⟨K1, CM⟩ (fun hHeld => ?_)
          clear hK K
          try simp only [Act.put, List.setIfInBounds_toArray, List.set_cons_zero, List.set_cons_succ]
          refine wpAnyH_take (i := 7) (oi := { dst := some 27, op := _, type := _, pos := _, after := _, guard := _ }) (v := .int .i64 ((movL (plB f p) 4).length : Int)) rfl (by kernel_rfl) (by kernel_rfl) (by kernel_rfl) (fun _ _ _ h => h) (Or.inl ⟨by rfl, by intro w hSw; clear hSw; go_simp; (try with_reducible rfl)⟩) (by assumption) ?_
          try simp only [Act.put, List.setIfInBounds_toArray, List.set_cons_zero, List.set_cons_succ]
          refine wpAnyH_take (i := 8) (oi := { dst := some 28, op := _, type := _, pos := _, after := _, guard := _ }) (v := .bool false) rfl (by kernel_rfl) (by kernel_rfl) (by kernel_rfl) (fun _ _ _ h => h) (Or.inl ⟨by rfl, by intro W hSw; clear hSw; go_simp⟩) (by assumption) ?_
          try simp only [Act.put, List.setIfInBounds_toArray, List.set_cons_zero, List.set_cons_succ]
          refine wpAnyH_done (by kernel_rfl) ?_ _
          clear hHeld
          have HO : Hid (OwnsL 70 3 x2 w.heap.size (.slice (some ⟨gg, 0, none⟩) (plL (ddL f (L.take k))).length cap) (plL (ddL f (L.take k)))) := owns_below HO.out BX.out
          have HB : Hid (Below w.heap.size w x2) := HB.out.trans (BX.out.mono HB.out.size)
          clear BX
          go_wp2_with fail
          go_roundg gk2
          case rel => exact ⟨k + 1, _, by omega, by go_num, rfl, ⟨gg, cap, by rw [Y.out]⟩, by rw [Y.out]; exact HO, HNE, CM, K1, HB⟩
          case measure => omega
  · rw [ddR_no hV, vdO_no hV]
    go_enter Try.func59, Try.ntmps59
    go_wp2_with ((with_reducible show wpList _ _ _ (Oper.mk _ (Op.load 29 _) _ _ _ _ :: _) _ _); refine loadB (K1) rfl rfl rfl ?_)
    refine (l2Board_no _ _ hV).mono ?_
    rintro e w1 ⟨rfl, hb⟩
    have HO : Hid (OwnsL 70 3 w1 w.heap.size (.slice (some ⟨w.heap.size + 1, 0, none⟩) 0 0) []) := HO.out.below hb
    have HB : Hid (Below w.heap.size w w1) := HB.out.trans (hb.mono HB.out.size)
    clear hb hV
    go_wp2_with fail
    go_ret2
    exact ⟨_, _, rfl, HO.out, HB.out⟩
end Go.Proofs.Ytlboglcpbbnbcab
