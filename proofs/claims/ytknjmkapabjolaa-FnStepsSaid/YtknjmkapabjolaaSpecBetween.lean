/-
  The contracts of the reference's StepBetween.
-/
import Derived.Test.YtknjmkapabjolaaSpecNext
import Derived.Test.YtknjmkapabjolaaSpecDo
import Derived.Test.YtknjmkapabjolaaSpecAdd
import Derived.Test.YtknjmkapabjolaaOver
import Derived.Test.YtknjmkapabjolaaNextPlain
namespace Go.Proofs.Ytknjmkapabjolaa
open Go.RowKit Plain
attribute [local go_sem] store_new
set_option linter.unusedVariables false
set_option linter.unusedSimpArgs false

set_option maxHeartbeats 4000000 in
set_option maxRecDepth 20000 in
theorem specBetween_any (f g : Nat → Int) (w : World) :
    Calls Try.prog 31 #[.agg (mk 16 f), .agg (mk 16 g)] w fun e w' => ∃ gg cap, e = .returned (.tuple #[.slice (some ⟨gg, 0, none⟩) (btR f g).length cap, .bool (vdO f && vdO g)]) ∧
      OwnsL 33 4 w' w.heap.size (.slice (some ⟨gg, 0, none⟩) (btR f g).length cap) (btR f g) ∧ Below w.heap.size w w' := by
  obtain ⟨i0, hi, hz0, hz1, hz2⟩ := info_parts infoT
  have K1 := ((Blk.new w 16 f 29).alloc (.cells (mk 16 g) 29)).alloc (.cells #[] 33)
  have K2 := (Blk.new (w.alloc (.cells (mk 16 f) 29)) 16 g 29).alloc (.cells #[] 33)
  have h1 : (w.alloc (.cells (mk 16 f) 29)).heap.size = w.heap.size + 1 := by simp
  have h2 : ((w.alloc (.cells (mk 16 f) 29)).alloc (.cells (mk 16 g) 29)).heap.size = w.heap.size + 1 + 1 := by simp
  have HB := Lib.hid ((((Below.refl w.heap.size w).alloc (Nat.le_refl _) (.cells (mk 16 f) 29)).alloc (by simp) (.cells (mk 16 g) 29)).alloc (by simp; omega) (.cells #[] 33))
  have HO : Hid (OwnsL 33 4 (((w.alloc (.cells (mk 16 f) 29)).alloc (.cells (mk 16 g) 29)).alloc (.cells #[] 33)) w.heap.size (.slice (some ⟨w.heap.size + 1 + 1, 0, none⟩) 0 0) []) := by
    have := OwnsL.made (t := 33) (m := 4) (b := w.heap.size) ((w.alloc (.cells (mk 16 f) 29)).alloc (.cells (mk 16 g) 29)) (by simp; omega)
    rw [h2] at this
    exact this
  rw [h1] at K2
  clear h1 h2
  by_cases hV : Vd f
  · by_cases hG : Vd g
    · rw [vdO_yes hV, vdO_yes hG, btR_yes hV hG]
      have HV := Lib.hid hV
      have HG := Lib.hid hG
      clear hV hG
      unfold btL
      go_enter Try.func31, Try.ntmps31
      go_wp2_with ((with_reducible show wpList _ _ _ (Oper.mk _ (Op.load 29 _) _ _ _ _ :: _) _ _); refine loadB (K1) rfl rfl rfl ?_)
      refine (l2Board_yes _ _ HV.out).mono ?_
      rintro e w1 ⟨rfl, hb⟩
      have K1 := K1.below hb K1.lt
      have K2 := K2.below hb K2.lt
      have HO : Hid (OwnsL 33 4 w1 w.heap.size (.slice (some ⟨w.heap.size + 1 + 1, 0, none⟩) 0 0) []) := HO.out.below hb
      have HB : Hid (Below w.heap.size w w1) := HB.out.trans (hb.mono HB.out.size)
      clear hb
      go_wp2_with ((with_reducible show wpList _ _ _ (Oper.mk _ (Op.load 29 _) _ _ _ (some _) :: _) _ _); refine loadgB (K2) rfl rfl rfl ?_)
      refine (l2Board_yes _ _ HG.out).mono ?_
      rintro e w1a ⟨rfl, hb⟩
      have K1 := K1.below hb K1.lt
      have K2 := K2.below hb K2.lt
      have HO : Hid (OwnsL 33 4 w1a w.heap.size (.slice (some ⟨w.heap.size + 1 + 1, 0, none⟩) 0 0) []) := HO.out.below hb
      have HB : Hid (Below w.heap.size w w1a) := HB.out.trans (hb.mono HB.out.size)
      clear hb
      go_wp2_with ((with_reducible show wpList _ _ _ (Oper.mk _ (Op.load 29 _) _ _ _ _ :: _) _ _); refine loadB (K1) rfl rfl rfl ?_)
      refine (l5All_any f _ HV.out).mono ?_
      rintro e w2 ⟨ga, ca, rfl, ho, hb⟩
      have K1 := K1.below hb K1.lt
      have K2 := K2.below hb K2.lt
      have HNE0 : (Value.slice (some ⟨w.heap.size + 1 + 1, 0, none⟩) 0 0).ownBlock ≠ some ga := by
        have h3 := (ho.lt ga rfl).1
        have h4 := (HO.out.lt (w.heap.size + 1 + 1) rfl).2
        simp only [Value.ownBlock]
        intro e
        simp only [Option.some.injEq] at e
        omega
      have HO : Hid (OwnsL 33 4 w2 w.heap.size (.slice (some ⟨w.heap.size + 1 + 1, 0, none⟩) 0 0) []) := HO.out.below hb
      have HB : Hid (Below w.heap.size w w2) := HB.out.trans (hb.mono HB.out.size)
      obtain ⟨_, _, e1, _, hc⟩ := KRow.of_list (all_all f (Nat.le_refl 4)) ho
      cases e1
      have CM : CAt w2 ga ((allL f 4).length * 4) (flatF (allL f 4)) := hc
      have hle := all_le f 4
      have HGE := Lib.hid (fun k (hk : k < (allL f 4).length) => (show ∃ l, (allL f 4)[k]? = some l from ⟨(allL f 4)[k], List.getElem?_eq_getElem hk⟩))
      have HCL := Lib.hid (fun k l (e : (allL f 4)[k]? = some l) => cl_at (all_all f (Nat.le_refl 4)) e)
      have HFN := Lib.hid (fun k l (e : (allL f 4)[k]? = some l) => next_at (all_all f (Nat.le_refl 4)) e)
      clear hb ho hc
      generalize hLL : allL f 4 = L at *
      generalize hN : L.length = n at *
      generalize hH : flatF L = h at *
      have HNE : Hid ((Value.slice (some ⟨w.heap.size + 1 + 1, 0, none⟩) 0 0).ownBlock ≠ some ga) := HNE0
      go_wp2_with fail
      go_loopg [6, 8] n (fun gk s6 s8 wr => ∃ (k : Nat) (v : Value), k + gk = n ∧ s8 = .int .i64 k ∧ v = s6 ∧ (∃ gg cap, v = .slice (some ⟨gg, 0, none⟩) (keepN (btP f g) L k).length cap) ∧ Hid (OwnsL 33 4 wr w.heap.size v (keepN (btP f g) L k)) ∧ Hid (v.ownBlock ≠ some ga) ∧ CAt wr ga (n * 4) h ∧ Blk wr w.heap.size 16 f 29 ∧ Blk wr (w.heap.size + 1) 16 g 29 ∧ Hid (Below w.heap.size w wr))
      case atStart => exact ⟨0, _, by omega, rfl, rfl, ⟨_, _, rfl⟩, HO, HNE, CM, K1, K2, HB⟩
      case round =>
        obtain ⟨k, v, hkg, rfl, rfl, ⟨gg, cap, hv⟩, HO, HNE, CM, K1, K2, HB⟩ := hrel
        subst hv
        cases gk with
        | zero =>
          have hk : ¬ ((k : Int) < (n : Int)) := by omega
          obtain rfl : k = n := by omega
          clear hkg
          go_wp2_with fail
          go_ret2
          exact ⟨gg, cap, rfl, HO.out, HB.out⟩
        | succ gk2 =>
          have hk8 : (k : Int) < (n : Int) := by omega
          have hk9 : k < n := by omega
          have hk0 : (0 : Int) ≤ (k : Int) := by omega
          obtain ⟨l, hkl⟩ := HGE.out k hk9
          have HD : Hid (doB f (fun j => h (k * 4 + j)) = doB f (fn l)) := HFN.out k l hkl f
          have HKL := Lib.hid hkl
          clear hkl
          go_wp2_with fail
          refine wp_region_held_drew (S := fun W => Blk W w.heap.size 16 f 29 ∧ CAt W ga (n * 4) h) (by kernel_rfl) (⟨K1.drew, CM.drew⟩) (fun hHeld => ?_)
          have K1 : Blk wr.drew w.heap.size 16 f 29 := K1.drew
          have CM : CAt wr.drew ga (n * 4) h := CM.drew
          have BX : Hid (Below wr.heap.size wr wr.drew) := (Below.refl _ wr).drew
          generalize wr.drew = x0 at *
          refine wpAnyH_take (i := 0) (oi := { dst := some 31, op := _, type := _, pos := _, after := _, guard := _ }) (v := .agg (mk 16 f)) rfl (by kernel_rfl) (by kernel_rfl) (by kernel_rfl) (fun _ _ _ h => h) (Or.inl ⟨by rfl, fun _ q => execB q.1 rfl rfl⟩) (by assumption) ?_
          try simp only [Act.put, List.setIfInBounds_toArray, List.set_cons_zero, List.set_cons_succ]
          refine wpAnyH_take (i := 1) (oi := { dst := some 32, op := _, type := _, pos := _, after := _, guard := _ }) (v := .slice (some ⟨ga, 0, none⟩) n ca) rfl (by kernel_rfl) (by kernel_rfl) (by kernel_rfl) (fun _ _ _ h => h) (Or.inl ⟨by rfl, by intro w hSw; clear hSw; go_simp; (try with_reducible rfl)⟩) (by assumption) ?_
          try simp only [Act.put, List.setIfInBounds_toArray, List.set_cons_zero, List.set_cons_succ]
          refine wpAnyH_take (i := 2) (oi := { dst := some 33, op := _, type := _, pos := _, after := _, guard := _ }) (v := .int .i64 (k : Int)) rfl (by kernel_rfl) (by kernel_rfl) (by kernel_rfl) (fun _ _ _ h => h) (Or.inl ⟨by rfl, by intro w hSw; clear hSw; go_simp; (try with_reducible rfl)⟩) (by assumption) ?_
          try simp only [Act.put, List.setIfInBounds_toArray, List.set_cons_zero, List.set_cons_succ]
          refine wpAnyH_take (i := 3) (oi := { dst := some 34, op := _, type := _, pos := _, after := _, guard := _ }) (v := .pointer (some ⟨ga, k * 4, none⟩)) rfl (by kernel_rfl) (by kernel_rfl) (by kernel_rfl) (fun _ _ _ h => h) (Or.inl ⟨by rfl, by intro w hSw; clear hSw; go_simp; (try with_reducible rfl)⟩) (by assumption) ?_
          try simp only [Act.put, List.setIfInBounds_toArray, List.set_cons_zero, List.set_cons_succ]
          refine wpAnyH_take (i := 4) (oi := { dst := some 35, op := _, type := _, pos := _, after := _, guard := _ }) (v := .agg (mk 4 fun j => h (k * 4 + j))) rfl (by kernel_rfl) (by kernel_rfl) (by kernel_rfl) (fun _ _ _ h => h) (Or.inl ⟨by rfl, fun _ q => execAT q.2 (by omega) rfl rfl⟩) (by assumption) ?_
          try simp only [Act.put, List.setIfInBounds_toArray, List.set_cons_zero, List.set_cons_succ]
          refine wpAnyH_ready (rs := [5, 10]) (by kernel_rfl) (by simp) ?_
          refine AllReadyH.cons rfl (fun K hK => ?_) ?_
          · go_simp
            refine (l5Do_any f (fun j => h (k * 4 + j)) _ HV.out).mono ?_
            rintro e x1 ⟨rfl, hb⟩
            have CM := CM.below hb
            have K1 := K1.below hb K1.lt
            have BX : Hid (Below wr.heap.size wr x1) := BX.out.trans (hb.mono BX.out.size)
            clear hb hHeld
            go_wp2_with fail
            refine hK.out _ _ ⟨K1, CM⟩ (fun hHeld => ?_)
            clear hK K
            try simp only [Act.put, List.setIfInBounds_toArray, List.set_cons_zero, List.set_cons_succ]
            refine wpAnyH_take (i := 6) (oi := { dst := some 30, op := _, type := _, pos := _, after := _, guard := _ }) (v := .tuple #[.agg (mk 16 (doB f fun j => h (k * 4 + j))), .int .i64 (doS f fun j => h (k * 4 + j)), .bool (doO f fun j => h (k * 4 + j))]) rfl (by kernel_rfl) (by kernel_rfl) (by kernel_rfl) (fun _ _ _ h => h) (Or.inl ⟨by rfl, by intro w hSw; clear hSw; go_simp; (try with_reducible rfl)⟩) (by assumption) ?_
            try simp only [Act.put, List.setIfInBounds_toArray, List.set_cons_zero, List.set_cons_succ]
            refine wpAnyH_take (i := 7) (oi := { dst := some 37, op := _, type := _, pos := _, after := _, guard := _ }) (v := .agg (mk 16 (doB f fun j => h (k * 4 + j)))) rfl (by kernel_rfl) (by kernel_rfl) (by kernel_rfl) (fun _ _ _ h => h) (Or.inl ⟨by rfl, by intro w hSw; clear hSw; go_simp; (try with_reducible rfl)⟩) (by assumption) ?_
            try simp only [Act.put, List.setIfInBounds_toArray, List.set_cons_zero, List.set_cons_succ]
            refine wpAnyH_take (i := 8) (oi := { dst := some 38, op := _, type := _, pos := _, after := _, guard := _ }) (v := .int .i64 (doS f fun j => h (k * 4 + j))) rfl (by kernel_rfl) (by kernel_rfl) (by kernel_rfl) (fun _ _ _ h => h) (Or.inl ⟨by rfl, by intro w hSw; clear hSw; go_simp; (try with_reducible rfl)⟩) (by assumption) ?_
            try simp only [Act.put, List.setIfInBounds_toArray, List.set_cons_zero, List.set_cons_succ]
            refine wpAnyH_take (i := 9) (oi := { dst := some 39, op := _, type := _, pos := _, after := _, guard := _ }) (v := .bool (doO f fun j => h (k * 4 + j))) rfl (by kernel_rfl) (by kernel_rfl) (by kernel_rfl) (fun _ _ _ h => h) (Or.inl ⟨by rfl, by intro w hSw; clear hSw; go_simp; (try with_reducible rfl)⟩) (by assumption) ?_
            try simp only [Act.put, List.setIfInBounds_toArray, List.set_cons_zero, List.set_cons_succ]
            refine wpAnyH_ready (rs := [10]) (by kernel_rfl) (by simp) ?_
            refine AllReadyH.cons rfl (fun K hK => ?_) AllReadyH.nil
            rw [if_pos (by rfl)]
            refine wp_allocX rfl ?_
            have K8 := Blk.new x1 16 (fun _ => 0) 29
            have HB8 : Hid (wr.heap.size ≤ x1.heap.size) := BX.out.size
            have HB9 : Hid (w.heap.size < x1.heap.size ∧ ga < x1.heap.size) := ⟨K1.lt, CM.1⟩
            have K1 := K1.alloc (.cells (mk 16 fun _ => 0) 29)
            have CM := CM.alloc (.cells (mk 16 fun _ => 0) 29)
            have BX : Hid (Below wr.heap.size wr (x1.alloc (.cells (mk 16 fun _ => 0) 29))) := BX.out.alloc BX.out.size _
            clear hHeld
            generalize x1.alloc (.cells (mk 16 fun _ => 0) 29) = x2 at *
            generalize x1.heap.size = b8 at *
            refine hK.out _ _ ⟨K1, CM⟩ (fun hHeld => ?_)
            clear hK K
            try simp only [Act.put, List.setIfInBounds_toArray, List.set_cons_zero, List.set_cons_succ]
            refine wpAnyH_ready (rs := [11]) (by kernel_rfl) (by simp) ?_
            refine AllReadyH.cons rfl (fun K hK => ?_) AllReadyH.nil
            have st1 := run_store_blk (P := Try.prog) (g := doB f fun j => h (k * 4 + j)) K8
            have ms1 : (mk 16 (doB f fun j => h (k * 4 + j))).size = 16 := mk_size 16 _
            go_simp
            clear st1 ms1
            have hgr : x2.grownBy (x2.setRow b8 (mk 16 (doB f fun j => h (k * 4 + j)))) (some b8) := grown_row K8 _
            have K1 := K1.rowOther b8 (mk 16 (doB f fun j => h (k * 4 + j))) (by have := HB9.out.1; omega)
            have CM := CM.grown hgr (fun e => by cases e; exact absurd HB9.out.2 (Nat.lt_irrefl _))
            have BX : Hid (Below wr.heap.size wr (x2.setRow b8 (mk 16 (doB f fun j => h (k * 4 + j))))) := below_setRow BX.out HB8.out _
            have K8 := K8.row 16 (doB f fun j => h (k * 4 + j))
            clear hgr hHeld
            generalize x2.setRow b8 (mk 16 (doB f fun j => h (k * 4 + j))) = x3 at *
            refine hK.out _ _ ⟨K1, CM⟩ (fun hHeld => ?_)
            clear hK K
            try simp only [Act.put, List.setIfInBounds_toArray, List.set_cons_zero, List.set_cons_succ]
            refine wpAnyH_take (i := 12) (oi := { dst := some 10, op := _, type := _, pos := _, after := _, guard := _ }) (v := .int .i64 (doS f fun j => h (k * 4 + j))) rfl (by kernel_rfl) (by kernel_rfl) (by kernel_rfl) (fun _ _ _ h => h) (Or.inl ⟨by rfl, by intro w hSw; clear hSw; go_simp; (try with_reducible rfl)⟩) (by assumption) ?_
            try simp only [Act.put, List.setIfInBounds_toArray, List.set_cons_zero, List.set_cons_succ]
            refine wpAnyH_take (i := 13) (oi := { dst := some 11, op := _, type := _, pos := _, after := _, guard := _ }) (v := .bool (doO f fun j => h (k * 4 + j))) rfl (by kernel_rfl) (by kernel_rfl) (by kernel_rfl) (fun _ _ _ h => h) (Or.inl ⟨by rfl, by intro w hSw; clear hSw; go_simp; (try with_reducible rfl)⟩) (by assumption) ?_
            try simp only [Act.put, List.setIfInBounds_toArray, List.set_cons_zero, List.set_cons_succ]
            refine wpAnyH_done (by kernel_rfl) ?_ _
            clear hHeld
            have HO : Hid (OwnsL 33 4 x3 w.heap.size (.slice (some ⟨gg, 0, none⟩) (keepN (btP f g) L k).length cap) (keepN (btP f g) L k)) := own_past HO.out BX.out
            have K2 := K2.below BX.out K2.lt
            have HB : Hid (Below w.heap.size w x3) := HB.out.trans (BX.out.mono HB.out.size)
            clear BX HB8 HB9
            rw [HD.out] at K8
            cases hp : sameB (doB f (fn l)) g with
            | true =>
              have iE : ∀ (w : World), (Op.equalIn 10000 29 (.agg (mk 16 (doB f (fn l)))) (.agg (mk 16 g))).run Try.prog w = .ok true w := fun w => by rw [eqB 9996, hp]
              have Y : Hid (keepN (btP f g) L (k + 1) = keepN (btP f g) L k ++ [l]) := keep_yes HKL.out hp
              have hle2 := keep_le (btP f g) L k
              have hsz := HB.out.size
              go_wp2_with (first | ((with_reducible show wpList _ _ _ (Oper.mk _ (Op.load 29 _) _ _ _ _ :: _) _ _); refine loadB (K8) rfl rfl rfl ?_) | ((with_reducible show wpList _ _ _ (Oper.mk _ (Op.load 29 _) _ _ _ _ :: _) _ _); refine loadB (K2) rfl rfl rfl ?_) | ((with_reducible show wpList _ _ _ (Oper.mk _ (Op.load 33 _) _ _ _ _ :: _) _ _); refine loadAT (CM) (by omega) rfl rfl rfl ?_) | ((with_reducible show wpList _ _ _ (Oper.mk _ (Op.buildSlice _ 1 _) _ _ _ _ :: _) _ _); refine wpl_buildT _ rfl rfl (f := fun j => h (k * 4 + j)) rfl ?_) | (at_builtin; refine wpl_app (v := .slice (some ⟨gg, 0, none⟩) (keepN (btP f g) L k).length cap) rfl _ _ 37 rfl w.heap.size 33 i0 _ 4 32 Try.underlying37 hi hz0 hz1 hz2 rfl (by decide) rfl (World.ownsRow.alloc HO.out _) x3.heap.size 0 1 1 (fun j => h (k * 4 + j)) 4 rfl (Blk.new _ _ _ _).at (by omega) (by unfold maxLen; omega) (by omega) (by simp; omega) ?_))
              intro v' w7 R hbl hgr hloc
              obtain ⟨g', cap', hv'⟩ := ownsRow_succ R
              have HVv : Hid (∃ gg cap, v' = .slice (some ⟨gg, 0, none⟩) (keepN (btP f g) L (k + 1)).length cap) := ⟨g', cap', by rw [Y.out, List.length_append]; exact hv'⟩
              have HO7 : Hid (OwnsL 33 4 w7 w.heap.size v' (keepN (btP f g) L (k + 1))) := by
                rw [snoc_walk (m := 4) _ (fun j => h (k * 4 + j)), HCL.out k l HKL.out] at R
                show OwnsL _ _ _ _ _ _
                rw [Y.out]
                unfold OwnsL
                rw [List.length_append]
                exact R
              have hne2 : (Value.slice (some ⟨gg, 0, none⟩) (keepN (btP f g) L k).length cap).ownBlock ≠ some ga := HNE.out
              have HNE2 : Hid (v'.ownBlock ≠ some ga) := by
                intro e
                have h9 := CM.1
                rcases hloc with r | r
                · rw [r] at e; exact hne2 e
                · rw [r] at e; simp at e; omega
              have HB7 : Hid (Below w.heap.size w w7) := (HB.out.alloc hsz _).trans hbl
              have CM := (CM.alloc (.cells (mk 4 (fun j => h (k * 4 + j))) 33)).grown hgr (fun e => hne2 e.symm)
              have K1 := (K1.alloc (.cells (mk 4 (fun j => h (k * 4 + j))) 33)).grown hgr (fun e => own_ne_blk (World.ownsRow.alloc HO.out (.cells (mk 4 (fun j => h (k * 4 + j))) 33)) (K1.alloc _) (by decide) e.symm)
              have K2 := (K2.alloc (.cells (mk 4 (fun j => h (k * 4 + j))) 33)).grown hgr (fun e => own_ne_blk (World.ownsRow.alloc HO.out (.cells (mk 4 (fun j => h (k * 4 + j))) 33)) (K2.alloc _) (by decide) e.symm)
              clear hbl hgr R hv' HO hloc K8 iE HB hne2
              go_wp2_with fail
              go_roundg gk2
              case rel => exact ⟨k + 1, _, by omega, by go_num, rfl, HVv.out, HO7, HNE2, CM, K1, K2, HB7⟩
              case measure => omega
            | false =>
              have iE : ∀ (w : World), (Op.equalIn 10000 29 (.agg (mk 16 (doB f (fn l)))) (.agg (mk 16 g))).run Try.prog w = .ok false w := fun w => by rw [eqB 9996, hp]
              have Y : Hid (keepN (btP f g) L (k + 1) = keepN (btP f g) L k) := keep_no HKL.out hp
              go_wp2_with (first | ((with_reducible show wpList _ _ _ (Oper.mk _ (Op.load 29 _) _ _ _ _ :: _) _ _); refine loadB (K8) rfl rfl rfl ?_) | ((with_reducible show wpList _ _ _ (Oper.mk _ (Op.load 29 _) _ _ _ _ :: _) _ _); refine loadB (K2) rfl rfl rfl ?_))
              go_roundg gk2
              case rel => exact ⟨k + 1, _, by omega, by go_num, rfl, ⟨gg, cap, by rw [Y.out]⟩, by rw [Y.out]; exact HO, HNE, CM, K1, K2, HB⟩
              case measure => omega
          refine AllReadyH.cons rfl (fun K hK => ?_) AllReadyH.nil
          rw [if_pos (by rfl)]
          refine wp_allocX rfl ?_
          have K8 := Blk.new x0 16 (fun _ => 0) 29
          have HB8 : Hid (wr.heap.size ≤ x0.heap.size) := BX.out.size
          have HB9 : Hid (w.heap.size < x0.heap.size ∧ ga < x0.heap.size) := ⟨K1.lt, CM.1⟩
          have K1 := K1.alloc (.cells (mk 16 fun _ => 0) 29)
          have CM := CM.alloc (.cells (mk 16 fun _ => 0) 29)
          have BX : Hid (Below wr.heap.size wr (x0.alloc (.cells (mk 16 fun _ => 0) 29))) := BX.out.alloc BX.out.size _
          clear hHeld
          generalize x0.alloc (.cells (mk 16 fun _ => 0) 29) = x1 at *
          generalize x0.heap.size = b8 at *
          refine hK.out _ _ ⟨K1, CM⟩ (fun hHeld => ?_)
          clear hK K
          try simp only [Act.put, List.setIfInBounds_toArray, List.set_cons_zero, List.set_cons_succ]
          refine wpAnyH_ready (rs := [5]) (by kernel_rfl) (by simp) ?_
          refine AllReadyH.cons rfl (fun K hK => ?_) AllReadyH.nil
          go_simp
          refine (l5Do_any f (fun j => h (k * 4 + j)) _ HV.out).mono ?_
          rintro e x2 ⟨rfl, hb⟩
          have CM := CM.below hb
          have K1 := K1.below hb K1.lt
          have BX : Hid (Below wr.heap.size wr x2) := BX.out.trans (hb.mono BX.out.size)
          have K8 := K8.below hb K8.lt
          clear hb hHeld
          go_wp2_with fail
          refine hK.out _ _ ⟨K1, CM⟩ (fun hHeld => ?_)
          clear hK K
          try simp only [Act.put, List.setIfInBounds_toArray, List.set_cons_zero, List.set_cons_succ]
          refine wpAnyH_take (i := 6) (oi := { dst := some 30, op := _, type := _, pos := _, after := _, guard := _ }) (v := .tuple #[.agg (mk 16 (doB f fun j => h (k * 4 + j))), .int .i64 (doS f fun j => h (k * 4 + j)), .bool (doO f fun j => h (k * 4 + j))]) rfl (by kernel_rfl) (by kernel_rfl) (by kernel_rfl) (fun _ _ _ h => h) (Or.inl ⟨by rfl, by intro w hSw; clear hSw; go_simp; (try with_reducible rfl)⟩) (by assumption) ?_
          try simp only [Act.put, List.setIfInBounds_toArray, List.set_cons_zero, List.set_cons_succ]
          refine wpAnyH_take (i := 7) (oi := { dst := some 37, op := _, type := _, pos := _, after := _, guard := _ }) (v := .agg (mk 16 (doB f fun j => h (k * 4 + j)))) rfl (by kernel_rfl) (by kernel_rfl) (by kernel_rfl) (fun _ _ _ h => h) (Or.inl ⟨by rfl, by intro w hSw; clear hSw; go_simp; (try with_reducible rfl)⟩) (by assumption) ?_
          try simp only [Act.put, List.setIfInBounds_toArray, List.set_cons_zero, List.set_cons_succ]
          refine wpAnyH_take (i := 8) (oi := { dst := some 38, op := _, type := _, pos := _, after := _, guard := _ }) (v := .int .i64 (doS f fun j => h (k * 4 + j))) rfl (by kernel_rfl) (by kernel_rfl) (by kernel_rfl) (fun _ _ _ h => h) (Or.inl ⟨by rfl, by intro w hSw; clear hSw; go_simp; (try with_reducible rfl)⟩) (by assumption) ?_
          try simp only [Act.put, List.setIfInBounds_toArray, List.set_cons_zero, List.set_cons_succ]
          refine wpAnyH_take (i := 9) (oi := { dst := some 39, op := _, type := _, pos := _, after := _, guard := _ }) (v := .bool (doO f fun j => h (k * 4 + j))) rfl (by kernel_rfl) (by kernel_rfl) (by kernel_rfl) (fun _ _ _ h => h) (Or.inl ⟨by rfl, by intro w hSw; clear hSw; go_simp; (try with_reducible rfl)⟩) (by assumption) ?_
          try simp only [Act.put, List.setIfInBounds_toArray, List.set_cons_zero, List.set_cons_succ]
          refine wpAnyH_ready (rs := [11]) (by kernel_rfl) (by simp) ?_
          refine AllReadyH.cons rfl (fun K hK => ?_) AllReadyH.nil
          have st1 := run_store_blk (P := Try.prog) (g := doB f fun j => h (k * 4 + j)) K8
          have ms1 : (mk 16 (doB f fun j => h (k * 4 + j))).size = 16 := mk_size 16 _
          go_simp
          clear st1 ms1
          have hgr : x2.grownBy (x2.setRow b8 (mk 16 (doB f fun j => h (k * 4 + j)))) (some b8) := grown_row K8 _
          have K1 := K1.rowOther b8 (mk 16 (doB f fun j => h (k * 4 + j))) (by have := HB9.out.1; omega)
          have CM := CM.grown hgr (fun e => by cases e; exact absurd HB9.out.2 (Nat.lt_irrefl _))
          have BX : Hid (Below wr.heap.size wr (x2.setRow b8 (mk 16 (doB f fun j => h (k * 4 + j))))) := below_setRow BX.out HB8.out _
          have K8 := K8.row 16 (doB f fun j => h (k * 4 + j))
          clear hgr hHeld
          generalize x2.setRow b8 (mk 16 (doB f fun j => h (k * 4 + j))) = x3 at *
          refine hK.out _ _ ⟨K1, CM⟩ (fun hHeld => ?_)
          clear hK K
          try simp only [Act.put, List.setIfInBounds_toArray, List.set_cons_zero, List.set_cons_succ]
          refine wpAnyH_take (i := 12) (oi := { dst := some 10, op := _, type := _, pos := _, after := _, guard := _ }) (v := .int .i64 (doS f fun j => h (k * 4 + j))) rfl (by kernel_rfl) (by kernel_rfl) (by kernel_rfl) (fun _ _ _ h => h) (Or.inl ⟨by rfl, by intro w hSw; clear hSw; go_simp; (try with_reducible rfl)⟩) (by assumption) ?_
          try simp only [Act.put, List.setIfInBounds_toArray, List.set_cons_zero, List.set_cons_succ]
          refine wpAnyH_take (i := 13) (oi := { dst := some 11, op := _, type := _, pos := _, after := _, guard := _ }) (v := .bool (doO f fun j => h (k * 4 + j))) rfl (by kernel_rfl) (by kernel_rfl) (by kernel_rfl) (fun _ _ _ h => h) (Or.inl ⟨by rfl, by intro w hSw; clear hSw; go_simp; (try with_reducible rfl)⟩) (by assumption) ?_
          try simp only [Act.put, List.setIfInBounds_toArray, List.set_cons_zero, List.set_cons_succ]
          refine wpAnyH_done (by kernel_rfl) ?_ _
          clear hHeld
          have HO : Hid (OwnsL 33 4 x3 w.heap.size (.slice (some ⟨gg, 0, none⟩) (keepN (btP f g) L k).length cap) (keepN (btP f g) L k)) := own_past HO.out BX.out
          have K2 := K2.below BX.out K2.lt
          have HB : Hid (Below w.heap.size w x3) := HB.out.trans (BX.out.mono HB.out.size)
          clear BX HB8 HB9
          rw [HD.out] at K8
          cases hp : sameB (doB f (fn l)) g with
          | true =>
            have iE : ∀ (w : World), (Op.equalIn 10000 29 (.agg (mk 16 (doB f (fn l)))) (.agg (mk 16 g))).run Try.prog w = .ok true w := fun w => by rw [eqB 9996, hp]
            have Y : Hid (keepN (btP f g) L (k + 1) = keepN (btP f g) L k ++ [l]) := keep_yes HKL.out hp
            have hle2 := keep_le (btP f g) L k
            have hsz := HB.out.size
            go_wp2_with (first | ((with_reducible show wpList _ _ _ (Oper.mk _ (Op.load 29 _) _ _ _ _ :: _) _ _); refine loadB (K8) rfl rfl rfl ?_) | ((with_reducible show wpList _ _ _ (Oper.mk _ (Op.load 29 _) _ _ _ _ :: _) _ _); refine loadB (K2) rfl rfl rfl ?_) | ((with_reducible show wpList _ _ _ (Oper.mk _ (Op.load 33 _) _ _ _ _ :: _) _ _); refine loadAT (CM) (by omega) rfl rfl rfl ?_) | ((with_reducible show wpList _ _ _ (Oper.mk _ (Op.buildSlice _ 1 _) _ _ _ _ :: _) _ _); refine wpl_buildT _ rfl rfl (f := fun j => h (k * 4 + j)) rfl ?_) | (at_builtin; refine wpl_app (v := .slice (some ⟨gg, 0, none⟩) (keepN (btP f g) L k).length cap) rfl _ _ 37 rfl w.heap.size 33 i0 _ 4 32 Try.underlying37 hi hz0 hz1 hz2 rfl (by decide) rfl (World.ownsRow.alloc HO.out _) x3.heap.size 0 1 1 (fun j => h (k * 4 + j)) 4 rfl (Blk.new _ _ _ _).at (by omega) (by unfold maxLen; omega) (by omega) (by simp; omega) ?_))
            intro v' w7 R hbl hgr hloc
            obtain ⟨g', cap', hv'⟩ := ownsRow_succ R
            have HVv : Hid (∃ gg cap, v' = .slice (some ⟨gg, 0, none⟩) (keepN (btP f g) L (k + 1)).length cap) := ⟨g', cap', by rw [Y.out, List.length_append]; exact hv'⟩
            have HO7 : Hid (OwnsL 33 4 w7 w.heap.size v' (keepN (btP f g) L (k + 1))) := by
              rw [snoc_walk (m := 4) _ (fun j => h (k * 4 + j)), HCL.out k l HKL.out] at R
              show OwnsL _ _ _ _ _ _
              rw [Y.out]
              unfold OwnsL
              rw [List.length_append]
              exact R
            have hne2 : (Value.slice (some ⟨gg, 0, none⟩) (keepN (btP f g) L k).length cap).ownBlock ≠ some ga := HNE.out
            have HNE2 : Hid (v'.ownBlock ≠ some ga) := by
              intro e
              have h9 := CM.1
              rcases hloc with r | r
              · rw [r] at e; exact hne2 e
              · rw [r] at e; simp at e; omega
            have HB7 : Hid (Below w.heap.size w w7) := (HB.out.alloc hsz _).trans hbl
            have CM := (CM.alloc (.cells (mk 4 (fun j => h (k * 4 + j))) 33)).grown hgr (fun e => hne2 e.symm)
            have K1 := (K1.alloc (.cells (mk 4 (fun j => h (k * 4 + j))) 33)).grown hgr (fun e => own_ne_blk (World.ownsRow.alloc HO.out (.cells (mk 4 (fun j => h (k * 4 + j))) 33)) (K1.alloc _) (by decide) e.symm)
            have K2 := (K2.alloc (.cells (mk 4 (fun j => h (k * 4 + j))) 33)).grown hgr (fun e => own_ne_blk (World.ownsRow.alloc HO.out (.cells (mk 4 (fun j => h (k * 4 + j))) 33)) (K2.alloc _) (by decide) e.symm)
            clear hbl hgr R hv' HO hloc K8 iE HB hne2
            go_wp2_with fail
            go_roundg gk2
            case rel => exact ⟨k + 1, _, by omega, by go_num, rfl, HVv.out, HO7, HNE2, CM, K1, K2, HB7⟩
            case measure => omega
          | false =>
            have iE : ∀ (w : World), (Op.equalIn 10000 29 (.agg (mk 16 (doB f (fn l)))) (.agg (mk 16 g))).run Try.prog w = .ok false w := fun w => by rw [eqB 9996, hp]
            have Y : Hid (keepN (btP f g) L (k + 1) = keepN (btP f g) L k) := keep_no HKL.out hp
            go_wp2_with (first | ((with_reducible show wpList _ _ _ (Oper.mk _ (Op.load 29 _) _ _ _ _ :: _) _ _); refine loadB (K8) rfl rfl rfl ?_) | ((with_reducible show wpList _ _ _ (Oper.mk _ (Op.load 29 _) _ _ _ _ :: _) _ _); refine loadB (K2) rfl rfl rfl ?_))
            go_roundg gk2
            case rel => exact ⟨k + 1, _, by omega, by go_num, rfl, ⟨gg, cap, by rw [Y.out]⟩, by rw [Y.out]; exact HO, HNE, CM, K1, K2, HB⟩
            case measure => omega
    · rw [vdO_yes hV, vdO_no hG, btR_no (fun q => hG q.2)]
      have HV := Lib.hid hV
      have HG := Lib.hid hG
      clear hV hG
      go_enter Try.func31, Try.ntmps31
      go_wp2_with ((with_reducible show wpList _ _ _ (Oper.mk _ (Op.load 29 _) _ _ _ _ :: _) _ _); refine loadB (K1) rfl rfl rfl ?_)
      refine (l2Board_yes _ _ HV.out).mono ?_
      rintro e w1 ⟨rfl, hb⟩
      have K2 := K2.below hb K2.lt
      have HO : Hid (OwnsL 33 4 w1 w.heap.size (.slice (some ⟨w.heap.size + 1 + 1, 0, none⟩) 0 0) []) := HO.out.below hb
      have HB : Hid (Below w.heap.size w w1) := HB.out.trans (hb.mono HB.out.size)
      clear hb
      go_wp2_with ((with_reducible show wpList _ _ _ (Oper.mk _ (Op.load 29 _) _ _ _ (some _) :: _) _ _); refine loadgB (K2) rfl rfl rfl ?_)
      refine (l2Board_no _ _ HG.out).mono ?_
      rintro e w1a ⟨rfl, hb⟩
      have HO : Hid (OwnsL 33 4 w1a w.heap.size (.slice (some ⟨w.heap.size + 1 + 1, 0, none⟩) 0 0) []) := HO.out.below hb
      have HB : Hid (Below w.heap.size w w1a) := HB.out.trans (hb.mono HB.out.size)
      clear hb
      go_wp2_with fail
      go_ret2
      exact ⟨_, _, rfl, HO.out, HB.out⟩
  · rw [vdO_no hV, btR_no (fun q => hV q.1)]
    have HV := Lib.hid hV
    clear hV
    go_enter Try.func31, Try.ntmps31
    go_wp2_with ((with_reducible show wpList _ _ _ (Oper.mk _ (Op.load 29 _) _ _ _ _ :: _) _ _); refine loadB (K1) rfl rfl rfl ?_)
    refine (l2Board_no _ _ HV.out).mono ?_
    rintro e w1 ⟨rfl, hb⟩
    have HO : Hid (OwnsL 33 4 w1 w.heap.size (.slice (some ⟨w.heap.size + 1 + 1, 0, none⟩) 0 0) []) := HO.out.below hb
    have HB : Hid (Below w.heap.size w w1) := HB.out.trans (hb.mono HB.out.size)
    clear hb
    go_wp2_with fail
    go_ret2
    exact ⟨_, _, rfl, HO.out, HB.out⟩
end Go.Proofs.Ytknjmkapabjolaa
