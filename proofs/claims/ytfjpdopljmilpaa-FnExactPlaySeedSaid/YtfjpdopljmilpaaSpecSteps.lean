/-
  The contracts of the reference's l5Steps, l5All and StepsOf: the steps of a valid board.
-/
import Derived.Test.YtfjpdopljmilpaaStepMem
import Derived.Test.YtfjpdopljmilpaaSpecSlide
import Derived.Test.YtfjpdopljmilpaaDistKit
namespace Go.Proofs.Ytfjpdopljmilpaa
open Go.RowKit Plain
attribute [local go_sem] store_new
set_option linter.unusedVariables false
set_option linter.unusedSimpArgs false

theorem cells_at {w : World} {base g cap n : Nat} {f : Nat → Int} (h : OwnsCells w base (.slice (some ⟨g, 0, none⟩) n cap) n (empL f 16)) (hn : n = empN f 16 := by rfl) : CAt w g (n * 2) (empF f) := by
  subst hn
  have hl := emp_len f 16
  unfold OwnsCells at h
  rw [ints_mk, hl] at h
  obtain ⟨g', c', e, _, hc⟩ := CRow.of_own h
  cases e
  exact hc
theorem ownsRow_succ2 {w : World} {b e size n : Nat} {v : Value} {xs : List Value} (h : w.ownsRow b e size v (n + 2) xs) : ∃ g cap, v = .slice (some ⟨g, 0, none⟩) (n + 2) cap := ownsRow_succ (k := n + 1) h
/-- The slice value v owns a row of n lists. -/
def OwnsN (t : TypeId) (m : Nat) (w : World) (base : Nat) (v : Value) (n : Nat) (L : List (List Int)) : Prop := w.ownsRow base t m v n (L.flatten.map (Value.int .i64))
theorem OwnsN.out {t : TypeId} {m : Nat} {w : World} {base : Nat} {v : Value} {n : Nat} {L : List (List Int)} (h : OwnsN t m w base v n L) (hn : n = L.length) : OwnsL t m w base v L := by subst hn; exact h
theorem step_flat (d : Int) (E : Nat → Int) (i : Nat) : ((stps d E i).flatten.map (Value.int .i64)) ++ (mk (2 * 4) fun j => twoF (stepF d (fun j => E (i * 2 + j)) 1) (stepF d (fun j => E (i * 2 + j)) 2) (0 + j)).toList = (stps d E (i + 1)).flatten.map (Value.int .i64) := by
  have e : stps d E (i + 1) = stps d E i ++ [cl 4 (stp d E i 1), cl 4 (stp d E i 2)] := rfl
  rw [e, List.flatten_append, List.map_append]
  rfl
set_option maxHeartbeats 4000000 in
set_option maxRecDepth 20000 in
theorem l5Steps_any (f : Nat → Int) (d : Nat) (w : World) (hV : Vd f) (hd : d < 4) :
    Calls Try.prog 188 #[.agg (mk 16 f), .int .i64 d] w fun e w' => ∃ g cap, e = .returned (.slice (some ⟨g, 0, none⟩) (stepL f d).length cap) ∧
      OwnsL 52 4 w' w.heap.size (.slice (some ⟨g, 0, none⟩) (stepL f d).length cap) (stepL f d) ∧ Below w.heap.size w w' := by
  obtain ⟨i0, hi, hz0, hz1, hz2⟩ := info_parts infoT
  have K1 := (Blk.new w 16 f 26).alloc (.cells #[] 52)
  have HB := Lib.hid (((Below.refl w.heap.size w).alloc (Nat.le_refl _) (.cells (mk 16 f) 26)).alloc (by simp) (.cells #[] 52))
  have HO : Hid (OwnsL 52 4 ((w.alloc (.cells (mk 16 f) 26)).alloc (.cells #[] 52)) w.heap.size (.slice (some ⟨w.heap.size + 1, 0, none⟩) 0 0) []) := by
    have := OwnsL.made (t := 52) (m := 4) (b := w.heap.size) (w.alloc (.cells (mk 16 f) 26)) (by simp)
    simp only [World.size_alloc] at this
    exact this
  have HV := Lib.hid hV
  have d0 : (0 : Int) ≤ (d : Int) := by omega
  have d3 : (d : Int) ≤ 3 := by omega
  have z16 := zero16
  clear hV
  by_cases hm : sameB (slideB f d) f = true
  · rw [step_same hm]
    have HM := Lib.hid hm
    clear hm
    have iE : ∀ (w : World), (Op.equalIn 10000 26 (.agg (mk 16 (slideB f d))) (.agg (mk 16 f))).run Try.prog w = .ok true w := fun w => by rw [eqB 9996, HM.out]
    go_enter Try.func188, Try.ntmps188
    go_wp2_with ((with_reducible show wpList _ _ _ (Oper.mk _ (Op.load 26 _) _ _ _ _ :: _) _ _); refine loadB (K1) rfl rfl rfl ?_)
    refine (l2Slide_nat f d _ HV.out d0 d3).mono ?_
    rintro _ w2 ⟨rfl, hb⟩
    have K1 := (K1.below hb K1.lt).alloc (.cells (mk 16 (slideB f d)) 26)
    have K4 := Blk.new w2 16 (slideB f d) 26
    have HO := Lib.hid (OwnsL.alloc (OwnsL.below HO.out hb) (.cells (mk 16 (slideB f d)) 26))
    have HB := HB.out.trans (hb.mono HB.out.size)
    have HB : Hid (Below w.heap.size w (w2.alloc (.cells (mk 16 (slideB f d)) 26))) := HB.alloc HB.size _
    clear hb
    go_wp2_with (first | ((with_reducible show wpList _ _ _ (Oper.mk _ (Op.load 26 _) _ _ _ _ :: _) _ _); refine loadB (K4) rfl rfl rfl ?_) | ((with_reducible show wpList _ _ _ (Oper.mk _ (Op.load 26 _) _ _ _ _ :: _) _ _); refine loadB (K1) rfl rfl rfl ?_))
    go_ret
    exact ⟨_, _, rfl, HO.out, HB.out⟩
  · have hm : sameB (slideB f d) f = false := by simpa using hm
    rw [step_move hm]
    have HSL := l2Slide_nat f d
    generalize slideB f d = S at *
    have hle := empN_le S 16
    have HEM := Lib.hid (l2Empty_any S)
    have HCA := Lib.hid (fun (w : World) (base g cap n : Nat) (h : OwnsCells w base (.slice (some ⟨g, 0, none⟩) n cap) n (empL S 16)) (hn : n = empN S 16) => cells_at h hn)
    generalize hnE : empN S 16 = nE at *
    have HM := Lib.hid hm
    clear hm
    have iE : ∀ (w : World), (Op.equalIn 10000 26 (.agg (mk 16 S)) (.agg (mk 16 f))).run Try.prog w = .ok false w := fun w => by rw [eqB 9996, HM.out]
    go_enter Try.func188, Try.ntmps188
    go_wp2_with ((with_reducible show wpList _ _ _ (Oper.mk _ (Op.load 26 _) _ _ _ _ :: _) _ _); refine loadB (K1) rfl rfl rfl ?_)
    refine (HSL _ HV.out d0 d3).mono ?_
    clear HSL
    rintro _ w2 ⟨rfl, hb⟩
    have K1 := (K1.below hb K1.lt).alloc (.cells (mk 16 S) 26)
    have K4 := Blk.new w2 16 S 26
    have HO := Lib.hid (OwnsL.alloc (OwnsL.below HO.out hb) (.cells (mk 16 S) 26))
    have HB := HB.out.trans (hb.mono HB.out.size)
    have HB : Hid (Below w.heap.size w (w2.alloc (.cells (mk 16 S) 26))) := HB.alloc HB.size _
    clear hb
    go_wp2_with (first | ((with_reducible show wpList _ _ _ (Oper.mk _ (Op.load 26 _) _ _ _ _ :: _) _ _); refine loadB (K4) rfl rfl rfl ?_) | ((with_reducible show wpList _ _ _ (Oper.mk _ (Op.load 26 _) _ _ _ _ :: _) _ _); refine loadB (K1) rfl rfl rfl ?_))
    clear iE K1
    refine (HEM.out _).mono ?_
    rintro _ w3 ⟨ge, ce, rfl, he, hb⟩
    have HO : Hid (OwnsN 52 4 w3 w.heap.size (.slice (some ⟨w.heap.size + 1, 0, none⟩) 0 0) 0 (stps d (empF S) 0)) := OwnsL.below HO.out hb
    have HE : Hid (OwnsCells w3 w.heap.size (.slice (some ⟨ge, 0, none⟩) nE ce) nE (empL S 16)) := ownsRow_wide he HB.out.size
    have HB : Hid (Below w.heap.size w w3) := HB.out.trans (hb.mono HB.out.size)
    clear hb he K4 HEM
    go_wp2_with fail
    go_loopg [5, 9] nE (fun gk s5 s9 wr => ∃ (i : Nat) (v : Value), i + gk = nE ∧ s9 = .int .i64 i ∧ v = s5 ∧ (∃ gg cap, v = .slice (some ⟨gg, 0, none⟩) (i * 2) cap) ∧ Hid (OwnsN 52 4 wr w.heap.size v (i * 2) (stps d (empF S) i)) ∧ Hid (OwnsCells wr w.heap.size (.slice (some ⟨ge, 0, none⟩) nE ce) nE (empL S 16)) ∧ Hid (Below w.heap.size w wr))
    case atStart => exact ⟨0, _, by omega, rfl, rfl, ⟨_, _, rfl⟩, HO, HE, HB⟩
    case round =>
      obtain ⟨i, v, hig, rfl, rfl, ⟨gg, cap, hv⟩, HO, HE, HB⟩ := hrel
      subst hv
      cases gk with
      | zero =>
        have hr : ¬ ((i : Int) < (nE : Int)) := by omega
        obtain rfl : i = nE := by omega
        clear hig
        go_wp2_with fail
        go_ret
        refine ⟨gg, cap, by rw [stps_len]; rfl, ?_, HB.out⟩
        rw [stps_len]
        exact OwnsN.out HO.out (stps_len _ _ _).symm
      | succ gk2 =>
        have hr : (i : Int) < (nE : Int) := by omega
        have hi0 : (0 : Int) ≤ (i : Int) := by omega
        have CE : CAt wr ge (nE * 2) (empF S) := HCA.out _ _ _ _ _ HE.out rfl
        go_wp2_with fail
        refine wp_region_held_drew (S := fun W => CAt W ge (nE * 2) (empF S) ∧ Hid (Below w.heap.size w W)) (by kernel_rfl) (⟨CE.drew, HB.out.drew⟩) (fun hHeld => ?_)
        have CE : CAt wr.drew ge (nE * 2) (empF S) := CE.drew
        have HB : Hid (Below w.heap.size w wr.drew) := HB.out.drew
        have HO : Hid (OwnsN 52 4 wr.drew w.heap.size (.slice (some ⟨gg, 0, none⟩) (i * 2) cap) (i * 2) (stps d (empF S) i)) := HO.out
        have HE : Hid (OwnsCells wr.drew w.heap.size (.slice (some ⟨ge, 0, none⟩) nE ce) nE (empL S 16)) := HE.out
        generalize wr.drew = x0 at *
        refine wpAnyH_take (i := 0) (oi := { dst := some 29, op := _, type := _, pos := _, after := _, guard := _ }) (v := .slice (some ⟨gg, 0, none⟩) (i * 2) cap) rfl (by kernel_rfl) (by kernel_rfl) (by kernel_rfl) (fun _ _ _ h => h) (Or.inl ⟨by rfl, by intro w hSw; clear hSw; go_simp; (try with_reducible rfl)⟩) (by assumption) ?_
        try simp only [Act.put, List.setIfInBounds_toArray, List.set_cons_zero, List.set_cons_succ]
        refine wpAnyH_take (i := 1) (oi := { dst := some 30, op := _, type := _, pos := _, after := _, guard := _ }) (v := .int .i64 (d : Int)) rfl (by kernel_rfl) (by kernel_rfl) (by kernel_rfl) (fun _ _ _ h => h) (Or.inl ⟨by rfl, by intro w hSw; clear hSw; go_simp; (try with_reducible rfl)⟩) (by assumption) ?_
        try simp only [Act.put, List.setIfInBounds_toArray, List.set_cons_zero, List.set_cons_succ]
        refine wpAnyH_take (i := 2) (oi := { dst := some 31, op := _, type := _, pos := _, after := _, guard := _ }) (v := .slice (some ⟨ge, 0, none⟩) nE ce) rfl (by kernel_rfl) (by kernel_rfl) (by kernel_rfl) (fun _ _ _ h => h) (Or.inl ⟨by rfl, by intro w hSw; clear hSw; go_simp; (try with_reducible rfl)⟩) (by assumption) ?_
        try simp only [Act.put, List.setIfInBounds_toArray, List.set_cons_zero, List.set_cons_succ]
        refine wpAnyH_take (i := 3) (oi := { dst := some 32, op := _, type := _, pos := _, after := _, guard := _ }) (v := .int .i64 (i : Int)) rfl (by kernel_rfl) (by kernel_rfl) (by kernel_rfl) (fun _ _ _ h => h) (Or.inl ⟨by rfl, by intro w hSw; clear hSw; go_simp; (try with_reducible rfl)⟩) (by assumption) ?_
        try simp only [Act.put, List.setIfInBounds_toArray, List.set_cons_zero, List.set_cons_succ]
        refine wpAnyH_take (i := 4) (oi := { dst := some 33, op := _, type := _, pos := _, after := _, guard := _ }) (v := .pointer (some ⟨ge, i * 2, none⟩)) rfl (by kernel_rfl) (by kernel_rfl) (by kernel_rfl) (fun _ _ _ h => h) (Or.inl ⟨by rfl, by intro w hSw; clear hSw; go_simp; (try with_reducible rfl)⟩) (by assumption) ?_
        try simp only [Act.put, List.setIfInBounds_toArray, List.set_cons_zero, List.set_cons_succ]
        refine wpAnyH_take (i := 5) (oi := { dst := some 34, op := _, type := _, pos := _, after := _, guard := _ }) (v := .agg (mk 2 fun j => empF S (i * 2 + j))) rfl (by kernel_rfl) (by kernel_rfl) (by kernel_rfl) (fun _ _ _ h => h) (Or.inl ⟨by rfl, fun _ q => execAC q.1 (by omega) rfl rfl⟩) (by assumption) ?_
        try simp only [Act.put, List.setIfInBounds_toArray, List.set_cons_zero, List.set_cons_succ]
        refine wpAnyH_take (i := 6) (oi := { dst := some 35, op := _, type := _, pos := _, after := _, guard := _ }) (v := .agg (mk 4 (stepF d (fun j => empF S (i * 2 + j)) 1))) rfl (by kernel_rfl) (by kernel_rfl) (by kernel_rfl) (fun _ _ _ h => h) (Or.inl ⟨by rfl, fun _ _ => exec_stepT _ _ _ rfl rfl rfl rfl⟩) (by assumption) ?_
        try simp only [Act.put, List.setIfInBounds_toArray, List.set_cons_zero, List.set_cons_succ]
        refine wpAnyH_take (i := 7) (oi := { dst := some 36, op := _, type := _, pos := _, after := _, guard := _ }) (v := .int .i64 (d : Int)) rfl (by kernel_rfl) (by kernel_rfl) (by kernel_rfl) (fun _ _ _ h => h) (Or.inl ⟨by rfl, by intro w hSw; clear hSw; go_simp; (try with_reducible rfl)⟩) (by assumption) ?_
        try simp only [Act.put, List.setIfInBounds_toArray, List.set_cons_zero, List.set_cons_succ]
        refine wpAnyH_take (i := 8) (oi := { dst := some 37, op := _, type := _, pos := _, after := _, guard := _ }) (v := .slice (some ⟨ge, 0, none⟩) nE ce) rfl (by kernel_rfl) (by kernel_rfl) (by kernel_rfl) (fun _ _ _ h => h) (Or.inl ⟨by rfl, by intro w hSw; clear hSw; go_simp; (try with_reducible rfl)⟩) (by assumption) ?_
        try simp only [Act.put, List.setIfInBounds_toArray, List.set_cons_zero, List.set_cons_succ]
        refine wpAnyH_take (i := 9) (oi := { dst := some 38, op := _, type := _, pos := _, after := _, guard := _ }) (v := .int .i64 (i : Int)) rfl (by kernel_rfl) (by kernel_rfl) (by kernel_rfl) (fun _ _ _ h => h) (Or.inl ⟨by rfl, by intro w hSw; clear hSw; go_simp; (try with_reducible rfl)⟩) (by assumption) ?_
        try simp only [Act.put, List.setIfInBounds_toArray, List.set_cons_zero, List.set_cons_succ]
        refine wpAnyH_take (i := 10) (oi := { dst := some 39, op := _, type := _, pos := _, after := _, guard := _ }) (v := .pointer (some ⟨ge, i * 2, none⟩)) rfl (by kernel_rfl) (by kernel_rfl) (by kernel_rfl) (fun _ _ _ h => h) (Or.inl ⟨by rfl, by intro w hSw; clear hSw; go_simp; (try with_reducible rfl)⟩) (by assumption) ?_
        try simp only [Act.put, List.setIfInBounds_toArray, List.set_cons_zero, List.set_cons_succ]
        refine wpAnyH_take (i := 11) (oi := { dst := some 40, op := _, type := _, pos := _, after := _, guard := _ }) (v := .agg (mk 2 fun j => empF S (i * 2 + j))) rfl (by kernel_rfl) (by kernel_rfl) (by kernel_rfl) (fun _ _ _ h => h) (Or.inl ⟨by rfl, fun _ q => execAC q.1 (by omega) rfl rfl⟩) (by assumption) ?_
        try simp only [Act.put, List.setIfInBounds_toArray, List.set_cons_zero, List.set_cons_succ]
        refine wpAnyH_take (i := 12) (oi := { dst := some 41, op := _, type := _, pos := _, after := _, guard := _ }) (v := .agg (mk 4 (stepF d (fun j => empF S (i * 2 + j)) 2))) rfl (by kernel_rfl) (by kernel_rfl) (by kernel_rfl) (fun _ _ _ h => h) (Or.inl ⟨by rfl, fun _ _ => exec_stepT _ _ _ rfl rfl rfl rfl⟩) (by assumption) ?_
        try simp only [Act.put, List.setIfInBounds_toArray, List.set_cons_zero, List.set_cons_succ]
        refine wpAnyH_ready (rs := [13]) (by kernel_rfl) (by simp) ?_
        refine AllReadyH.cons rfl (fun K hK => ?_) AllReadyH.nil
        rw [if_pos (by rfl)]
        refine wp_buildT2 _ _ rfl (s := stepF d (fun j => empF S (i * 2 + j)) 1) (u := stepF d (fun j => empF S (i * 2 + j)) 2) rfl rfl ?_
        have A1 := CE.alloc (.cells (mk 8 (twoF (stepF d (fun j => empF S (i * 2 + j)) 1) (stepF d (fun j => empF S (i * 2 + j)) 2))) 52)
        have HW : Hid (Below w.heap.size w (x0.alloc (.cells (mk 8 (twoF (stepF d (fun j => empF S (i * 2 + j)) 1) (stepF d (fun j => empF S (i * 2 + j)) 2))) 52))) := HB.out.alloc HB.out.size _
        refine hK.out _ _ ⟨A1, HW⟩ (fun hHeld => ?_)
        clear hK K hHeld
        try simp only [Act.put, List.setIfInBounds_toArray, List.set_cons_zero, List.set_cons_succ]
        refine wpAnyH_ready (rs := [14]) (by kernel_rfl) (by simp) ?_
        refine AllReadyH.cons rfl (fun K hK => ?_) AllReadyH.nil
        rw [if_pos (by rfl)]
        refine wp_app (v := .slice (some ⟨gg, 0, none⟩) (i * 2) cap) _ _ 27 rfl w.heap.size 52 i0 _ 4 32 Try.underlying27 hi hz0 hz1 hz2 rfl (by decide) rfl (World.ownsRow.alloc HO.out _) x0.heap.size 0 2 2 (twoF (stepF d (fun j => empF S (i * 2 + j)) 1) (stepF d (fun j => empF S (i * 2 + j)) 2)) 8 rfl (Blk.new _ _ _ _).at (by omega) (by unfold maxLen; omega) (by omega) (by have := HB.out.size; simp; omega) ?_
        intro v' w6 R6 hbl hgr
        have HE6 : Hid (OwnsCells w6 w.heap.size (.slice (some ⟨ge, 0, none⟩) nE ce) nE (empL S 16)) := World.ownsRow.kept (World.ownsRow.alloc HE.out _) hgr (own_ne_own HE.out HO.out (by decide))
        have A1 : CAt w6 ge (nE * 2) (empF S) := HCA.out _ _ _ _ _ HE6.out rfl
        have HW : Hid (Below w.heap.size w w6) := HW.out.trans hbl
        refine hK.out _ _ ⟨A1, HW⟩ (fun hHeld => ?_)
        clear hK K
        try simp only [Act.put, List.setIfInBounds_toArray, List.set_cons_zero, List.set_cons_succ]
        refine wpAnyH_take (i := 15) (oi := { dst := some 5, op := _, type := _, pos := _, after := _, guard := _ }) (v := v') rfl (by kernel_rfl) (by kernel_rfl) (by kernel_rfl) (fun _ _ _ h => h) (Or.inl ⟨by rfl, by intro w hSw; clear hSw; go_simp; (try with_reducible rfl)⟩) (by assumption) ?_
        try simp only [Act.put, List.setIfInBounds_toArray, List.set_cons_zero, List.set_cons_succ]
        refine wpAnyH_done (by kernel_rfl) ?_ _
        obtain ⟨g', cap', hv'⟩ := ownsRow_succ2 R6
        have HV : Hid (∃ gg cap, v' = .slice (some ⟨gg, 0, none⟩) ((i + 1) * 2) cap) := ⟨g', cap', by rw [hv', Nat.succ_mul]⟩
        have HO6 : Hid (OwnsN 52 4 w6 w.heap.size v' ((i + 1) * 2) (stps d (empF S) (i + 1))) := by
          show w6.ownsRow _ _ _ _ _ _
          rw [← step_flat d (empF S) i, Nat.succ_mul]
          exact R6
        clear R6 hgr hbl hv' A1
        go_wp2_with fail
        go_roundg gk2
        case rel => exact ⟨i + 1, _, by omega, by go_num, rfl, HV.out, HO6, HE6, HW⟩
        case measure => omega
end Go.Proofs.Ytfjpdopljmilpaa
