/-
  The contracts of the reference's l8Places and PlacementsOf: all placements on a board.
-/
import Derived.Test.YtlboglcpbbnbcabTripKit
namespace Go.Proofs.Ytlboglcpbbnbcab
open Go.RowKit Plain
attribute [local go_sem] store_new
set_option linter.unusedVariables false
set_option linter.unusedSimpArgs false

set_option maxHeartbeats 4000000 in
set_option maxRecDepth 20000 in
theorem l8Places_any (f : Nat → Int) (w : World) :
    Calls Try.prog 116 #[.agg (mk 16 f)] w fun e w' => ∃ g cap, e = .returned (.slice (some ⟨g, 0, none⟩) (plL (plA f)).length cap) ∧
      OwnsL 70 3 w' w.heap.size (.slice (some ⟨g, 0, none⟩) (plL (plA f)).length cap) (plL (plA f)) ∧ Below w.heap.size w w' := by
  obtain ⟨i0, hi, hz0, hz1, hz2⟩ := info_parts infoA
  have K1 := (Blk.new w 16 f 29).alloc (.cells #[] 70)
  have HB := Lib.hid (((Below.refl w.heap.size w).alloc (Nat.le_refl _) (.cells (mk 16 f) 29)).alloc (by simp) (.cells #[] 70))
  have HO : Hid (OwnsL 70 3 ((w.alloc (.cells (mk 16 f) 29)).alloc (.cells #[] 70)) w.heap.size (.slice (some ⟨w.heap.size + 1, 0, none⟩) 0 0) []) := by
    have := OwnsL.made (t := 70) (m := 3) (b := w.heap.size) (w.alloc (.cells (mk 16 f) 29)) (by simp)
    simp only [World.size_alloc] at this
    exact this
  have hle := empN_le f 16
  have HAT := Lib.hid (emI_at f 16)
  have HLN : Hid ((plL (plA f)).length = empN f 16 * 2) := by show _ = _; rw [plL_len, plA_len]
  have HPA := Lib.hid (plN_all f)
  have HEM := Lib.hid (l2Empty_any f)
  have HCA := Lib.hid (fun (w : World) (base g cap n : Nat) (h : OwnsCells w base (.slice (some ⟨g, 0, none⟩) n cap) n (empL f 16)) (hn : n = empN f 16) => empties_at h hn)
  have HAF : Hid (∀ i, i < empN f 16 → ∃ j, (emI f 16)[i]? = some j ∧ empF f (i * 2) = ((j / 4 : Nat) : Int) ∧ empF f (i * 2 + 1) = ((j % 4 : Nat) : Int)) := fun i hi => by
    obtain ⟨j, h1, _, _, h2, h3⟩ := emI_at f 16 i hi
    exact ⟨j, h1, h2, h3⟩
  rw [HLN.out]
  generalize hnE : empN f 16 = nE at *
  go_enter Try.func116, Try.ntmps116
  go_wp2_with ((with_reducible show wpList _ _ _ (Oper.mk _ (Op.load 29 _) _ _ _ _ :: _) _ _); refine loadB (K1) rfl rfl rfl ?_)
  refine (HEM.out _).mono ?_
  rintro _ w3 ⟨ge, ce, rfl, he, hb⟩
  have HO : Hid (OwnsM 70 3 w3 w.heap.size (.slice (some ⟨w.heap.size + 1, 0, none⟩) 0 0) 0 (plL (plN f 0))) := by
    have := OwnsL.below HO.out hb
    exact this
  have HE : Hid (OwnsCells w3 w.heap.size (.slice (some ⟨ge, 0, none⟩) nE ce) nE (empL f 16)) := ownsRow_wide he HB.out.size
  have HB : Hid (Below w.heap.size w w3) := HB.out.trans (hb.mono HB.out.size)
  clear hb he K1 HEM HAT
  go_wp2_with fail
  go_loopg [3, 5] nE (fun gk s3 s5 wr => ∃ (i : Nat) (v : Value), i + gk = nE ∧ s5 = .int .i64 i ∧ v = s3 ∧ (∃ gg cap, v = .slice (some ⟨gg, 0, none⟩) (i * 2) cap) ∧ Hid (OwnsM 70 3 wr w.heap.size v (i * 2) (plL (plN f i))) ∧ Hid (OwnsCells wr w.heap.size (.slice (some ⟨ge, 0, none⟩) nE ce) nE (empL f 16)) ∧ Hid (Below w.heap.size w wr))
  case atStart => exact ⟨0, _, by omega, rfl, rfl, ⟨_, _, rfl⟩, HO, HE, HB⟩
  case round =>
    obtain ⟨i, v, hig, rfl, rfl, ⟨gg, cap, hv⟩, HO, HE, HB⟩ := hrel
    subst hv
    cases gk with
    | zero =>
      have hr : ¬ ((i : Int) < (nE : Int)) := by omega
      obtain rfl : i = nE := by omega
      clear hig
      go_wp2_with fail
      go_ret
      refine ⟨gg, cap, rfl, ?_, HB.out⟩
      have := HO.out
      rw [HPA.out] at this
      rw [← HLN.out] at this ⊢
      exact OwnsM.out this rfl
    | succ gk2 =>
      have hr : (i : Int) < (nE : Int) := by omega
      have hi0 : (0 : Int) ≤ (i : Int) := by omega
      have CE : CAt wr ge (nE * 2) (empF f) := HCA.out _ _ _ _ _ HE.out rfl
      have HPF : Hid (((plL (plN f i)).flatten.map (Value.int .i64)) ++ (mk (2 * 3) fun q => two3 (tri (empF f (i * 2)) (empF f (i * 2 + 1)) 1) (tri (empF f (i * 2)) (empF f (i * 2 + 1)) 2) (0 + q)).toList = (plL (plN f (i + 1))).flatten.map (Value.int .i64)) := by
        obtain ⟨j, h1, h2, h3⟩ := HAF.out i (by omega)
        exact pl_flat h1 h2 h3
      go_wp2_with fail
      refine wp_region_held_drew (S := fun W => CAt W ge (nE * 2) (empF f) ∧ Hid (Below w.heap.size w W)) (by kernel_rfl) (⟨CE.drew, HB.out.drew⟩) (fun hHeld => ?_)
      have CE : CAt wr.drew ge (nE * 2) (empF f) := CE.drew
      have HB : Hid (Below w.heap.size w wr.drew) := HB.out.drew
      have HO : Hid (OwnsM 70 3 wr.drew w.heap.size (.slice (some ⟨gg, 0, none⟩) (i * 2) cap) (i * 2) (plL (plN f i))) := HO.out
      have HE : Hid (OwnsCells wr.drew w.heap.size (.slice (some ⟨ge, 0, none⟩) nE ce) nE (empL f 16)) := HE.out
      generalize wr.drew = x0 at *
      refine wpAnyH_take (i := 0) (oi := { dst := some 15, op := _, type := _, pos := _, after := _, guard := _ }) (v := .slice (some ⟨gg, 0, none⟩) (i * 2) cap) rfl (by kernel_rfl) (by kernel_rfl) (by kernel_rfl) (fun _ _ _ h => h) (Or.inl ⟨by rfl, by intro w hSw; clear hSw; go_simp; (try with_reducible rfl)⟩) (by assumption) ?_
      try simp only [Act.put, List.setIfInBounds_toArray, List.set_cons_zero, List.set_cons_succ]
      refine wpAnyH_take (i := 1) (oi := { dst := some 16, op := _, type := _, pos := _, after := _, guard := _ }) (v := .slice (some ⟨ge, 0, none⟩) nE ce) rfl (by kernel_rfl) (by kernel_rfl) (by kernel_rfl) (fun _ _ _ h => h) (Or.inl ⟨by rfl, by intro w hSw; clear hSw; go_simp; (try with_reducible rfl)⟩) (by assumption) ?_
      try simp only [Act.put, List.setIfInBounds_toArray, List.set_cons_zero, List.set_cons_succ]
      refine wpAnyH_take (i := 2) (oi := { dst := some 17, op := _, type := _, pos := _, after := _, guard := _ }) (v := .int .i64 (i : Int)) rfl (by kernel_rfl) (by kernel_rfl) (by kernel_rfl) (fun _ _ _ h => h) (Or.inl ⟨by rfl, by intro w hSw; clear hSw; go_simp; (try with_reducible rfl)⟩) (by assumption) ?_
      try simp only [Act.put, List.setIfInBounds_toArray, List.set_cons_zero, List.set_cons_succ]
      refine wpAnyH_take (i := 3) (oi := { dst := some 18, op := _, type := _, pos := _, after := _, guard := _ }) (v := .pointer (some ⟨ge, i * 2, none⟩)) rfl (by kernel_rfl) (by kernel_rfl) (by kernel_rfl) (fun _ _ _ h => h) (Or.inl ⟨by rfl, by intro w hSw; clear hSw; go_simp; (try with_reducible rfl)⟩) (by assumption) ?_
      try simp only [Act.put, List.setIfInBounds_toArray, List.set_cons_zero, List.set_cons_succ]
      refine wpAnyH_take (i := 4) (oi := { dst := some 19, op := _, type := _, pos := _, after := _, guard := _ }) (v := .pointer (some ⟨ge, i * 2, none⟩)) rfl (by kernel_rfl) (by kernel_rfl) (by kernel_rfl) (fun _ _ _ h => h) (Or.inl ⟨by rfl, by intro w hSw; clear hSw; go_simp; (try with_reducible rfl)⟩) (by assumption) ?_
      try simp only [Act.put, List.setIfInBounds_toArray, List.set_cons_zero, List.set_cons_succ]
      refine wpAnyH_take (i := 5) (oi := { dst := some 20, op := _, type := _, pos := _, after := _, guard := _ }) (v := .int .i64 (empF f (i * 2))) rfl (by kernel_rfl) (by kernel_rfl) (by kernel_rfl) (fun _ _ _ h => h) (Or.inl ⟨by rfl, by intro W q; have c0 := q.1.cell (j := i * 2) (by omega); clear q; go_simp⟩) (by assumption) ?_
      try simp only [Act.put, List.setIfInBounds_toArray, List.set_cons_zero, List.set_cons_succ]
      refine wpAnyH_take (i := 6) (oi := { dst := some 21, op := _, type := _, pos := _, after := _, guard := _ }) (v := .slice (some ⟨ge, 0, none⟩) nE ce) rfl (by kernel_rfl) (by kernel_rfl) (by kernel_rfl) (fun _ _ _ h => h) (Or.inl ⟨by rfl, by intro w hSw; clear hSw; go_simp; (try with_reducible rfl)⟩) (by assumption) ?_
      try simp only [Act.put, List.setIfInBounds_toArray, List.set_cons_zero, List.set_cons_succ]
      refine wpAnyH_take (i := 7) (oi := { dst := some 22, op := _, type := _, pos := _, after := _, guard := _ }) (v := .int .i64 (i : Int)) rfl (by kernel_rfl) (by kernel_rfl) (by kernel_rfl) (fun _ _ _ h => h) (Or.inl ⟨by rfl, by intro w hSw; clear hSw; go_simp; (try with_reducible rfl)⟩) (by assumption) ?_
      try simp only [Act.put, List.setIfInBounds_toArray, List.set_cons_zero, List.set_cons_succ]
      refine wpAnyH_take (i := 8) (oi := { dst := some 23, op := _, type := _, pos := _, after := _, guard := _ }) (v := .pointer (some ⟨ge, i * 2, none⟩)) rfl (by kernel_rfl) (by kernel_rfl) (by kernel_rfl) (fun _ _ _ h => h) (Or.inl ⟨by rfl, by intro w hSw; clear hSw; go_simp; (try with_reducible rfl)⟩) (by assumption) ?_
      try simp only [Act.put, List.setIfInBounds_toArray, List.set_cons_zero, List.set_cons_succ]
      refine wpAnyH_take (i := 9) (oi := { dst := some 24, op := _, type := _, pos := _, after := _, guard := _ }) (v := .pointer (some ⟨ge, i * 2 + 1, none⟩)) rfl (by kernel_rfl) (by kernel_rfl) (by kernel_rfl) (fun _ _ _ h => h) (Or.inl ⟨by rfl, by intro w hSw; clear hSw; go_simp; (try with_reducible rfl)⟩) (by assumption) ?_
      try simp only [Act.put, List.setIfInBounds_toArray, List.set_cons_zero, List.set_cons_succ]
      refine wpAnyH_take (i := 10) (oi := { dst := some 25, op := _, type := _, pos := _, after := _, guard := _ }) (v := .int .i64 (empF f (i * 2 + 1))) rfl (by kernel_rfl) (by kernel_rfl) (by kernel_rfl) (fun _ _ _ h => h) (Or.inl ⟨by rfl, by intro W q; have c0 := q.1.cell (j := i * 2 + 1) (by omega); clear q; go_simp⟩) (by assumption) ?_
      try simp only [Act.put, List.setIfInBounds_toArray, List.set_cons_zero, List.set_cons_succ]
      refine wpAnyH_take (i := 11) (oi := { dst := some 26, op := _, type := _, pos := _, after := _, guard := _ }) (v := .agg (mk 3 (tri (empF f (i * 2)) (empF f (i * 2 + 1)) 1))) rfl (by kernel_rfl) (by kernel_rfl) (by kernel_rfl) (fun _ _ _ h => h) (Or.inl ⟨by rfl, fun _ _ => exec_buildA _ _ _ rfl rfl rfl rfl⟩) (by assumption) ?_
      try simp only [Act.put, List.setIfInBounds_toArray, List.set_cons_zero, List.set_cons_succ]
      refine wpAnyH_take (i := 12) (oi := { dst := some 27, op := _, type := _, pos := _, after := _, guard := _ }) (v := .slice (some ⟨ge, 0, none⟩) nE ce) rfl (by kernel_rfl) (by kernel_rfl) (by kernel_rfl) (fun _ _ _ h => h) (Or.inl ⟨by rfl, by intro w hSw; clear hSw; go_simp; (try with_reducible rfl)⟩) (by assumption) ?_
      try simp only [Act.put, List.setIfInBounds_toArray, List.set_cons_zero, List.set_cons_succ]
      refine wpAnyH_take (i := 13) (oi := { dst := some 28, op := _, type := _, pos := _, after := _, guard := _ }) (v := .int .i64 (i : Int)) rfl (by kernel_rfl) (by kernel_rfl) (by kernel_rfl) (fun _ _ _ h => h) (Or.inl ⟨by rfl, by intro w hSw; clear hSw; go_simp; (try with_reducible rfl)⟩) (by assumption) ?_
      try simp only [Act.put, List.setIfInBounds_toArray, List.set_cons_zero, List.set_cons_succ]
      refine wpAnyH_take (i := 14) (oi := { dst := some 29, op := _, type := _, pos := _, after := _, guard := _ }) (v := .pointer (some ⟨ge, i * 2, none⟩)) rfl (by kernel_rfl) (by kernel_rfl) (by kernel_rfl) (fun _ _ _ h => h) (Or.inl ⟨by rfl, by intro w hSw; clear hSw; go_simp; (try with_reducible rfl)⟩) (by assumption) ?_
      try simp only [Act.put, List.setIfInBounds_toArray, List.set_cons_zero, List.set_cons_succ]
      refine wpAnyH_take (i := 15) (oi := { dst := some 30, op := _, type := _, pos := _, after := _, guard := _ }) (v := .pointer (some ⟨ge, i * 2, none⟩)) rfl (by kernel_rfl) (by kernel_rfl) (by kernel_rfl) (fun _ _ _ h => h) (Or.inl ⟨by rfl, by intro w hSw; clear hSw; go_simp; (try with_reducible rfl)⟩) (by assumption) ?_
      try simp only [Act.put, List.setIfInBounds_toArray, List.set_cons_zero, List.set_cons_succ]
      refine wpAnyH_take (i := 16) (oi := { dst := some 31, op := _, type := _, pos := _, after := _, guard := _ }) (v := .int .i64 (empF f (i * 2))) rfl (by kernel_rfl) (by kernel_rfl) (by kernel_rfl) (fun _ _ _ h => h) (Or.inl ⟨by rfl, by intro W q; have c0 := q.1.cell (j := i * 2) (by omega); clear q; go_simp⟩) (by assumption) ?_
      try simp only [Act.put, List.setIfInBounds_toArray, List.set_cons_zero, List.set_cons_succ]
      refine wpAnyH_take (i := 17) (oi := { dst := some 32, op := _, type := _, pos := _, after := _, guard := _ }) (v := .slice (some ⟨ge, 0, none⟩) nE ce) rfl (by kernel_rfl) (by kernel_rfl) (by kernel_rfl) (fun _ _ _ h => h) (Or.inl ⟨by rfl, by intro w hSw; clear hSw; go_simp; (try with_reducible rfl)⟩) (by assumption) ?_
      try simp only [Act.put, List.setIfInBounds_toArray, List.set_cons_zero, List.set_cons_succ]
      refine wpAnyH_take (i := 18) (oi := { dst := some 33, op := _, type := _, pos := _, after := _, guard := _ }) (v := .int .i64 (i : Int)) rfl (by kernel_rfl) (by kernel_rfl) (by kernel_rfl) (fun _ _ _ h => h) (Or.inl ⟨by rfl, by intro w hSw; clear hSw; go_simp; (try with_reducible rfl)⟩) (by assumption) ?_
      try simp only [Act.put, List.setIfInBounds_toArray, List.set_cons_zero, List.set_cons_succ]
      refine wpAnyH_take (i := 19) (oi := { dst := some 34, op := _, type := _, pos := _, after := _, guard := _ }) (v := .pointer (some ⟨ge, i * 2, none⟩)) rfl (by kernel_rfl) (by kernel_rfl) (by kernel_rfl) (fun _ _ _ h => h) (Or.inl ⟨by rfl, by intro w hSw; clear hSw; go_simp; (try with_reducible rfl)⟩) (by assumption) ?_
      try simp only [Act.put, List.setIfInBounds_toArray, List.set_cons_zero, List.set_cons_succ]
      refine wpAnyH_take (i := 20) (oi := { dst := some 35, op := _, type := _, pos := _, after := _, guard := _ }) (v := .pointer (some ⟨ge, i * 2 + 1, none⟩)) rfl (by kernel_rfl) (by kernel_rfl) (by kernel_rfl) (fun _ _ _ h => h) (Or.inl ⟨by rfl, by intro w hSw; clear hSw; go_simp; (try with_reducible rfl)⟩) (by assumption) ?_
      try simp only [Act.put, List.setIfInBounds_toArray, List.set_cons_zero, List.set_cons_succ]
      refine wpAnyH_take (i := 21) (oi := { dst := some 36, op := _, type := _, pos := _, after := _, guard := _ }) (v := .int .i64 (empF f (i * 2 + 1))) rfl (by kernel_rfl) (by kernel_rfl) (by kernel_rfl) (fun _ _ _ h => h) (Or.inl ⟨by rfl, by intro W q; have c0 := q.1.cell (j := i * 2 + 1) (by omega); clear q; go_simp⟩) (by assumption) ?_
      try simp only [Act.put, List.setIfInBounds_toArray, List.set_cons_zero, List.set_cons_succ]
      refine wpAnyH_take (i := 22) (oi := { dst := some 37, op := _, type := _, pos := _, after := _, guard := _ }) (v := .agg (mk 3 (tri (empF f (i * 2)) (empF f (i * 2 + 1)) 2))) rfl (by kernel_rfl) (by kernel_rfl) (by kernel_rfl) (fun _ _ _ h => h) (Or.inl ⟨by rfl, fun _ _ => exec_buildA _ _ _ rfl rfl rfl rfl⟩) (by assumption) ?_
      try simp only [Act.put, List.setIfInBounds_toArray, List.set_cons_zero, List.set_cons_succ]
      refine wpAnyH_ready (rs := [23]) (by kernel_rfl) (by simp) ?_
      refine AllReadyH.cons rfl (fun K hK => ?_) AllReadyH.nil
      rw [if_pos (by rfl)]
      refine wp_buildA2 _ _ rfl (s := tri (empF f (i * 2)) (empF f (i * 2 + 1)) 1) (u := tri (empF f (i * 2)) (empF f (i * 2 + 1)) 2) rfl rfl ?_
      have A1 := CE.alloc (.cells (mk 6 (two3 (tri (empF f (i * 2)) (empF f (i * 2 + 1)) 1) (tri (empF f (i * 2)) (empF f (i * 2 + 1)) 2))) 70)
      have HW : Hid (Below w.heap.size w (x0.alloc (.cells (mk 6 (two3 (tri (empF f (i * 2)) (empF f (i * 2 + 1)) 1) (tri (empF f (i * 2)) (empF f (i * 2 + 1)) 2))) 70))) := HB.out.alloc HB.out.size _
      refine hK.out _ _ ⟨A1, HW⟩ (fun hHeld => ?_)
      clear hK K hHeld
      try simp only [Act.put, List.setIfInBounds_toArray, List.set_cons_zero, List.set_cons_succ]
      refine wpAnyH_ready (rs := [24]) (by kernel_rfl) (by simp) ?_
      refine AllReadyH.cons rfl (fun K hK => ?_) AllReadyH.nil
      rw [if_pos (by rfl)]
      refine wp_app (v := .slice (some ⟨gg, 0, none⟩) (i * 2) cap) _ _ 73 rfl w.heap.size 70 i0 _ 3 24 Try.underlying73 hi hz0 hz1 hz2 rfl (by decide) rfl (World.ownsRow.alloc HO.out _) x0.heap.size 0 2 2 (two3 (tri (empF f (i * 2)) (empF f (i * 2 + 1)) 1) (tri (empF f (i * 2)) (empF f (i * 2 + 1)) 2)) 6 rfl (Blk.new _ _ _ _).at (by omega) (by unfold maxLen; omega) (by omega) (by have := HB.out.size; simp; omega) ?_
      intro v' w6 R6 hbl hgr
      have HE6 : Hid (OwnsCells w6 w.heap.size (.slice (some ⟨ge, 0, none⟩) nE ce) nE (empL f 16)) := World.ownsRow.kept (World.ownsRow.alloc HE.out _) hgr (own_apart HE.out HO.out (by decide))
      have A1 : CAt w6 ge (nE * 2) (empF f) := HCA.out _ _ _ _ _ HE6.out rfl
      have HW : Hid (Below w.heap.size w w6) := HW.out.trans hbl
      refine hK.out _ _ ⟨A1, HW⟩ (fun hHeld => ?_)
      clear hK K
      try simp only [Act.put, List.setIfInBounds_toArray, List.set_cons_zero, List.set_cons_succ]
      refine wpAnyH_take (i := 25) (oi := { dst := some 3, op := _, type := _, pos := _, after := _, guard := _ }) (v := v') rfl (by kernel_rfl) (by kernel_rfl) (by kernel_rfl) (fun _ _ _ h => h) (Or.inl ⟨by rfl, by intro w hSw; clear hSw; go_simp; (try with_reducible rfl)⟩) (by assumption) ?_
      try simp only [Act.put, List.setIfInBounds_toArray, List.set_cons_zero, List.set_cons_succ]
      refine wpAnyH_done (by kernel_rfl) ?_ _
      obtain ⟨g', cap', hv'⟩ := owns_succ2 R6
      have HV : Hid (∃ gg cap, v' = .slice (some ⟨gg, 0, none⟩) ((i + 1) * 2) cap) := ⟨g', cap', by rw [hv', Nat.succ_mul]⟩
      have HO6 : Hid (OwnsM 70 3 w6 w.heap.size v' ((i + 1) * 2) (plL (plN f (i + 1)))) := by
        show w6.ownsRow _ _ _ _ _ _
        rw [← HPF.out, Nat.succ_mul]
        exact R6
      clear R6 hgr hbl hv' A1
      go_wp2_with fail
      go_roundg gk2
      case rel => exact ⟨i + 1, _, by omega, by go_num, rfl, HV.out, HO6, HE6, HW⟩
      case measure => omega

set_option maxHeartbeats 1000000 in
set_option maxRecDepth 20000 in
theorem specPlaces_any (f : Nat → Int) (w : World) :
    Calls Try.prog 75 #[.agg (mk 16 f)] w fun e w' => ∃ g cap, e = .returned (.tuple #[.slice (some ⟨g, 0, none⟩) (plR f).length cap, .bool (vdO f)]) ∧
      OwnsL 70 3 w' w.heap.size (.slice (some ⟨g, 0, none⟩) (plR f).length cap) (plR f) ∧ Below w.heap.size w w' := by
  have K1 := Blk.new w 16 f 29
  have HB := Lib.hid ((Below.refl w.heap.size w).alloc (Nat.le_refl _) (.cells (mk 16 f) 29))
  by_cases hV : Vd f
  · rw [plR_yes hV, vdO_yes hV]
    go_enter Try.func75, Try.ntmps75
    go_wp2_with ((with_reducible show wpList _ _ _ (Oper.mk _ (Op.load 29 _) _ _ _ _ :: _) _ _); refine loadB (K1) rfl rfl rfl ?_)
    refine (l2Board_yes _ _ hV).mono ?_
    rintro e w1 ⟨rfl, hb⟩
    have K1 := K1.below hb K1.lt
    have HB : Hid (Below w.heap.size w w1) := HB.out.trans (hb.mono HB.out.size)
    clear hb hV
    go_wp2_with ((with_reducible show wpList _ _ _ (Oper.mk _ (Op.load 29 _) _ _ _ _ :: _) _ _); refine loadB (K1) rfl rfl rfl ?_)
    refine (l8Places_any f _).mono ?_
    rintro e w2 ⟨g, cap, rfl, ho, hb⟩
    have HO := Lib.hid (OwnsL.wide ho HB.out.size)
    have HB : Hid (Below w.heap.size w w2) := HB.out.trans (hb.mono HB.out.size)
    clear hb ho
    go_wp2_with fail
    go_ret2
    exact ⟨g, cap, rfl, HO.out, HB.out⟩
  · rw [plR_no hV, vdO_no hV]
    go_enter Try.func75, Try.ntmps75
    go_wp2_with ((with_reducible show wpList _ _ _ (Oper.mk _ (Op.load 29 _) _ _ _ _ :: _) _ _); refine loadB (K1) rfl rfl rfl ?_)
    refine (l2Board_no _ _ hV).mono ?_
    rintro e w1 ⟨rfl, hb⟩
    have HB : Hid (Below w.heap.size w w1) := HB.out.trans (hb.mono HB.out.size)
    clear hb hV
    have HO := Lib.hid (OwnsL.made (t := 70) (m := 3) (b := w.heap.size) w1 HB.out.size)
    have HB : Hid (Below w.heap.size w (w1.alloc (.cells #[] 70))) := HB.out.alloc HB.out.size _
    go_wp2_with fail
    go_ret2
    exact ⟨_, _, rfl, HO.out, HB.out⟩
end Go.Proofs.Ytlboglcpbbnbcab
