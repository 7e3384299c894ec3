/-
  The contracts of DoSlides in the reference and in the program, for every board and every list of at most 1048576 numbers.
-/
import Derived.Test.YtknjmkapabjolaaStepMem
import Derived.Test.YtknjmkapabjolaaSlidesPlain
import Derived.Test.YtknjmkapabjolaaSpecSlide
import Derived.Test.YtknjmkapabjolaaImplSlideBoard
import Derived.Test.YtknjmkapabjolaaDistKit
namespace Go.Proofs.Ytknjmkapabjolaa
open Go.RowKit Plain
attribute [local go_sem] store_new
set_option linter.unusedVariables false
set_option linter.unusedSimpArgs false

set_option maxHeartbeats 400000 in
theorem l5Sides_any (g cap n : Nat) (h : Nat → Int) (w : World) (hc : CAt w g n h) (hn : n ≤ 1048576) :
    Calls Try.prog 67 #[.slice (some ⟨g, 0, none⟩) n cap] w fun e w' => e = .returned (.bool (decide (Sides h n))) ∧ Below w.heap.size w w' := by
  have HC := Lib.hid hc
  clear hc
  go_enter Try.func67, Try.ntmps67
  go_wp2_with fail
  go_loopg [3] n (fun gk s3 wr => ∃ k : Nat, k + gk = n ∧ s3 = .int .i64 k ∧ Hid (∀ j, j < k → 0 ≤ h j ∧ h j ≤ 3) ∧ wr = w)
  case atStart => exact ⟨0, by omega, rfl, fun j hj => by omega, rfl⟩
  case round =>
    obtain ⟨k, hkg, rfl, HP, rfl⟩ := hrel
    cases gk with
    | zero =>
      have hk : ¬ ((k : Int) < (n : Int)) := by omega
      obtain rfl : k = n := by omega
      have HS : Hid (decide (Sides h k) = true) := decide_eq_true HP.out
      clear hkg
      go_wp2_with fail
      go_ret
      rw [HS.out]
      exact ⟨rfl, Below.refl _ _⟩
    | succ gk2 =>
      have hk8 : (k : Int) < (n : Int) := by omega
      have hk0 : (0 : Int) ≤ (k : Int) := by omega
      have c1 := HC.out.2 k (by omega)
      by_cases hs : 0 ≤ h k ∧ h k ≤ 3
      · have HP : Hid (∀ j, j < k + 1 → 0 ≤ h j ∧ h j ≤ 3) := fun j hj => by
          rcases (by omega : j < k ∨ j = k) with r | rfl
          · exact HP.out j r
          · exact hs
        have HS := Lib.hid hs
        clear hs
        go_wp2_with fail
        refine (l2Side_yes _ _ HS.out.1 HS.out.2).mono ?_
        rintro e w' ⟨rfl, rfl⟩
        go_wp2_with fail
        go_roundg gk2
        case rel => exact ⟨k + 1, by omega, by go_num, HP, rfl⟩
        case measure => omega
      · have HS : Hid (decide (Sides h n) = false) := decide_eq_false (fun q => hs (q k (by omega)))
        have HN := Lib.hid (show h k < 0 ∨ 3 < h k by omega)
        clear hs
        go_wp2_with fail
        refine (l2Side_no _ _ HN.out).mono ?_
        rintro e w' ⟨rfl, rfl⟩
        go_wp2_with fail
        go_ret
        rw [HS.out]
        exact ⟨rfl, Below.refl _ _⟩
set_option maxHeartbeats 4000000 in
set_option maxRecDepth 20000 in
theorem l5Made_any (f : Nat → Int) (g cap n : Nat) (h : Nat → Int) (w : World) (hc : CAt w g n h) (hn : n ≤ 1048576) (hV : Vd f) (hS : Sides h n) :
    Calls Try.prog 68 #[.agg (mk 16 f), .slice (some ⟨g, 0, none⟩) n cap] w fun e w' => e = .returned (.tuple #[.agg (mk 16 (mdB f h n)), .int .i64 (mdS f h n)]) ∧ Below w.heap.size w w' := by
  have K1 := (Blk.new w 16 f 29).alloc (.cells (mk 16 fun _ => 0) 29)
  have K3 := Blk.new (w.alloc (.cells (mk 16 f) 29)) 16 (fun _ => 0) 29
  have HB := Lib.hid (((Below.refl w.heap.size w).alloc (Nat.le_refl _) (.cells (mk 16 f) 29)).alloc (by simp) (.cells (mk 16 fun _ => 0) 29))
  simp only [World.size_alloc] at K3
  have z16 := zero16
  have HC := Lib.hid hc
  have HV0 := Lib.hid (fun k => mdB_vd hV h k)
  have HS0 := Lib.hid hS
  have HBD := Lib.hid (fun k => mdS_bd hV h k)
  clear hc hV hS
  go_enter Try.func68, Try.ntmps68
  go_wp2_with fail
  go_loopg [6, 7] n (fun gk s6 s7 wr => ∃ k : Nat, k + gk = n ∧ s7 = .int .i64 k ∧ s6 = .int .i64 (mdS f h k) ∧ Blk wr w.heap.size 16 (mdB f h k) 29 ∧ Blk wr (w.heap.size + 1) 16 (fun _ => 0) 29 ∧ Hid (Below w.heap.size w wr))
  case atStart => exact ⟨0, by omega, rfl, rfl, K1, K3, HB⟩
  case round =>
    obtain ⟨k, hkg, rfl, rfl, K1, K3, HB⟩ := hrel
    cases gk with
    | zero =>
      have hk : ¬ ((k : Int) < (n : Int)) := by omega
      obtain rfl : k = n := by omega
      clear hkg
      go_wp2_with (first | ((with_reducible show wpList _ _ _ (Oper.mk _ (Op.load 29 _) _ _ _ _ :: _) _ _); refine loadB (K1) rfl rfl rfl ?_) | ((with_reducible show wpList _ _ _ (Oper.mk _ (Op.store 29 _ _) _ _ _ _ :: _) _ _); refine storeB (K3) rfl rfl rfl rfl ?_))
      try simp only [Exit.inBlock, Exit.then]
      exact retctB (K3.row 16 _) rfl rfl rfl ⟨rfl, below_setRow HB.out (by omega) _⟩
    | succ gk2 =>
      have hk8 : (k : Int) < (n : Int) := by omega
      have hk9 : k < n := by omega
      have hk0 : (0 : Int) ≤ (k : Int) := by omega
      have CM : CAt wr g n h := HC.out.low HB.out HC.out.1
      have HS := Lib.hid (HS0.out k hk9)
      have HV := Lib.hid (HV0.out k)
      have hbd := HBD.out k
      generalize hF : mdB f h k = F at *
      generalize hM : mdS f h k = M at *
      have HF : Hid (mdB f h k = F) := hF
      have HM : Hid (mdS f h k = M) := hM
      clear hF hM
      obtain ⟨hbd0, hbd1⟩ := hbd
      have hbd2 : M ≤ 4398046511104 := by omega
      clear hbd1
      go_wp2_with fail
      refine wp_region_held_drew (S := fun W => Blk W w.heap.size 16 F 29 ∧ CAt W g n h) (by kernel_rfl) (⟨K1.drew, CM.drew⟩) (fun hHeld => ?_)
      have K1 : Blk wr.drew w.heap.size 16 F 29 := K1.drew
      have CM : CAt wr.drew g n h := CM.drew
      have BX : Hid (Below wr.heap.size wr wr.drew) := (Below.refl _ wr).drew
      generalize wr.drew = x0 at *
      refine wpAnyH_take (i := 0) (oi := { dst := some 17, op := _, type := _, pos := _, after := _, guard := _ }) (v := .agg (mk 16 F)) rfl (by kernel_rfl) (by kernel_rfl) (by kernel_rfl) (fun _ _ _ h => h) (Or.inl ⟨by rfl, fun _ q => execB q.1 rfl rfl⟩) (by assumption) ?_
      try simp only [Act.put, List.setIfInBounds_toArray, List.set_cons_zero, List.set_cons_succ]
      refine wpAnyH_take (i := 1) (oi := { dst := some 18, op := _, type := _, pos := _, after := _, guard := _ }) (v := .slice (some ⟨g, 0, none⟩) n cap) rfl (by kernel_rfl) (by kernel_rfl) (by kernel_rfl) (fun _ _ _ h => h) (Or.inl ⟨by rfl, by intro w hSw; clear hSw; go_simp; (try with_reducible rfl)⟩) (by assumption) ?_
      try simp only [Act.put, List.setIfInBounds_toArray, List.set_cons_zero, List.set_cons_succ]
      refine wpAnyH_take (i := 2) (oi := { dst := some 19, op := _, type := _, pos := _, after := _, guard := _ }) (v := .int .i64 (k : Int)) rfl (by kernel_rfl) (by kernel_rfl) (by kernel_rfl) (fun _ _ _ h => h) (Or.inl ⟨by rfl, by intro w hSw; clear hSw; go_simp; (try with_reducible rfl)⟩) (by assumption) ?_
      try simp only [Act.put, List.setIfInBounds_toArray, List.set_cons_zero, List.set_cons_succ]
      refine wpAnyH_take (i := 3) (oi := { dst := some 20, op := _, type := _, pos := _, after := _, guard := _ }) (v := .pointer (some ⟨g, k, none⟩)) rfl (by kernel_rfl) (by kernel_rfl) (by kernel_rfl) (fun _ _ _ h => h) (Or.inl ⟨by rfl, by intro w hSw; clear hSw; go_simp; (try with_reducible rfl)⟩) (by assumption) ?_
      try simp only [Act.put, List.setIfInBounds_toArray, List.set_cons_zero, List.set_cons_succ]
      refine wpAnyH_take (i := 4) (oi := { dst := some 21, op := _, type := _, pos := _, after := _, guard := _ }) (v := .int .i64 (h k)) rfl (by kernel_rfl) (by kernel_rfl) (by kernel_rfl) (fun _ _ _ h => h) (Or.inl ⟨by rfl, by intro W hSw; have c1 := hSw.2.2 k (by omega); clear hSw; go_simp⟩) (by assumption) ?_
      try simp only [Act.put, List.setIfInBounds_toArray, List.set_cons_zero, List.set_cons_succ]
      refine wpAnyH_ready (rs := [5, 9]) (by kernel_rfl) (by simp) ?_
      refine AllReadyH.cons rfl (fun K hK => ?_) ?_
      · go_simp
        refine (l2Slide_any F (h k) _ HV.out HS.out.1 HS.out.2).mono ?_
        rintro e x1 ⟨rfl, hb⟩
        have CM := CM.below hb
        have K1 := K1.below hb K1.lt
        have BX : Hid (Below wr.heap.size wr x1) := BX.out.trans (hb.mono BX.out.size)
        clear hb hHeld
        go_wp2_with fail
        refine hK.out _ _ ⟨K1, CM⟩ (fun hHeld => ?_)
        clear hK K
        try simp only [Act.put, List.setIfInBounds_toArray, List.set_cons_zero, List.set_cons_succ]
        refine wpAnyH_take (i := 6) (oi := { dst := some 16, op := _, type := _, pos := _, after := _, guard := _ }) (v := .tuple #[.agg (mk 16 (slideB F (h k).toNat)), .int .i64 (slideS F (h k).toNat 4)]) rfl (by kernel_rfl) (by kernel_rfl) (by kernel_rfl) (fun _ _ _ h => h) (Or.inl ⟨by rfl, by intro w hSw; clear hSw; go_simp; (try with_reducible rfl)⟩) (by assumption) ?_
        try simp only [Act.put, List.setIfInBounds_toArray, List.set_cons_zero, List.set_cons_succ]
        refine wpAnyH_take (i := 7) (oi := { dst := some 23, op := _, type := _, pos := _, after := _, guard := _ }) (v := .agg (mk 16 (slideB F (h k).toNat))) rfl (by kernel_rfl) (by kernel_rfl) (by kernel_rfl) (fun _ _ _ h => h) (Or.inl ⟨by rfl, by intro w hSw; clear hSw; go_simp; (try with_reducible rfl)⟩) (by assumption) ?_
        try simp only [Act.put, List.setIfInBounds_toArray, List.set_cons_zero, List.set_cons_succ]
        refine wpAnyH_take (i := 8) (oi := { dst := some 24, op := _, type := _, pos := _, after := _, guard := _ }) (v := .int .i64 (slideS F (h k).toNat 4)) rfl (by kernel_rfl) (by kernel_rfl) (by kernel_rfl) (fun _ _ _ h => h) (Or.inl ⟨by rfl, by intro w hSw; clear hSw; go_simp; (try with_reducible rfl)⟩) (by assumption) ?_
        try simp only [Act.put, List.setIfInBounds_toArray, List.set_cons_zero, List.set_cons_succ]
        refine wpAnyH_ready (rs := [9]) (by kernel_rfl) (by simp) ?_
        refine AllReadyH.cons rfl (fun K hK => ?_) AllReadyH.nil
        rw [if_pos (by rfl)]
        refine wp_allocX rfl ?_
        have K8 := Blk.new x1 16 (fun _ => 0) 29
        have HB8 : Hid (wr.heap.size ≤ x1.heap.size) := BX.out.size
        have HB9 : Hid (w.heap.size < x1.heap.size ∧ g < x1.heap.size) := ⟨K1.lt, CM.1⟩
        have K1 := K1.alloc (.cells (mk 16 fun _ => 0) 29)
        have CM := CM.alloc (.cells (mk 16 fun _ => 0) 29)
        have BX : Hid (Below wr.heap.size wr (x1.alloc (.cells (mk 16 fun _ => 0) 29))) := BX.out.alloc BX.out.size _
        clear hHeld
        generalize x1.alloc (.cells (mk 16 fun _ => 0) 29) = x2 at *
        generalize x1.heap.size = b8 at *
        refine hK.out _ _ ⟨K1, CM⟩ (fun hHeld => ?_)
        clear hK K
        try simp only [Act.put, List.setIfInBounds_toArray, List.set_cons_zero, List.set_cons_succ]
        refine wpAnyH_ready (rs := [10]) (by kernel_rfl) (by simp) ?_
        refine AllReadyH.cons rfl (fun K hK => ?_) AllReadyH.nil
        have st1 := run_store_blk (P := Try.prog) (g := (slideB F (h k).toNat)) K8
        have ms1 : (mk 16 (slideB F (h k).toNat)).size = 16 := mk_size 16 _
        go_simp
        clear st1 ms1
        have hgr : x2.grownBy (x2.setRow b8 (mk 16 (slideB F (h k).toNat))) (some b8) := grown_row K8 _
        have K1 := K1.rowOther b8 (mk 16 (slideB F (h k).toNat)) (by have := HB9.out.1; omega)
        have CM := CM.grown hgr (fun e => by cases e; exact absurd HB9.out.2 (Nat.lt_irrefl _))
        have BX : Hid (Below wr.heap.size wr (x2.setRow b8 (mk 16 (slideB F (h k).toNat)))) := below_setRow BX.out HB8.out _
        have K8 := K8.row 16 (slideB F (h k).toNat)
        clear hgr hHeld
        generalize x2.setRow b8 (mk 16 (slideB F (h k).toNat)) = x3 at *
        refine hK.out _ _ ⟨K1, CM⟩ (fun hHeld => ?_)
        clear hK K
        try simp only [Act.put, List.setIfInBounds_toArray, List.set_cons_zero, List.set_cons_succ]
        refine wpAnyH_take (i := 11) (oi := { dst := some 9, op := _, type := _, pos := _, after := _, guard := _ }) (v := .int .i64 (slideS F (h k).toNat 4)) rfl (by kernel_rfl) (by kernel_rfl) (by kernel_rfl) (fun _ _ _ h => h) (Or.inl ⟨by rfl, by intro w hSw; clear hSw; go_simp; (try with_reducible rfl)⟩) (by assumption) ?_
        try simp only [Act.put, List.setIfInBounds_toArray, List.set_cons_zero, List.set_cons_succ]
        refine wpAnyH_done (by kernel_rfl) ?_ _
        clear hHeld
        have HB : Hid (Below w.heap.size w x3) := HB.out.trans (BX.out.mono HB.out.size)
        have K3 := K3.below BX.out K3.lt
        have hne : w.heap.size + 1 ≠ w.heap.size := by omega
        have HMB : Hid (slideB F (h k).toNat = mdB f h (k + 1)) := by show _ = _; rw [← HF.out]; rfl
        have HMS : Hid (M + slideS F (h k).toNat 4 = mdS f h (k + 1)) := by show _ = _; rw [← HF.out, ← HM.out]; rfl
        have hsc := slideS_bd HV.out (h k).toNat 4 (Nat.le_refl _)
        obtain ⟨hsc0, hsc1⟩ := hsc
        clear BX HB8 HB9
        generalize slideS F (h k).toNat 4 = C at *
        go_wp2_with (first | ((with_reducible show wpList _ _ _ (Oper.mk _ (Op.load 29 _) _ _ _ _ :: _) _ _); refine loadB (K8) rfl rfl rfl ?_) | ((with_reducible show wpList _ _ _ (Oper.mk _ (Op.store 29 _ _) _ _ _ _ :: _) _ _); refine storeB (K1) rfl rfl rfl rfl ?_))
        go_roundg gk2
        case rel => exact ⟨k + 1, by omega, by go_num, by rw [← HMS.out], by rw [← HMB.out]; exact K1.row 16 _, K3.rowOther _ _ hne, below_setRow HB.out (Nat.le_refl _) _⟩
        case measure => omega
      refine AllReadyH.cons rfl (fun K hK => ?_) AllReadyH.nil
      rw [if_pos (by rfl)]
      refine wp_allocX rfl ?_
      have K8 := Blk.new x0 16 (fun _ => 0) 29
      have HB8 : Hid (wr.heap.size ≤ x0.heap.size) := BX.out.size
      have HB9 : Hid (w.heap.size < x0.heap.size ∧ g < x0.heap.size) := ⟨K1.lt, CM.1⟩
      have K1 := K1.alloc (.cells (mk 16 fun _ => 0) 29)
      have CM := CM.alloc (.cells (mk 16 fun _ => 0) 29)
      have BX : Hid (Below wr.heap.size wr (x0.alloc (.cells (mk 16 fun _ => 0) 29))) := BX.out.alloc BX.out.size _
      clear hHeld
      generalize x0.alloc (.cells (mk 16 fun _ => 0) 29) = x1 at *
      generalize x0.heap.size = b8 at *
      refine hK.out _ _ ⟨K1, CM⟩ (fun hHeld => ?_)
      clear hK K
      try simp only [Act.put, List.setIfInBounds_toArray, List.set_cons_zero, List.set_cons_succ]
      refine wpAnyH_ready (rs := [5]) (by kernel_rfl) (by simp) ?_
      refine AllReadyH.cons rfl (fun K hK => ?_) AllReadyH.nil
      go_simp
      refine (l2Slide_any F (h k) _ HV.out HS.out.1 HS.out.2).mono ?_
      rintro e x2 ⟨rfl, hb⟩
      have CM := CM.below hb
      have K1 := K1.below hb K1.lt
      have BX : Hid (Below wr.heap.size wr x2) := BX.out.trans (hb.mono BX.out.size)
      have K8 := K8.below hb K8.lt
      clear hb hHeld
      go_wp2_with fail
      refine hK.out _ _ ⟨K1, CM⟩ (fun hHeld => ?_)
      clear hK K
      try simp only [Act.put, List.setIfInBounds_toArray, List.set_cons_zero, List.set_cons_succ]
      refine wpAnyH_take (i := 6) (oi := { dst := some 16, op := _, type := _, pos := _, after := _, guard := _ }) (v := .tuple #[.agg (mk 16 (slideB F (h k).toNat)), .int .i64 (slideS F (h k).toNat 4)]) rfl (by kernel_rfl) (by kernel_rfl) (by kernel_rfl) (fun _ _ _ h => h) (Or.inl ⟨by rfl, by intro w hSw; clear hSw; go_simp; (try with_reducible rfl)⟩) (by assumption) ?_
      try simp only [Act.put, List.setIfInBounds_toArray, List.set_cons_zero, List.set_cons_succ]
      refine wpAnyH_take (i := 7) (oi := { dst := some 23, op := _, type := _, pos := _, after := _, guard := _ }) (v := .agg (mk 16 (slideB F (h k).toNat))) rfl (by kernel_rfl) (by kernel_rfl) (by kernel_rfl) (fun _ _ _ h => h) (Or.inl ⟨by rfl, by intro w hSw; clear hSw; go_simp; (try with_reducible rfl)⟩) (by assumption) ?_
      try simp only [Act.put, List.setIfInBounds_toArray, List.set_cons_zero, List.set_cons_succ]
      refine wpAnyH_take (i := 8) (oi := { dst := some 24, op := _, type := _, pos := _, after := _, guard := _ }) (v := .int .i64 (slideS F (h k).toNat 4)) rfl (by kernel_rfl) (by kernel_rfl) (by kernel_rfl) (fun _ _ _ h => h) (Or.inl ⟨by rfl, by intro w hSw; clear hSw; go_simp; (try with_reducible rfl)⟩) (by assumption) ?_
      try simp only [Act.put, List.setIfInBounds_toArray, List.set_cons_zero, List.set_cons_succ]
      refine wpAnyH_ready (rs := [10]) (by kernel_rfl) (by simp) ?_
      refine AllReadyH.cons rfl (fun K hK => ?_) AllReadyH.nil
      have st1 := run_store_blk (P := Try.prog) (g := (slideB F (h k).toNat)) K8
      have ms1 : (mk 16 (slideB F (h k).toNat)).size = 16 := mk_size 16 _
      go_simp
      clear st1 ms1
      have hgr : x2.grownBy (x2.setRow b8 (mk 16 (slideB F (h k).toNat))) (some b8) := grown_row K8 _
      have K1 := K1.rowOther b8 (mk 16 (slideB F (h k).toNat)) (by have := HB9.out.1; omega)
      have CM := CM.grown hgr (fun e => by cases e; exact absurd HB9.out.2 (Nat.lt_irrefl _))
      have BX : Hid (Below wr.heap.size wr (x2.setRow b8 (mk 16 (slideB F (h k).toNat)))) := below_setRow BX.out HB8.out _
      have K8 := K8.row 16 (slideB F (h k).toNat)
      clear hgr hHeld
      generalize x2.setRow b8 (mk 16 (slideB F (h k).toNat)) = x3 at *
      refine hK.out _ _ ⟨K1, CM⟩ (fun hHeld => ?_)
      clear hK K
      try simp only [Act.put, List.setIfInBounds_toArray, List.set_cons_zero, List.set_cons_succ]
      refine wpAnyH_take (i := 11) (oi := { dst := some 9, op := _, type := _, pos := _, after := _, guard := _ }) (v := .int .i64 (slideS F (h k).toNat 4)) rfl (by kernel_rfl) (by kernel_rfl) (by kernel_rfl) (fun _ _ _ h => h) (Or.inl ⟨by rfl, by intro w hSw; clear hSw; go_simp; (try with_reducible rfl)⟩) (by assumption) ?_
      try simp only [Act.put, List.setIfInBounds_toArray, List.set_cons_zero, List.set_cons_succ]
      refine wpAnyH_done (by kernel_rfl) ?_ _
      clear hHeld
      have HB : Hid (Below w.heap.size w x3) := HB.out.trans (BX.out.mono HB.out.size)
      have K3 := K3.below BX.out K3.lt
      have hne : w.heap.size + 1 ≠ w.heap.size := by omega
      have HMB : Hid (slideB F (h k).toNat = mdB f h (k + 1)) := by show _ = _; rw [← HF.out]; rfl
      have HMS : Hid (M + slideS F (h k).toNat 4 = mdS f h (k + 1)) := by show _ = _; rw [← HF.out, ← HM.out]; rfl
      have hsc := slideS_bd HV.out (h k).toNat 4 (Nat.le_refl _)
      obtain ⟨hsc0, hsc1⟩ := hsc
      clear BX HB8 HB9
      generalize slideS F (h k).toNat 4 = C at *
      go_wp2_with (first | ((with_reducible show wpList _ _ _ (Oper.mk _ (Op.load 29 _) _ _ _ _ :: _) _ _); refine loadB (K8) rfl rfl rfl ?_) | ((with_reducible show wpList _ _ _ (Oper.mk _ (Op.store 29 _ _) _ _ _ _ :: _) _ _); refine storeB (K1) rfl rfl rfl rfl ?_))
      go_roundg gk2
      case rel => exact ⟨k + 1, by omega, by go_num, by rw [← HMS.out], by rw [← HMB.out]; exact K1.row 16 _, K3.rowOther _ _ hne, below_setRow HB.out (Nat.le_refl _) _⟩
      case measure => omega

set_option maxHeartbeats 1000000 in
theorem specDoS_any (f : Nat → Int) (v : Value) (n : Nat) (h : Nat → Int) (w : World) (hv : IRow w v n h) (hn : n ≤ 1048576) :
    Calls Try.prog 23 #[.agg (mk 16 f), v] w fun e w' => e = .returned (.tuple #[.agg (mk 16 (dsB f h n)), .int .i64 (dsS f h n), .bool (dsO f h n)]) ∧ Below w.heap.size w w' := by
  obtain ⟨g, cap, rfl, hle, hc⟩ := hv
  have hc : CAt w g n h := hc
  have K1 := (Blk.new w 16 f 29).alloc (.cells (mk 16 fun _ => 0) 29)
  have K3 := Blk.new (w.alloc (.cells (mk 16 f) 29)) 16 (fun _ => 0) 29
  have HB := Lib.hid (((Below.refl w.heap.size w).alloc (Nat.le_refl _) (.cells (mk 16 f) 29)).alloc (by simp) (.cells (mk 16 fun _ => 0) 29))
  simp only [World.size_alloc] at K3
  have z16 := zero16
  have CM := Lib.hid ((hc.alloc (.cells (mk 16 f) 29)).alloc (.cells (mk 16 fun _ => 0) 29))
  clear hc
  by_cases hV : Vd f
  · have HV := Lib.hid hV
    clear hV
    by_cases hs : Sides h n
    · obtain ⟨y1, y2, y3⟩ := ds_yes (f := f) (h := h) (n := n) ⟨HV.out, hs⟩
      rw [y1, y2, y3]
      clear y1 y2 y3
      have HS : Hid (decide (Sides h n) = true) := decide_eq_true hs
      have HSS := Lib.hid hs
      clear hs
      go_enter Try.func23, Try.ntmps23
      go_wp2_with ((with_reducible show wpList _ _ _ (Oper.mk _ (Op.load 29 _) _ _ _ _ :: _) _ _); refine loadB (K1) rfl rfl rfl ?_)
      refine (l2Board_yes _ _ HV.out).mono ?_
      rintro e w1 ⟨rfl, hb⟩
      have K1 := K1.below hb K1.lt
      have K3 := K3.below hb K3.lt
      have CM := Lib.hid (CM.out.below hb)
      have HB : Hid (Below w.heap.size w w1) := HB.out.trans (hb.mono HB.out.size)
      clear hb
      go_wp2_with fail
      refine (l5Sides_any g cap n h _ CM.out hn).mono ?_
      rw [HS.out]
      rintro e w2 ⟨rfl, hb⟩
      have K1 := K1.below hb K1.lt
      have K3 := K3.below hb K3.lt
      have CM := Lib.hid (CM.out.below hb)
      have HB : Hid (Below w.heap.size w w2) := HB.out.trans (hb.mono HB.out.size)
      clear hb
      go_wp2_with ((with_reducible show wpList _ _ _ (Oper.mk _ (Op.load 29 _) _ _ _ _ :: _) _ _); refine loadB (K1) rfl rfl rfl ?_)
      refine (l5Made_any f g cap n h _ CM.out hn HV.out HSS.out).mono ?_
      rintro e w3 ⟨rfl, hb⟩
      have K3 := (K3.below hb K3.lt).alloc (.cells (mk 16 (mdB f h n)) 29)
      have K7 := Blk.new w3 16 (mdB f h n) 29
      have HB := HB.out.trans (hb.mono HB.out.size)
      have HB : Hid (Below w.heap.size w (w3.alloc (.cells (mk 16 (mdB f h n)) 29))) := HB.alloc HB.size _
      clear hb K1
      go_wp2_with (first | ((with_reducible show wpList _ _ _ (Oper.mk _ (Op.load 29 _) _ _ _ _ :: _) _ _); refine loadB (K7) rfl rfl rfl ?_) | ((with_reducible show wpList _ _ _ (Oper.mk _ (Op.store 29 _ _) _ _ _ _ :: _) _ _); refine storeB (K3) rfl rfl rfl rfl ?_))
      try simp only [Exit.inBlock, Exit.then]
      exact retcttB (K3.row 16 _) rfl rfl rfl ⟨rfl, below_setRow HB.out (by omega) _⟩
    · obtain ⟨y1, y2, y3⟩ := ds_no (f := f) (h := h) (n := n) (fun q => hs q.2)
      rw [y1, y2, y3]
      clear y1 y2 y3
      have HS : Hid (decide (Sides h n) = false) := decide_eq_false hs
      clear hs
      go_enter Try.func23, Try.ntmps23
      go_wp2_with ((with_reducible show wpList _ _ _ (Oper.mk _ (Op.load 29 _) _ _ _ _ :: _) _ _); refine loadB (K1) rfl rfl rfl ?_)
      refine (l2Board_yes _ _ HV.out).mono ?_
      rintro e w1 ⟨rfl, hb⟩
      have K3 := K3.below hb K3.lt
      have CM := Lib.hid (CM.out.below hb)
      have HB : Hid (Below w.heap.size w w1) := HB.out.trans (hb.mono HB.out.size)
      clear hb K1
      go_wp2_with fail
      refine (l5Sides_any g cap n h _ CM.out hn).mono ?_
      rw [HS.out]
      rintro e w2 ⟨rfl, hb⟩
      have K3 := K3.below hb K3.lt
      have HB : Hid (Below w.heap.size w w2) := HB.out.trans (hb.mono HB.out.size)
      clear hb
      go_wp2_with ((with_reducible show wpList _ _ _ (Oper.mk _ (Op.store 29 _ _) _ _ _ _ :: _) _ _); refine storeB (K3) rfl rfl rfl rfl ?_)
      try simp only [Exit.inBlock, Exit.then]
      exact retcttB (K3.row 16 _) rfl rfl rfl ⟨rfl, below_setRow HB.out (by omega) _⟩
  · obtain ⟨y1, y2, y3⟩ := ds_no (f := f) (h := h) (n := n) (fun q => hV q.1)
    rw [y1, y2, y3]
    clear y1 y2 y3
    have HV := Lib.hid hV
    clear hV
    go_enter Try.func23, Try.ntmps23
    go_wp2_with ((with_reducible show wpList _ _ _ (Oper.mk _ (Op.load 29 _) _ _ _ _ :: _) _ _); refine loadB (K1) rfl rfl rfl ?_)
    refine (l2Board_no _ _ HV.out).mono ?_
    rintro e w1 ⟨rfl, hb⟩
    have K3 := K3.below hb K3.lt
    have HB : Hid (Below w.heap.size w w1) := HB.out.trans (hb.mono HB.out.size)
    clear hb K1
    go_wp2_with ((with_reducible show wpList _ _ _ (Oper.mk _ (Op.store 29 _ _) _ _ _ _ :: _) _ _); refine storeB (K3) rfl rfl rfl rfl ?_)
    try simp only [Exit.inBlock, Exit.then]
    exact retcttB (K3.row 16 _) rfl rfl rfl ⟨rfl, below_setRow HB.out (by omega) _⟩

set_option maxHeartbeats 4000000 in
set_option maxRecDepth 20000 in
theorem implDoS_any (f : Nat → Int) (v : Value) (n : Nat) (h : Nat → Int) (w : World) (hv : IRow w v n h) (hn : n ≤ 1048576) :
    Calls Try.prog 25 #[.agg (mk 16 f), v] w fun e w' => e = .returned (.tuple #[.agg (mk 16 (dsB f h n)), .int .i64 (dsS f h n), .bool (dsO f h n)]) ∧ Below w.heap.size w w' := by
  obtain ⟨g, cap, rfl, hle, hc⟩ := hv
  have hc : CAt w g n h := hc
  have K1 := (Blk.new w 16 f 29).alloc (.cells (mk 16 fun _ => 0) 29)
  have K3 := Blk.new (w.alloc (.cells (mk 16 f) 29)) 16 (fun _ => 0) 29
  have HB := Lib.hid (((Below.refl w.heap.size w).alloc (Nat.le_refl _) (.cells (mk 16 f) 29)).alloc (by simp) (.cells (mk 16 fun _ => 0) 29))
  simp only [World.size_alloc] at K3
  have z16 := zero16
  have HC := Lib.hid hc
  clear hc
  by_cases hV : Vd f
  · have HV0 := Lib.hid (fun k => mdB_vd hV h k)
    have HBD := Lib.hid (fun k => mdS_bd hV h k)
    have HDY := Lib.hid (fun (hs : Sides h n) => ds_yes (f := f) (h := h) (n := n) ⟨hV, hs⟩)
    have HDN := Lib.hid (fun (hs : ¬ Sides h n) => ds_no (f := f) (h := h) (n := n) (fun q => hs q.2))
    have HV := Lib.hid hV
    clear hV
    go_enter Try.func25, Try.ntmps25
    go_wp2_with ((with_reducible show wpList _ _ _ (Oper.mk _ (Op.load 29 _) _ _ _ _ :: _) _ _); refine loadB (K1) rfl rfl rfl ?_)
    refine (implBoard_yes _ _ HV.out).mono ?_
    rintro e w1 ⟨rfl, hb⟩
    have K1 := K1.below hb K1.lt
    have K3 := K3.below hb K3.lt
    have HB : Hid (Below w.heap.size w w1) := HB.out.trans (hb.mono HB.out.size)
    clear hb
    go_wp2_with fail
    go_loopg [7, 19] n (fun gk s7 s19 wr => ∃ k : Nat, k + gk = n ∧ s19 = .int .i64 k ∧ s7 = .int .i64 (mdS f h k) ∧ Hid (∀ j, j < k → 0 ≤ h j ∧ h j ≤ 3) ∧ Blk wr w.heap.size 16 (mdB f h k) 29 ∧ Blk wr (w.heap.size + 1) 16 (fun _ => 0) 29 ∧ Hid (Below w.heap.size w wr))
    case atStart => exact ⟨0, by omega, rfl, rfl, fun j hj => by omega, K1, K3, HB⟩
    case round =>
      obtain ⟨k, hkg, rfl, rfl, HP, K1, K3, HB⟩ := hrel
      cases gk with
      | zero =>
        have hk : ¬ ((k : Int) < (n : Int)) := by omega
        obtain rfl : k = n := by omega
        have HY := Lib.hid (HDY.out HP.out)
        clear hkg
        go_wp2_with (first | ((with_reducible show wpList _ _ _ (Oper.mk _ (Op.load 29 _) _ _ _ _ :: _) _ _); refine loadB (K1) rfl rfl rfl ?_) | ((with_reducible show wpList _ _ _ (Oper.mk _ (Op.store 29 _ _) _ _ _ _ :: _) _ _); refine storeB (K3) rfl rfl rfl rfl ?_))
        try simp only [Exit.inBlock, Exit.then]
        refine retcttB (K3.row 16 _) rfl rfl rfl ⟨?_, below_setRow HB.out (by omega) _⟩
        rw [HY.out.1, HY.out.2.1, HY.out.2.2]; rfl
      | succ gk2 =>
        have hk8 : (k : Int) < (n : Int) := by omega
        have hk9 : k < n := by omega
        have hk0 : (0 : Int) ≤ (k : Int) := by omega
        have CM : CAt wr g n h := HC.out.low HB.out HC.out.1
        have c1 := CM.2 k hk9
        by_cases hs : 0 ≤ h k ∧ h k ≤ 3
        · have HSL := implSlide_any (mdB f h k) (h k)
          obtain ⟨y1, y2, y3, _⟩ := slide_yes (f := mdB f h k) (d := h k) ⟨HV0.out k, hs⟩
          rw [y1, y2, y3] at HSL
          clear y1 y2 y3
          have HP : Hid (∀ j, j < k + 1 → 0 ≤ h j ∧ h j ≤ 3) := fun j hj => by
            rcases (by omega : j < k ∨ j = k) with r | rfl
            · exact HP.out j r
            · exact hs
          have hsc := slideS_bd (HV0.out k) (h k).toNat 4 (Nat.le_refl _)
          have hbd := HBD.out k
          have HMB : Hid (mdB f h (k + 1) = slideB (mdB f h k) (h k).toNat) := rfl
          have HMS : Hid (mdS f h (k + 1) = mdS f h k + slideS (mdB f h k) (h k).toNat 4) := rfl
          have HSL := Lib.hid HSL
          clear hs
          go_wp2_with ((with_reducible show wpList _ _ _ (Oper.mk _ (Op.load 29 _) _ _ _ _ :: _) _ _); refine loadB (K1) rfl rfl rfl ?_)
          refine (HSL.out _).mono ?_
          clear HSL
          rintro e w3 ⟨rfl, hb⟩
          generalize slideB (mdB f h k) (h k).toNat = D at *
          generalize slideS (mdB f h k) (h k).toNat 4 = C at *
          generalize mdS f h k = M at *
          have K1 := (K1.below hb K1.lt).alloc (.cells (mk 16 D) 29)
          have K3 := (K3.below hb K3.lt).alloc (.cells (mk 16 D) 29)
          have K10 := Blk.new w3 16 D 29
          have HB := HB.out.trans (hb.mono HB.out.size)
          have HB : Hid (Below w.heap.size w (w3.alloc (.cells (mk 16 D) 29))) := HB.alloc HB.size _
          have hne : w.heap.size + 1 ≠ w.heap.size := by omega
          obtain ⟨hsc0, hsc1⟩ := hsc
          obtain ⟨hbd0, hbd1⟩ := hbd
          have hbd2 : M ≤ 4398046511104 := by omega
          clear hb hbd1 c1 CM
          go_wp2_with (first | ((with_reducible show wpList _ _ _ (Oper.mk _ (Op.load 29 _) _ _ _ _ :: _) _ _); refine loadB (K10) rfl rfl rfl ?_) | ((with_reducible show wpList _ _ _ (Oper.mk _ (Op.store 29 _ _) _ _ _ _ :: _) _ _); refine storeB (K1) rfl rfl rfl rfl ?_))
          go_roundg gk2
          case rel => exact ⟨k + 1, by omega, by go_num, by rw [HMS.out], HP, by rw [HMB.out]; exact K1.row 16 _, K3.rowOther _ _ hne, below_setRow HB.out (Nat.le_refl _) _⟩
          case measure => omega
        · have HSL := implSlide_any (mdB f h k) (h k)
          obtain ⟨y1, y2, y3, _⟩ := slide_no (f := mdB f h k) (d := h k) (fun q => hs q.2)
          rw [y1, y2, y3] at HSL
          clear y1 y2 y3
          have HY := Lib.hid (HDN.out (fun q => hs (q k hk9)))
          have HSL := Lib.hid HSL
          clear hs
          go_wp2_with ((with_reducible show wpList _ _ _ (Oper.mk _ (Op.load 29 _) _ _ _ _ :: _) _ _); refine loadB (K1) rfl rfl rfl ?_)
          refine (HSL.out _).mono ?_
          clear HSL
          rintro e w3 ⟨rfl, hb⟩
          have K3 := (K3.below hb K3.lt).alloc (.cells (mk 16 fun _ => 0) 29)
          have HB := HB.out.trans (hb.mono HB.out.size)
          have HB : Hid (Below w.heap.size w (w3.alloc (.cells (mk 16 fun _ => 0) 29))) := HB.alloc HB.size _
          clear hb c1 CM K1
          go_wp2_with ((with_reducible show wpList _ _ _ (Oper.mk _ (Op.store 29 _ _) _ _ _ _ :: _) _ _); refine storeB (K3) rfl rfl rfl rfl ?_)
          try simp only [Exit.inBlock, Exit.then]
          refine retcttB (K3.row 16 _) rfl rfl rfl ⟨?_, below_setRow HB.out (by omega) _⟩
          rw [HY.out.1, HY.out.2.1, HY.out.2.2]; rfl
  · obtain ⟨y1, y2, y3⟩ := ds_no (f := f) (h := h) (n := n) (fun q => hV q.1)
    rw [y1, y2, y3]
    clear y1 y2 y3
    have HV := Lib.hid hV
    clear hV
    go_enter Try.func25, Try.ntmps25
    go_wp2_with ((with_reducible show wpList _ _ _ (Oper.mk _ (Op.load 29 _) _ _ _ _ :: _) _ _); refine loadB (K1) rfl rfl rfl ?_)
    refine (implBoard_no _ _ HV.out).mono ?_
    rintro e w1 ⟨rfl, hb⟩
    have K3 := K3.below hb K3.lt
    have HB : Hid (Below w.heap.size w w1) := HB.out.trans (hb.mono HB.out.size)
    clear hb K1
    go_wp2_with ((with_reducible show wpList _ _ _ (Oper.mk _ (Op.store 29 _ _) _ _ _ _ :: _) _ _); refine storeB (K3) rfl rfl rfl rfl ?_)
    try simp only [Exit.inBlock, Exit.then]
    exact retcttB (K3.row 16 _) rfl rfl rfl ⟨rfl, below_setRow HB.out (by omega) _⟩
end Go.Proofs.Ytknjmkapabjolaa
