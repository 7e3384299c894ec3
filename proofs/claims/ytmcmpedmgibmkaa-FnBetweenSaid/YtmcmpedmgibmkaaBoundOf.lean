/-
  The contracts of MovesBetween and ScoreBetween in the reference and in the program, for every two boards.
-/
import Derived.Test.YtmcmpedmgibmkaaPotOf
import Derived.Test.YtmcmpedmgibmkaaSumOf
import Derived.Test.YtmcmpedmgibmkaaImplLeast
namespace Go.Proofs.Ytmcmpedmgibmkaa
open Go.RowKit Plain
attribute [local go_sem] store_new
set_option linter.unusedVariables false
set_option linter.unusedSimpArgs false

theorem implSumV_any (f : Nat → Int) (w : World) : Calls Try.prog 41 #[.agg (mk 16 f)] w fun e w' => e = .returned (.tuple #[.int .i64 (sumR f), .bool (vdO f)]) ∧ Below w.heap.size w w' := implSum_any f w
set_option maxHeartbeats 4000000 in
set_option maxRecDepth 20000 in
theorem specMovesB_any (f g : Nat → Int) (w : World) :
    Calls Try.prog 24 #[.agg (mk 16 f), .agg (mk 16 g)] w fun e w' => e = .returned (.tuple #[.int .i64 (mvL f g), .int .i64 (mvM f g), .bool (mvO f g)]) ∧ Below w.heap.size w w' := by
  have z16 := zero16
  have K1 := (Blk.new w 16 f 28).alloc (.cells (mk 16 g) 28)
  have K2 := Blk.new (w.alloc (.cells (mk 16 f) 28)) 16 g 28
  simp only [World.size_alloc] at K2
  have HX := Lib.hid (((Below.refl w.heap.size w).alloc (Nat.le_refl _) (.cells (mk 16 f) 28)).alloc (by simp) (.cells (mk 16 g) 28))
  by_cases hA : Vd f
  · have HA := Lib.hid (fun w => l2Board_yes f w hA)
    have HSF := Lib.hid (fun w => l2Sum_any f w hA)
    by_cases hG : Vd g
    · have HG := Lib.hid (fun w => l2Board_yes g w hG)
      have HSG := Lib.hid (fun w => l2Sum_any g w hG)
      have b1 := sum_bd hA
      have b2 := sum_bd hG
      by_cases hL : sumF f 16 ≤ sumF g 16
      · have hM : MbOk f g := ⟨hA, hG, hL⟩
        rw [(mv_yes hM).1, (mv_yes hM).2.1, (mv_yes hM).2.2]
        have hlt : ¬ sumF g 16 < sumF f 16 := by omega
        clear hM hA hG
        generalize sumF f 16 = F at *
        generalize sumF g 16 = G at *
        have e1 : IntKind.i64.wrap (G - F) = G - F := IntWalk.i64_in _ (by omega)
        have HQ : Hid ((IntKind.i64.wrap (G - F + 2) = G - F + 2) ∧ (G - F + 2).tdiv 4 = (G - F + 2) / 4 ∧ IntKind.i64.wrap ((G - F + 2) / 4) = (G - F + 2) / 4 ∧ (G - F).tdiv 2 = (G - F) / 2 ∧ IntKind.i64.wrap ((G - F) / 2) = (G - F) / 2) :=
          ⟨IntWalk.i64_in _ (by omega), Int.tdiv_eq_ediv_of_nonneg (by omega), IntWalk.i64_in _ (by omega), Int.tdiv_eq_ediv_of_nonneg (by omega), IntWalk.i64_in _ (by omega)⟩
        clear hL b1 b2
        go_enter Try.func24, Try.ntmps24
        go_wp2_with fail
        generalize (w.alloc (.cells (mk 16 f) 28)).alloc (.cells (mk 16 g) 28) = w0 at *
        refine wp_region_held_drew (S := fun W => Blk W w.heap.size 16 f 28 ∧ Blk W (w.heap.size + 1) 16 g 28) (by kernel_rfl) (⟨K1.drew, K2.drew⟩) (fun hHeld => ?_)
        have K1 : Blk w0.drew w.heap.size 16 f 28 := K1.drew
        have K2 : Blk w0.drew (w.heap.size + 1) 16 g 28 := K2.drew
        have HX : Hid (Below w.heap.size w w0.drew) := HX.out.drew
        generalize w0.drew = x0 at *
        refine wpAnyH_take (i := 0) (oi := { dst := some 8, op := _, type := _, pos := _, after := _, guard := _ }) (v := .agg (mk 16 f)) rfl (by kernel_rfl) (by kernel_rfl) (by kernel_rfl) (fun _ _ _ h => h) (Or.inl ⟨by rfl, fun _ q => execB q.1 rfl rfl⟩) (by assumption) ?_
        try simp only [Act.put, List.setIfInBounds_toArray, List.set_cons_zero, List.set_cons_succ]
        refine wpAnyH_ready (rs := [1]) (by kernel_rfl) (by simp) ?_
        refine AllReadyH.cons rfl (fun K hK => ?_) AllReadyH.nil
        go_simp
        refine (HA.out _).mono ?_
        rintro e x1 ⟨rfl, hb⟩
        have K1 := K1.below hb K1.lt
        have K2 := K2.below hb K2.lt
        have HX : Hid (Below w.heap.size w x1) := HX.out.trans (hb.mono HX.out.size)
        clear hb hHeld
        go_wp2_with fail
        refine hK.out _ _ ⟨K1, K2⟩ (fun hHeld => ?_)
        clear hK K
        try simp only [Act.put, List.setIfInBounds_toArray, List.set_cons_zero, List.set_cons_succ]
        refine wpAnyH_take (i := 2) (oi := { dst := some 10, op := _, type := _, pos := _, after := _, guard := _ }) (v := .bool false) rfl (by kernel_rfl) (by kernel_rfl) (by kernel_rfl) (fun _ _ _ h => h) (Or.inl ⟨by rfl, by intro w hSw; clear hSw; go_simp; (try with_reducible rfl)⟩) (by assumption) ?_
        try simp only [Act.put, List.setIfInBounds_toArray, List.set_cons_zero, List.set_cons_succ]
        refine wpAnyH_take (i := 3) (oi := { dst := some 11, op := _, type := _, pos := _, after := _, guard := _ }) (v := .bool false) rfl (by kernel_rfl) (by kernel_rfl) (by kernel_rfl) (fun _ _ _ h => h) (Or.inl ⟨by rfl, by intro w hSw; clear hSw; go_simp; (try with_reducible rfl)⟩) (by assumption) ?_
        try simp only [Act.put, List.setIfInBounds_toArray, List.set_cons_zero, List.set_cons_succ]
        refine wpAnyH_take (i := 4) (oi := { dst := some 12, op := _, type := _, pos := _, after := _, guard := _ }) (v := .agg (mk 16 g)) rfl (by kernel_rfl) (by kernel_rfl) (by kernel_rfl) (fun _ _ _ h => h) (Or.inl ⟨by rfl, fun _ q => execB q.2 rfl rfl⟩) (by assumption) ?_
        try simp only [Act.put, List.setIfInBounds_toArray, List.set_cons_zero, List.set_cons_succ]
        refine wpAnyH_ready (rs := [5]) (by kernel_rfl) (by simp) ?_
        refine AllReadyH.cons rfl (fun K hK => ?_) AllReadyH.nil
        go_simp
        refine (HG.out _).mono ?_
        rintro e x2 ⟨rfl, hb⟩
        have K1 := K1.below hb K1.lt
        have K2 := K2.below hb K2.lt
        have HX : Hid (Below w.heap.size w x2) := HX.out.trans (hb.mono HX.out.size)
        clear hb hHeld
        go_wp2_with fail
        refine hK.out _ _ ⟨K1, K2⟩ (fun hHeld => ?_)
        clear hK K
        try simp only [Act.put, List.setIfInBounds_toArray, List.set_cons_zero, List.set_cons_succ]
        refine wpAnyH_take (i := 6) (oi := { dst := some 14, op := _, type := _, pos := _, after := _, guard := _ }) (v := .bool false) rfl (by kernel_rfl) (by kernel_rfl) (by kernel_rfl) (fun _ _ _ h => h) (Or.inl ⟨by rfl, by intro w hSw; clear hSw; go_simp; (try with_reducible rfl)⟩) (by assumption) ?_
        try simp only [Act.put, List.setIfInBounds_toArray, List.set_cons_zero, List.set_cons_succ]
        refine wpAnyH_take (i := 7) (oi := { dst := some 15, op := _, type := _, pos := _, after := _, guard := _ }) (v := .bool false) rfl (by kernel_rfl) (by kernel_rfl) (by kernel_rfl) (fun _ _ _ h => h) (Or.inl ⟨by rfl, by intro w hSw; clear hSw; go_simp; (try with_reducible rfl)⟩) (by assumption) ?_
        try simp only [Act.put, List.setIfInBounds_toArray, List.set_cons_zero, List.set_cons_succ]
        refine wpAnyH_take (i := 8) (oi := { dst := some 16, op := _, type := _, pos := _, after := _, guard := _ }) (v := .bool false) rfl (by kernel_rfl) (by kernel_rfl) (by kernel_rfl) (fun _ _ _ h => h) (Or.inl ⟨by rfl, by intro w hSw; clear hSw; go_simp; (try with_reducible rfl)⟩) (by assumption) ?_
        try simp only [Act.put, List.setIfInBounds_toArray, List.set_cons_zero, List.set_cons_succ]
        refine wpAnyH_take (i := 9) (oi := { dst := some 17, op := _, type := _, pos := _, after := _, guard := _ }) (v := .agg (mk 16 g)) rfl (by kernel_rfl) (by kernel_rfl) (by kernel_rfl) (fun _ _ _ h => h) (Or.inl ⟨by rfl, fun _ q => execB q.2 rfl rfl⟩) (by assumption) ?_
        try simp only [Act.put, List.setIfInBounds_toArray, List.set_cons_zero, List.set_cons_succ]
        refine wpAnyH_take (i := 11) (oi := { dst := some 19, op := _, type := _, pos := _, after := _, guard := _ }) (v := .agg (mk 16 f)) rfl (by kernel_rfl) (by kernel_rfl) (by kernel_rfl) (fun _ _ _ h => h) (Or.inl ⟨by rfl, fun _ q => execB q.1 rfl rfl⟩) (by assumption) ?_
        try simp only [Act.put, List.setIfInBounds_toArray, List.set_cons_zero, List.set_cons_succ]
        refine wpAnyH_ready (rs := [10]) (by kernel_rfl) (by simp) ?_
        refine AllReadyH.cons rfl (fun K hK => ?_) AllReadyH.nil
        go_simp
        refine (HSG.out _).mono ?_
        rintro e x3 ⟨rfl, hb⟩
        have K1 := K1.below hb K1.lt
        have K2 := K2.below hb K2.lt
        have HX : Hid (Below w.heap.size w x3) := HX.out.trans (hb.mono HX.out.size)
        clear hb hHeld
        go_wp2_with fail
        refine hK.out _ _ ⟨K1, K2⟩ (fun hHeld => ?_)
        clear hK K
        try simp only [Act.put, List.setIfInBounds_toArray, List.set_cons_zero, List.set_cons_succ]
        refine wpAnyH_ready (rs := [12]) (by kernel_rfl) (by simp) ?_
        refine AllReadyH.cons rfl (fun K hK => ?_) AllReadyH.nil
        go_simp
        refine (HSF.out _).mono ?_
        rintro e x4 ⟨rfl, hb⟩
        have K1 := K1.below hb K1.lt
        have K2 := K2.below hb K2.lt
        have HX : Hid (Below w.heap.size w x4) := HX.out.trans (hb.mono HX.out.size)
        clear hb hHeld
        go_wp2_with fail
        refine hK.out _ _ ⟨K1, K2⟩ (fun hHeld => ?_)
        clear hK K
        try simp only [Act.put, List.setIfInBounds_toArray, List.set_cons_zero, List.set_cons_succ]
        refine wpAnyH_take (i := 13) (oi := { dst := some 21, op := _, type := _, pos := _, after := _, guard := _ }) (v := .bool false) rfl (by kernel_rfl) (by kernel_rfl) (by kernel_rfl) (fun _ _ _ h => h) (Or.inl ⟨by rfl, by intro w hSw; clear hSw; go_simp; (try with_reducible rfl)⟩) (by assumption) ?_
        try simp only [Act.put, List.setIfInBounds_toArray, List.set_cons_zero, List.set_cons_succ]
        refine wpAnyH_take (i := 14) (oi := { dst := some 22, op := _, type := _, pos := _, after := _, guard := _ }) (v := .bool false) rfl (by kernel_rfl) (by kernel_rfl) (by kernel_rfl) (fun _ _ _ h => h) (Or.inl ⟨by rfl, by intro w hSw; clear hSw; go_simp; (try with_reducible rfl)⟩) (by assumption) ?_
        try simp only [Act.put, List.setIfInBounds_toArray, List.set_cons_zero, List.set_cons_succ]
        refine wpAnyH_done (by kernel_rfl) ?_ _
        clear hHeld
        go_wp2_with fail
        refine wp_region_held_drew (S := fun W => Blk W w.heap.size 16 f 28 ∧ Blk W (w.heap.size + 1) 16 g 28) (by kernel_rfl) (⟨K1.drew, K2.drew⟩) (fun hHeld => ?_)
        have K1 : Blk x4.drew w.heap.size 16 f 28 := K1.drew
        have K2 : Blk x4.drew (w.heap.size + 1) 16 g 28 := K2.drew
        have HX : Hid (Below w.heap.size w x4.drew) := HX.out.drew
        generalize x4.drew = y0 at *
        refine wpAnyH_take (i := 0) (oi := { dst := some 23, op := _, type := _, pos := _, after := _, guard := _ }) (v := .agg (mk 16 g)) rfl (by kernel_rfl) (by kernel_rfl) (by kernel_rfl) (fun _ _ _ h => h) (Or.inl ⟨by rfl, fun _ q => execB q.2 rfl rfl⟩) (by assumption) ?_
        try simp only [Act.put, List.setIfInBounds_toArray, List.set_cons_zero, List.set_cons_succ]
        refine wpAnyH_take (i := 2) (oi := { dst := some 25, op := _, type := _, pos := _, after := _, guard := _ }) (v := .agg (mk 16 f)) rfl (by kernel_rfl) (by kernel_rfl) (by kernel_rfl) (fun _ _ _ h => h) (Or.inl ⟨by rfl, fun _ q => execB q.1 rfl rfl⟩) (by assumption) ?_
        try simp only [Act.put, List.setIfInBounds_toArray, List.set_cons_zero, List.set_cons_succ]
        refine wpAnyH_ready (rs := [1]) (by kernel_rfl) (by simp) ?_
        refine AllReadyH.cons rfl (fun K hK => ?_) AllReadyH.nil
        go_simp
        refine (HSG.out _).mono ?_
        rintro e y1 ⟨rfl, hb⟩
        have K1 := K1.below hb K1.lt
        have K2 := K2.below hb K2.lt
        have HX : Hid (Below w.heap.size w y1) := HX.out.trans (hb.mono HX.out.size)
        clear hb hHeld
        go_wp2_with fail
        refine hK.out _ _ ⟨K1, K2⟩ (fun hHeld => ?_)
        clear hK K
        try simp only [Act.put, List.setIfInBounds_toArray, List.set_cons_zero, List.set_cons_succ]
        refine wpAnyH_ready (rs := [3]) (by kernel_rfl) (by simp) ?_
        refine AllReadyH.cons rfl (fun K hK => ?_) AllReadyH.nil
        go_simp
        refine (HSF.out _).mono ?_
        rintro e y2 ⟨rfl, hb⟩
        have K1 := K1.below hb K1.lt
        have K2 := K2.below hb K2.lt
        have HX : Hid (Below w.heap.size w y2) := HX.out.trans (hb.mono HX.out.size)
        clear hb hHeld
        go_wp2_with fail
        refine hK.out _ _ ⟨K1, K2⟩ (fun hHeld => ?_)
        clear hK K
        try simp only [Act.put, List.setIfInBounds_toArray, List.set_cons_zero, List.set_cons_succ]
        refine wpAnyH_take (i := 4) (oi := { dst := some 27, op := _, type := _, pos := _, after := _, guard := _ }) (v := .int .i64 (G - F)) rfl (by kernel_rfl) (by kernel_rfl) (by kernel_rfl) (fun _ _ _ h => h) (Or.inl ⟨by rfl, by intro w hSw; clear hSw; go_simp; (try with_reducible rfl)⟩) (by assumption) ?_
        try simp only [Act.put, List.setIfInBounds_toArray, List.set_cons_zero, List.set_cons_succ]
        refine wpAnyH_take (i := 5) (oi := { dst := some 7, op := _, type := _, pos := _, after := _, guard := _ }) (v := .int .i64 (G - F)) rfl (by kernel_rfl) (by kernel_rfl) (by kernel_rfl) (fun _ _ _ h => h) (Or.inl ⟨by rfl, by intro w hSw; clear hSw; go_simp; (try with_reducible rfl)⟩) (by assumption) ?_
        try simp only [Act.put, List.setIfInBounds_toArray, List.set_cons_zero, List.set_cons_succ]
        refine wpAnyH_done (by kernel_rfl) ?_ _
        clear hHeld
        obtain ⟨q1, q2, q3, q4, q5⟩ := HQ.out
        go_wp2_with fail
        (first | go_ret2 | go_ret3)
        exact ⟨rfl, HX.out⟩
      · have hM : ¬ MbOk f g := fun h => hL h.2.2
        rw [(mv_no hM).1, (mv_no hM).2.1, (mv_no hM).2.2]
        have hlt : sumF g 16 < sumF f 16 := by omega
        clear hM hA hG hL b1 b2
        generalize sumF f 16 = F at *
        generalize sumF g 16 = G at *
        go_enter Try.func24, Try.ntmps24
        go_wp2_with fail
        generalize (w.alloc (.cells (mk 16 f) 28)).alloc (.cells (mk 16 g) 28) = w0 at *
        refine wp_region_held_drew (S := fun W => Blk W w.heap.size 16 f 28 ∧ Blk W (w.heap.size + 1) 16 g 28) (by kernel_rfl) (⟨K1.drew, K2.drew⟩) (fun hHeld => ?_)
        have K1 : Blk w0.drew w.heap.size 16 f 28 := K1.drew
        have K2 : Blk w0.drew (w.heap.size + 1) 16 g 28 := K2.drew
        have HX : Hid (Below w.heap.size w w0.drew) := HX.out.drew
        generalize w0.drew = x0 at *
        refine wpAnyH_take (i := 0) (oi := { dst := some 8, op := _, type := _, pos := _, after := _, guard := _ }) (v := .agg (mk 16 f)) rfl (by kernel_rfl) (by kernel_rfl) (by kernel_rfl) (fun _ _ _ h => h) (Or.inl ⟨by rfl, fun _ q => execB q.1 rfl rfl⟩) (by assumption) ?_
        try simp only [Act.put, List.setIfInBounds_toArray, List.set_cons_zero, List.set_cons_succ]
        refine wpAnyH_ready (rs := [1]) (by kernel_rfl) (by simp) ?_
        refine AllReadyH.cons rfl (fun K hK => ?_) AllReadyH.nil
        go_simp
        refine (HA.out _).mono ?_
        rintro e x1 ⟨rfl, hb⟩
        have K1 := K1.below hb K1.lt
        have K2 := K2.below hb K2.lt
        have HX : Hid (Below w.heap.size w x1) := HX.out.trans (hb.mono HX.out.size)
        clear hb hHeld
        go_wp2_with fail
        refine hK.out _ _ ⟨K1, K2⟩ (fun hHeld => ?_)
        clear hK K
        try simp only [Act.put, List.setIfInBounds_toArray, List.set_cons_zero, List.set_cons_succ]
        refine wpAnyH_take (i := 2) (oi := { dst := some 10, op := _, type := _, pos := _, after := _, guard := _ }) (v := .bool false) rfl (by kernel_rfl) (by kernel_rfl) (by kernel_rfl) (fun _ _ _ h => h) (Or.inl ⟨by rfl, by intro w hSw; clear hSw; go_simp; (try with_reducible rfl)⟩) (by assumption) ?_
        try simp only [Act.put, List.setIfInBounds_toArray, List.set_cons_zero, List.set_cons_succ]
        refine wpAnyH_take (i := 3) (oi := { dst := some 11, op := _, type := _, pos := _, after := _, guard := _ }) (v := .bool false) rfl (by kernel_rfl) (by kernel_rfl) (by kernel_rfl) (fun _ _ _ h => h) (Or.inl ⟨by rfl, by intro w hSw; clear hSw; go_simp; (try with_reducible rfl)⟩) (by assumption) ?_
        try simp only [Act.put, List.setIfInBounds_toArray, List.set_cons_zero, List.set_cons_succ]
        refine wpAnyH_take (i := 4) (oi := { dst := some 12, op := _, type := _, pos := _, after := _, guard := _ }) (v := .agg (mk 16 g)) rfl (by kernel_rfl) (by kernel_rfl) (by kernel_rfl) (fun _ _ _ h => h) (Or.inl ⟨by rfl, fun _ q => execB q.2 rfl rfl⟩) (by assumption) ?_
        try simp only [Act.put, List.setIfInBounds_toArray, List.set_cons_zero, List.set_cons_succ]
        refine wpAnyH_ready (rs := [5]) (by kernel_rfl) (by simp) ?_
        refine AllReadyH.cons rfl (fun K hK => ?_) AllReadyH.nil
        go_simp
        refine (HG.out _).mono ?_
        rintro e x2 ⟨rfl, hb⟩
        have K1 := K1.below hb K1.lt
        have K2 := K2.below hb K2.lt
        have HX : Hid (Below w.heap.size w x2) := HX.out.trans (hb.mono HX.out.size)
        clear hb hHeld
        go_wp2_with fail
        refine hK.out _ _ ⟨K1, K2⟩ (fun hHeld => ?_)
        clear hK K
        try simp only [Act.put, List.setIfInBounds_toArray, List.set_cons_zero, List.set_cons_succ]
        refine wpAnyH_take (i := 6) (oi := { dst := some 14, op := _, type := _, pos := _, after := _, guard := _ }) (v := .bool false) rfl (by kernel_rfl) (by kernel_rfl) (by kernel_rfl) (fun _ _ _ h => h) (Or.inl ⟨by rfl, by intro w hSw; clear hSw; go_simp; (try with_reducible rfl)⟩) (by assumption) ?_
        try simp only [Act.put, List.setIfInBounds_toArray, List.set_cons_zero, List.set_cons_succ]
        refine wpAnyH_take (i := 7) (oi := { dst := some 15, op := _, type := _, pos := _, after := _, guard := _ }) (v := .bool false) rfl (by kernel_rfl) (by kernel_rfl) (by kernel_rfl) (fun _ _ _ h => h) (Or.inl ⟨by rfl, by intro w hSw; clear hSw; go_simp; (try with_reducible rfl)⟩) (by assumption) ?_
        try simp only [Act.put, List.setIfInBounds_toArray, List.set_cons_zero, List.set_cons_succ]
        refine wpAnyH_take (i := 8) (oi := { dst := some 16, op := _, type := _, pos := _, after := _, guard := _ }) (v := .bool false) rfl (by kernel_rfl) (by kernel_rfl) (by kernel_rfl) (fun _ _ _ h => h) (Or.inl ⟨by rfl, by intro w hSw; clear hSw; go_simp; (try with_reducible rfl)⟩) (by assumption) ?_
        try simp only [Act.put, List.setIfInBounds_toArray, List.set_cons_zero, List.set_cons_succ]
        refine wpAnyH_take (i := 9) (oi := { dst := some 17, op := _, type := _, pos := _, after := _, guard := _ }) (v := .agg (mk 16 g)) rfl (by kernel_rfl) (by kernel_rfl) (by kernel_rfl) (fun _ _ _ h => h) (Or.inl ⟨by rfl, fun _ q => execB q.2 rfl rfl⟩) (by assumption) ?_
        try simp only [Act.put, List.setIfInBounds_toArray, List.set_cons_zero, List.set_cons_succ]
        refine wpAnyH_take (i := 11) (oi := { dst := some 19, op := _, type := _, pos := _, after := _, guard := _ }) (v := .agg (mk 16 f)) rfl (by kernel_rfl) (by kernel_rfl) (by kernel_rfl) (fun _ _ _ h => h) (Or.inl ⟨by rfl, fun _ q => execB q.1 rfl rfl⟩) (by assumption) ?_
        try simp only [Act.put, List.setIfInBounds_toArray, List.set_cons_zero, List.set_cons_succ]
        refine wpAnyH_ready (rs := [10]) (by kernel_rfl) (by simp) ?_
        refine AllReadyH.cons rfl (fun K hK => ?_) AllReadyH.nil
        go_simp
        refine (HSG.out _).mono ?_
        rintro e x3 ⟨rfl, hb⟩
        have K1 := K1.below hb K1.lt
        have K2 := K2.below hb K2.lt
        have HX : Hid (Below w.heap.size w x3) := HX.out.trans (hb.mono HX.out.size)
        clear hb hHeld
        go_wp2_with fail
        refine hK.out _ _ ⟨K1, K2⟩ (fun hHeld => ?_)
        clear hK K
        try simp only [Act.put, List.setIfInBounds_toArray, List.set_cons_zero, List.set_cons_succ]
        refine wpAnyH_ready (rs := [12]) (by kernel_rfl) (by simp) ?_
        refine AllReadyH.cons rfl (fun K hK => ?_) AllReadyH.nil
        go_simp
        refine (HSF.out _).mono ?_
        rintro e x4 ⟨rfl, hb⟩
        have K1 := K1.below hb K1.lt
        have K2 := K2.below hb K2.lt
        have HX : Hid (Below w.heap.size w x4) := HX.out.trans (hb.mono HX.out.size)
        clear hb hHeld
        go_wp2_with fail
        refine hK.out _ _ ⟨K1, K2⟩ (fun hHeld => ?_)
        clear hK K
        try simp only [Act.put, List.setIfInBounds_toArray, List.set_cons_zero, List.set_cons_succ]
        refine wpAnyH_take (i := 13) (oi := { dst := some 21, op := _, type := _, pos := _, after := _, guard := _ }) (v := .bool true) rfl (by kernel_rfl) (by kernel_rfl) (by kernel_rfl) (fun _ _ _ h => h) (Or.inl ⟨by rfl, by intro w hSw; clear hSw; go_simp; (try with_reducible rfl)⟩) (by assumption) ?_
        try simp only [Act.put, List.setIfInBounds_toArray, List.set_cons_zero, List.set_cons_succ]
        refine wpAnyH_take (i := 14) (oi := { dst := some 22, op := _, type := _, pos := _, after := _, guard := _ }) (v := .bool true) rfl (by kernel_rfl) (by kernel_rfl) (by kernel_rfl) (fun _ _ _ h => h) (Or.inl ⟨by rfl, by intro w hSw; clear hSw; go_simp; (try with_reducible rfl)⟩) (by assumption) ?_
        try simp only [Act.put, List.setIfInBounds_toArray, List.set_cons_zero, List.set_cons_succ]
        refine wpAnyH_done (by kernel_rfl) ?_ _
        clear hHeld
        go_wp2_with fail
        (first | go_ret2 | go_ret3)
        exact ⟨rfl, HX.out⟩
    · have HG := Lib.hid (fun w => l2Board_no g w hG)
      have hM : ¬ MbOk f g := fun h => hG h.2.1
      rw [(mv_no hM).1, (mv_no hM).2.1, (mv_no hM).2.2]
      clear hM hA hG HSF
      go_enter Try.func24, Try.ntmps24
      go_wp2_with fail
      generalize (w.alloc (.cells (mk 16 f) 28)).alloc (.cells (mk 16 g) 28) = w0 at *
      refine wp_region_held_drew (S := fun W => Blk W w.heap.size 16 f 28 ∧ Blk W (w.heap.size + 1) 16 g 28) (by kernel_rfl) (⟨K1.drew, K2.drew⟩) (fun hHeld => ?_)
      have K1 : Blk w0.drew w.heap.size 16 f 28 := K1.drew
      have K2 : Blk w0.drew (w.heap.size + 1) 16 g 28 := K2.drew
      have HX : Hid (Below w.heap.size w w0.drew) := HX.out.drew
      generalize w0.drew = x0 at *
      refine wpAnyH_take (i := 0) (oi := { dst := some 8, op := _, type := _, pos := _, after := _, guard := _ }) (v := .agg (mk 16 f)) rfl (by kernel_rfl) (by kernel_rfl) (by kernel_rfl) (fun _ _ _ h => h) (Or.inl ⟨by rfl, fun _ q => execB q.1 rfl rfl⟩) (by assumption) ?_
      try simp only [Act.put, List.setIfInBounds_toArray, List.set_cons_zero, List.set_cons_succ]
      refine wpAnyH_ready (rs := [1]) (by kernel_rfl) (by simp) ?_
      refine AllReadyH.cons rfl (fun K hK => ?_) AllReadyH.nil
      go_simp
      refine (HA.out _).mono ?_
      rintro e x1 ⟨rfl, hb⟩
      have K1 := K1.below hb K1.lt
      have K2 := K2.below hb K2.lt
      have HX : Hid (Below w.heap.size w x1) := HX.out.trans (hb.mono HX.out.size)
      clear hb hHeld
      go_wp2_with fail
      refine hK.out _ _ ⟨K1, K2⟩ (fun hHeld => ?_)
      clear hK K
      try simp only [Act.put, List.setIfInBounds_toArray, List.set_cons_zero, List.set_cons_succ]
      refine wpAnyH_take (i := 2) (oi := { dst := some 10, op := _, type := _, pos := _, after := _, guard := _ }) (v := .bool false) rfl (by kernel_rfl) (by kernel_rfl) (by kernel_rfl) (fun _ _ _ h => h) (Or.inl ⟨by rfl, by intro w hSw; clear hSw; go_simp; (try with_reducible rfl)⟩) (by assumption) ?_
      try simp only [Act.put, List.setIfInBounds_toArray, List.set_cons_zero, List.set_cons_succ]
      refine wpAnyH_take (i := 3) (oi := { dst := some 11, op := _, type := _, pos := _, after := _, guard := _ }) (v := .bool false) rfl (by kernel_rfl) (by kernel_rfl) (by kernel_rfl) (fun _ _ _ h => h) (Or.inl ⟨by rfl, by intro w hSw; clear hSw; go_simp; (try with_reducible rfl)⟩) (by assumption) ?_
      try simp only [Act.put, List.setIfInBounds_toArray, List.set_cons_zero, List.set_cons_succ]
      refine wpAnyH_take (i := 4) (oi := { dst := some 12, op := _, type := _, pos := _, after := _, guard := _ }) (v := .agg (mk 16 g)) rfl (by kernel_rfl) (by kernel_rfl) (by kernel_rfl) (fun _ _ _ h => h) (Or.inl ⟨by rfl, fun _ q => execB q.2 rfl rfl⟩) (by assumption) ?_
      try simp only [Act.put, List.setIfInBounds_toArray, List.set_cons_zero, List.set_cons_succ]
      refine wpAnyH_ready (rs := [5]) (by kernel_rfl) (by simp) ?_
      refine AllReadyH.cons rfl (fun K hK => ?_) AllReadyH.nil
      go_simp
      refine (HG.out _).mono ?_
      rintro e x2 ⟨rfl, hb⟩
      have K1 := K1.below hb K1.lt
      have K2 := K2.below hb K2.lt
      have HX : Hid (Below w.heap.size w x2) := HX.out.trans (hb.mono HX.out.size)
      clear hb hHeld
      go_wp2_with fail
      refine hK.out _ _ ⟨K1, K2⟩ (fun hHeld => ?_)
      clear hK K
      try simp only [Act.put, List.setIfInBounds_toArray, List.set_cons_zero, List.set_cons_succ]
      refine wpAnyH_take (i := 6) (oi := { dst := some 14, op := _, type := _, pos := _, after := _, guard := _ }) (v := .bool true) rfl (by kernel_rfl) (by kernel_rfl) (by kernel_rfl) (fun _ _ _ h => h) (Or.inl ⟨by rfl, by intro w hSw; clear hSw; go_simp; (try with_reducible rfl)⟩) (by assumption) ?_
      try simp only [Act.put, List.setIfInBounds_toArray, List.set_cons_zero, List.set_cons_succ]
      refine wpAnyH_take (i := 7) (oi := { dst := some 15, op := _, type := _, pos := _, after := _, guard := _ }) (v := .bool true) rfl (by kernel_rfl) (by kernel_rfl) (by kernel_rfl) (fun _ _ _ h => h) (Or.inl ⟨by rfl, by intro w hSw; clear hSw; go_simp; (try with_reducible rfl)⟩) (by assumption) ?_
      try simp only [Act.put, List.setIfInBounds_toArray, List.set_cons_zero, List.set_cons_succ]
      refine wpAnyH_take (i := 8) (oi := { dst := some 16, op := _, type := _, pos := _, after := _, guard := _ }) (v := .bool true) rfl (by kernel_rfl) (by kernel_rfl) (by kernel_rfl) (fun _ _ _ h => h) (Or.inl ⟨by rfl, by intro w hSw; clear hSw; go_simp; (try with_reducible rfl)⟩) (by assumption) ?_
      try simp only [Act.put, List.setIfInBounds_toArray, List.set_cons_zero, List.set_cons_succ]
      refine wpAnyH_take (i := 9) (oi := { dst := some 17, op := _, type := _, pos := _, after := _, guard := _ }) (v := undef) rfl (by kernel_rfl) (by kernel_rfl) (by kernel_rfl) (fun _ _ _ h => h) (Or.inr ⟨by rfl, rfl⟩) (by assumption) ?_
      try simp only [Act.put, List.setIfInBounds_toArray, List.set_cons_zero, List.set_cons_succ]
      refine wpAnyH_take (i := 10) (oi := { dst := some 18, op := _, type := _, pos := _, after := _, guard := _ }) (v := undef) rfl (by kernel_rfl) (by kernel_rfl) (by kernel_rfl) (fun _ _ _ h => h) (Or.inr ⟨by rfl, rfl⟩) (by assumption) ?_
      try simp only [Act.put, List.setIfInBounds_toArray, List.set_cons_zero, List.set_cons_succ]
      refine wpAnyH_take (i := 11) (oi := { dst := some 19, op := _, type := _, pos := _, after := _, guard := _ }) (v := undef) rfl (by kernel_rfl) (by kernel_rfl) (by kernel_rfl) (fun _ _ _ h => h) (Or.inr ⟨by rfl, rfl⟩) (by assumption) ?_
      try simp only [Act.put, List.setIfInBounds_toArray, List.set_cons_zero, List.set_cons_succ]
      refine wpAnyH_take (i := 12) (oi := { dst := some 20, op := _, type := _, pos := _, after := _, guard := _ }) (v := undef) rfl (by kernel_rfl) (by kernel_rfl) (by kernel_rfl) (fun _ _ _ h => h) (Or.inr ⟨by rfl, rfl⟩) (by assumption) ?_
      try simp only [Act.put, List.setIfInBounds_toArray, List.set_cons_zero, List.set_cons_succ]
      refine wpAnyH_take (i := 13) (oi := { dst := some 21, op := _, type := _, pos := _, after := _, guard := _ }) (v := undef) rfl (by kernel_rfl) (by kernel_rfl) (by kernel_rfl) (fun _ _ _ h => h) (Or.inr ⟨by rfl, rfl⟩) (by assumption) ?_
      try simp only [Act.put, List.setIfInBounds_toArray, List.set_cons_zero, List.set_cons_succ]
      refine wpAnyH_take (i := 14) (oi := { dst := some 22, op := _, type := _, pos := _, after := _, guard := _ }) (v := .bool true) rfl (by kernel_rfl) (by kernel_rfl) (by kernel_rfl) (fun _ _ _ h => h) (Or.inl ⟨by rfl, by intro w hSw; clear hSw; go_simp; (try with_reducible rfl)⟩) (by assumption) ?_
      try simp only [Act.put, List.setIfInBounds_toArray, List.set_cons_zero, List.set_cons_succ]
      refine wpAnyH_done (by kernel_rfl) ?_ _
      clear hHeld
      go_wp2_with fail
      (first | go_ret2 | go_ret3)
      exact ⟨rfl, HX.out⟩
  · have HA := Lib.hid (fun w => l2Board_no f w hA)
    have hM : ¬ MbOk f g := fun h => hA h.1
    rw [(mv_no hM).1, (mv_no hM).2.1, (mv_no hM).2.2]
    clear hM hA
    go_enter Try.func24, Try.ntmps24
    go_wp2_with fail
    generalize (w.alloc (.cells (mk 16 f) 28)).alloc (.cells (mk 16 g) 28) = w0 at *
    refine wp_region_held_drew (S := fun W => Blk W w.heap.size 16 f 28 ∧ Blk W (w.heap.size + 1) 16 g 28) (by kernel_rfl) (⟨K1.drew, K2.drew⟩) (fun hHeld => ?_)
    have K1 : Blk w0.drew w.heap.size 16 f 28 := K1.drew
    have K2 : Blk w0.drew (w.heap.size + 1) 16 g 28 := K2.drew
    have HX : Hid (Below w.heap.size w w0.drew) := HX.out.drew
    generalize w0.drew = x0 at *
    refine wpAnyH_take (i := 0) (oi := { dst := some 8, op := _, type := _, pos := _, after := _, guard := _ }) (v := .agg (mk 16 f)) rfl (by kernel_rfl) (by kernel_rfl) (by kernel_rfl) (fun _ _ _ h => h) (Or.inl ⟨by rfl, fun _ q => execB q.1 rfl rfl⟩) (by assumption) ?_
    try simp only [Act.put, List.setIfInBounds_toArray, List.set_cons_zero, List.set_cons_succ]
    refine wpAnyH_ready (rs := [1]) (by kernel_rfl) (by simp) ?_
    refine AllReadyH.cons rfl (fun K hK => ?_) AllReadyH.nil
    go_simp
    refine (HA.out _).mono ?_
    rintro e x1 ⟨rfl, hb⟩
    have K1 := K1.below hb K1.lt
    have K2 := K2.below hb K2.lt
    have HX : Hid (Below w.heap.size w x1) := HX.out.trans (hb.mono HX.out.size)
    clear hb hHeld
    go_wp2_with fail
    refine hK.out _ _ ⟨K1, K2⟩ (fun hHeld => ?_)
    clear hK K
    try simp only [Act.put, List.setIfInBounds_toArray, List.set_cons_zero, List.set_cons_succ]
    refine wpAnyH_take (i := 2) (oi := { dst := some 10, op := _, type := _, pos := _, after := _, guard := _ }) (v := .bool true) rfl (by kernel_rfl) (by kernel_rfl) (by kernel_rfl) (fun _ _ _ h => h) (Or.inl ⟨by rfl, by intro w hSw; clear hSw; go_simp; (try with_reducible rfl)⟩) (by assumption) ?_
    try simp only [Act.put, List.setIfInBounds_toArray, List.set_cons_zero, List.set_cons_succ]
    refine wpAnyH_take (i := 3) (oi := { dst := some 11, op := _, type := _, pos := _, after := _, guard := _ }) (v := .bool true) rfl (by kernel_rfl) (by kernel_rfl) (by kernel_rfl) (fun _ _ _ h => h) (Or.inl ⟨by rfl, by intro w hSw; clear hSw; go_simp; (try with_reducible rfl)⟩) (by assumption) ?_
    try simp only [Act.put, List.setIfInBounds_toArray, List.set_cons_zero, List.set_cons_succ]
    refine wpAnyH_take (i := 4) (oi := { dst := some 12, op := _, type := _, pos := _, after := _, guard := _ }) (v := undef) rfl (by kernel_rfl) (by kernel_rfl) (by kernel_rfl) (fun _ _ _ h => h) (Or.inr ⟨by rfl, rfl⟩) (by assumption) ?_
    try simp only [Act.put, List.setIfInBounds_toArray, List.set_cons_zero, List.set_cons_succ]
    refine wpAnyH_take (i := 5) (oi := { dst := some 13, op := _, type := _, pos := _, after := _, guard := _ }) (v := undef) rfl (by kernel_rfl) (by kernel_rfl) (by kernel_rfl) (fun _ _ _ h => h) (Or.inr ⟨by rfl, rfl⟩) (by assumption) ?_
    try simp only [Act.put, List.setIfInBounds_toArray, List.set_cons_zero, List.set_cons_succ]
    refine wpAnyH_take (i := 6) (oi := { dst := some 14, op := _, type := _, pos := _, after := _, guard := _ }) (v := undef) rfl (by kernel_rfl) (by kernel_rfl) (by kernel_rfl) (fun _ _ _ h => h) (Or.inr ⟨by rfl, rfl⟩) (by assumption) ?_
    try simp only [Act.put, List.setIfInBounds_toArray, List.set_cons_zero, List.set_cons_succ]
    refine wpAnyH_take (i := 7) (oi := { dst := some 15, op := _, type := _, pos := _, after := _, guard := _ }) (v := .bool true) rfl (by kernel_rfl) (by kernel_rfl) (by kernel_rfl) (fun _ _ _ h => h) (Or.inl ⟨by rfl, by intro w hSw; clear hSw; go_simp; (try with_reducible rfl)⟩) (by assumption) ?_
    try simp only [Act.put, List.setIfInBounds_toArray, List.set_cons_zero, List.set_cons_succ]
    refine wpAnyH_take (i := 8) (oi := { dst := some 16, op := _, type := _, pos := _, after := _, guard := _ }) (v := .bool true) rfl (by kernel_rfl) (by kernel_rfl) (by kernel_rfl) (fun _ _ _ h => h) (Or.inl ⟨by rfl, by intro w hSw; clear hSw; go_simp; (try with_reducible rfl)⟩) (by assumption) ?_
    try simp only [Act.put, List.setIfInBounds_toArray, List.set_cons_zero, List.set_cons_succ]
    refine wpAnyH_take (i := 9) (oi := { dst := some 17, op := _, type := _, pos := _, after := _, guard := _ }) (v := undef) rfl (by kernel_rfl) (by kernel_rfl) (by kernel_rfl) (fun _ _ _ h => h) (Or.inr ⟨by rfl, rfl⟩) (by assumption) ?_
    try simp only [Act.put, List.setIfInBounds_toArray, List.set_cons_zero, List.set_cons_succ]
    refine wpAnyH_take (i := 10) (oi := { dst := some 18, op := _, type := _, pos := _, after := _, guard := _ }) (v := undef) rfl (by kernel_rfl) (by kernel_rfl) (by kernel_rfl) (fun _ _ _ h => h) (Or.inr ⟨by rfl, rfl⟩) (by assumption) ?_
    try simp only [Act.put, List.setIfInBounds_toArray, List.set_cons_zero, List.set_cons_succ]
    refine wpAnyH_take (i := 11) (oi := { dst := some 19, op := _, type := _, pos := _, after := _, guard := _ }) (v := undef) rfl (by kernel_rfl) (by kernel_rfl) (by kernel_rfl) (fun _ _ _ h => h) (Or.inr ⟨by rfl, rfl⟩) (by assumption) ?_
    try simp only [Act.put, List.setIfInBounds_toArray, List.set_cons_zero, List.set_cons_succ]
    refine wpAnyH_take (i := 12) (oi := { dst := some 20, op := _, type := _, pos := _, after := _, guard := _ }) (v := undef) rfl (by kernel_rfl) (by kernel_rfl) (by kernel_rfl) (fun _ _ _ h => h) (Or.inr ⟨by rfl, rfl⟩) (by assumption) ?_
    try simp only [Act.put, List.setIfInBounds_toArray, List.set_cons_zero, List.set_cons_succ]
    refine wpAnyH_take (i := 13) (oi := { dst := some 21, op := _, type := _, pos := _, after := _, guard := _ }) (v := undef) rfl (by kernel_rfl) (by kernel_rfl) (by kernel_rfl) (fun _ _ _ h => h) (Or.inr ⟨by rfl, rfl⟩) (by assumption) ?_
    try simp only [Act.put, List.setIfInBounds_toArray, List.set_cons_zero, List.set_cons_succ]
    refine wpAnyH_take (i := 14) (oi := { dst := some 22, op := _, type := _, pos := _, after := _, guard := _ }) (v := .bool true) rfl (by kernel_rfl) (by kernel_rfl) (by kernel_rfl) (fun _ _ _ h => h) (Or.inl ⟨by rfl, by intro w hSw; clear hSw; go_simp; (try with_reducible rfl)⟩) (by assumption) ?_
    try simp only [Act.put, List.setIfInBounds_toArray, List.set_cons_zero, List.set_cons_succ]
    refine wpAnyH_done (by kernel_rfl) ?_ _
    clear hHeld
    go_wp2_with fail
    (first | go_ret2 | go_ret3)
    exact ⟨rfl, HX.out⟩
set_option maxHeartbeats 4000000 in
set_option maxRecDepth 20000 in
theorem implMovesB_any (f g : Nat → Int) (w : World) :
    Calls Try.prog 25 #[.agg (mk 16 f), .agg (mk 16 g)] w fun e w' => e = .returned (.tuple #[.int .i64 (mvL f g), .int .i64 (mvM f g), .bool (mvO f g)]) ∧ Below w.heap.size w w' := by
  have z16 := zero16
  have K1 := (Blk.new w 16 f 28).alloc (.cells (mk 16 g) 28)
  have K2 := Blk.new (w.alloc (.cells (mk 16 f) 28)) 16 g 28
  simp only [World.size_alloc] at K2
  have HX := Lib.hid (((Below.refl w.heap.size w).alloc (Nat.le_refl _) (.cells (mk 16 f) 28)).alloc (by simp) (.cells (mk 16 g) 28))
  have HSF := Lib.hid (fun w => implSumV_any f w)
  have HSG := Lib.hid (fun w => implSumV_any g w)
  have HW := Lib.hid (fun w => worthOf_any 1 w (by omega) (by omega))
  have hw1 : worth 1 = 2 := by decide
  rw [hw1] at HW
  clear hw1
  by_cases hA : Vd f
  · rw [sumR_yes hA, vdO_yes hA] at HSF
    by_cases hG : Vd g
    · rw [sumR_yes hG, vdO_yes hG] at HSG
      have b1 := sum_bd hA
      have b2 := sum_bd hG
      have p1 := sum_even hA
      have p2 := sum_even hG
      by_cases hL : sumF f 16 ≤ sumF g 16
      · have hM : MbOk f g := ⟨hA, hG, hL⟩
        rw [(mv_yes hM).1, (mv_yes hM).2.1, (mv_yes hM).2.2]
        have hlt : ¬ sumF g 16 < sumF f 16 := by omega
        clear hM hA hG
        generalize sumF f 16 = F at *
        generalize sumF g 16 = G at *
        obtain ⟨D, hD⟩ : ∃ D, D = (G - F) / 2 := ⟨_, rfl⟩
        have e0 : IntKind.i64.wrap (G - F) = G - F := IntWalk.i64_in _ (by omega)
        have e1 : (G - F).tdiv 2 = D := by rw [Int.tdiv_eq_ediv_of_nonneg (by omega)]; exact hD.symm
        have e2 : IntKind.i64.wrap D = D := IntWalk.i64_in _ (by omega)
        have e3 : (G - F + 2) / 4 = D / 2 + D % 2 := by omega
        have e4 : D.tdiv 2 = D / 2 := Int.tdiv_eq_ediv_of_nonneg (by omega)
        have e5 : D.tmod 2 = D % 2 := Int.tmod_eq_emod_of_nonneg (by omega)
        have e6 : IntKind.i64.wrap (D / 2) = D / 2 := IntWalk.i64_in _ (by omega)
        have e7 : IntKind.i64.wrap (D / 2 + D % 2) = D / 2 + D % 2 := IntWalk.i64_in _ (by omega)
        rw [e3, ← hD]
        clear hL b1 b2 p1 p2 hD e3
        go_enter Try.func25, Try.ntmps25
        go_wp2_with (first | ((with_reducible show wpList _ _ _ (Oper.mk _ (Op.load 28 _) _ _ _ _ :: _) _ _); refine loadB (K1) rfl rfl rfl ?_) | ((with_reducible show wpList _ _ _ (Oper.mk _ (Op.load 28 _) _ _ _ _ :: _) _ _); refine loadB (K2) rfl rfl rfl ?_))
        refine (HSF.out _).mono ?_
        rintro e w1 ⟨rfl, hb⟩
        have K1 := K1.below hb K1.lt
        have K2 := K2.below hb K2.lt
        have HX : Hid (Below w.heap.size w w1) := HX.out.trans (hb.mono HX.out.size)
        clear hb
        go_wp2_with (first | ((with_reducible show wpList _ _ _ (Oper.mk _ (Op.load 28 _) _ _ _ _ :: _) _ _); refine loadB (K1) rfl rfl rfl ?_) | ((with_reducible show wpList _ _ _ (Oper.mk _ (Op.load 28 _) _ _ _ _ :: _) _ _); refine loadB (K2) rfl rfl rfl ?_))
        refine (HSG.out _).mono ?_
        rintro e w2 ⟨rfl, hb⟩
        have K1 := K1.below hb K1.lt
        have K2 := K2.below hb K2.lt
        have HX : Hid (Below w.heap.size w w2) := HX.out.trans (hb.mono HX.out.size)
        clear hb
        go_wp2_with fail
        refine (HW.out _).mono ?_
        rintro e w' ⟨rfl, rfl⟩
        go_wp2_with fail
        (first | go_ret2 | go_ret3)
        exact ⟨rfl, HX.out⟩
      · have hM : ¬ MbOk f g := fun h => hL h.2.2
        rw [(mv_no hM).1, (mv_no hM).2.1, (mv_no hM).2.2]
        have hlt : sumF g 16 < sumF f 16 := by omega
        clear hM hA hG hL b1 b2 p1 p2
        generalize sumF f 16 = F at *
        generalize sumF g 16 = G at *
        go_enter Try.func25, Try.ntmps25
        go_wp2_with (first | ((with_reducible show wpList _ _ _ (Oper.mk _ (Op.load 28 _) _ _ _ _ :: _) _ _); refine loadB (K1) rfl rfl rfl ?_) | ((with_reducible show wpList _ _ _ (Oper.mk _ (Op.load 28 _) _ _ _ _ :: _) _ _); refine loadB (K2) rfl rfl rfl ?_))
        refine (HSF.out _).mono ?_
        rintro e w1 ⟨rfl, hb⟩
        have K1 := K1.below hb K1.lt
        have K2 := K2.below hb K2.lt
        have HX : Hid (Below w.heap.size w w1) := HX.out.trans (hb.mono HX.out.size)
        clear hb
        go_wp2_with (first | ((with_reducible show wpList _ _ _ (Oper.mk _ (Op.load 28 _) _ _ _ _ :: _) _ _); refine loadB (K1) rfl rfl rfl ?_) | ((with_reducible show wpList _ _ _ (Oper.mk _ (Op.load 28 _) _ _ _ _ :: _) _ _); refine loadB (K2) rfl rfl rfl ?_))
        refine (HSG.out _).mono ?_
        rintro e w2 ⟨rfl, hb⟩
        have K1 := K1.below hb K1.lt
        have K2 := K2.below hb K2.lt
        have HX : Hid (Below w.heap.size w w2) := HX.out.trans (hb.mono HX.out.size)
        clear hb
        go_wp2_with fail
        (first | go_ret2 | go_ret3)
        exact ⟨rfl, HX.out⟩
    · rw [sumR_no hG, vdO_no hG] at HSG
      have hM : ¬ MbOk f g := fun h => hG h.2.1
      rw [(mv_no hM).1, (mv_no hM).2.1, (mv_no hM).2.2]
      clear hM hA hG
      go_enter Try.func25, Try.ntmps25
      go_wp2_with (first | ((with_reducible show wpList _ _ _ (Oper.mk _ (Op.load 28 _) _ _ _ _ :: _) _ _); refine loadB (K1) rfl rfl rfl ?_) | ((with_reducible show wpList _ _ _ (Oper.mk _ (Op.load 28 _) _ _ _ _ :: _) _ _); refine loadB (K2) rfl rfl rfl ?_))
      refine (HSF.out _).mono ?_
      rintro e w1 ⟨rfl, hb⟩
      have K1 := K1.below hb K1.lt
      have K2 := K2.below hb K2.lt
      have HX : Hid (Below w.heap.size w w1) := HX.out.trans (hb.mono HX.out.size)
      clear hb
      go_wp2_with (first | ((with_reducible show wpList _ _ _ (Oper.mk _ (Op.load 28 _) _ _ _ _ :: _) _ _); refine loadB (K1) rfl rfl rfl ?_) | ((with_reducible show wpList _ _ _ (Oper.mk _ (Op.load 28 _) _ _ _ _ :: _) _ _); refine loadB (K2) rfl rfl rfl ?_))
      refine (HSG.out _).mono ?_
      rintro e w2 ⟨rfl, hb⟩
      have K1 := K1.below hb K1.lt
      have K2 := K2.below hb K2.lt
      have HX : Hid (Below w.heap.size w w2) := HX.out.trans (hb.mono HX.out.size)
      clear hb
      go_wp2_with fail
      (first | go_ret2 | go_ret3)
      exact ⟨rfl, HX.out⟩
  · rw [sumR_no hA, vdO_no hA] at HSF
    have hM : ¬ MbOk f g := fun h => hA h.1
    rw [(mv_no hM).1, (mv_no hM).2.1, (mv_no hM).2.2]
    clear hM hA
    generalize sumR g = G at *
    generalize vdO g = Y at *
    go_enter Try.func25, Try.ntmps25
    go_wp2_with (first | ((with_reducible show wpList _ _ _ (Oper.mk _ (Op.load 28 _) _ _ _ _ :: _) _ _); refine loadB (K1) rfl rfl rfl ?_) | ((with_reducible show wpList _ _ _ (Oper.mk _ (Op.load 28 _) _ _ _ _ :: _) _ _); refine loadB (K2) rfl rfl rfl ?_))
    refine (HSF.out _).mono ?_
    rintro e w1 ⟨rfl, hb⟩
    have K1 := K1.below hb K1.lt
    have K2 := K2.below hb K2.lt
    have HX : Hid (Below w.heap.size w w1) := HX.out.trans (hb.mono HX.out.size)
    clear hb
    go_wp2_with (first | ((with_reducible show wpList _ _ _ (Oper.mk _ (Op.load 28 _) _ _ _ _ :: _) _ _); refine loadB (K1) rfl rfl rfl ?_) | ((with_reducible show wpList _ _ _ (Oper.mk _ (Op.load 28 _) _ _ _ _ :: _) _ _); refine loadB (K2) rfl rfl rfl ?_))
    refine (HSG.out _).mono ?_
    rintro e w2 ⟨rfl, hb⟩
    have K1 := K1.below hb K1.lt
    have K2 := K2.below hb K2.lt
    have HX : Hid (Below w.heap.size w w2) := HX.out.trans (hb.mono HX.out.size)
    clear hb
    go_wp2_with fail
    (first | go_ret2 | go_ret3)
    exact ⟨rfl, HX.out⟩
set_option maxHeartbeats 4000000 in
set_option maxRecDepth 20000 in
theorem specScoreB_any (f g : Nat → Int) (t : Int) (w : World) :
    Calls Try.prog 26 #[.agg (mk 16 f), .agg (mk 16 g), .int .i64 t] w fun e w' => e = .returned (.tuple #[.int .i64 (sbR f g t), .bool (sbO f g t)]) ∧ Below w.heap.size w w' := by
  have z16 := zero16
  have K1 := (Blk.new w 16 f 28).alloc (.cells (mk 16 g) 28)
  have K2 := Blk.new (w.alloc (.cells (mk 16 f) 28)) 16 g 28
  simp only [World.size_alloc] at K2
  have HX := Lib.hid (((Below.refl w.heap.size w).alloc (Nat.le_refl _) (.cells (mk 16 f) 28)).alloc (by simp) (.cells (mk 16 g) 28))
  by_cases hA : Vd f
  · have HA := Lib.hid (fun w => l2Board_yes f w hA)
    have HPF := Lib.hid (fun w => l7Pot_any f w hA)
    by_cases hG : Vd g
    · have HG := Lib.hid (fun w => l2Board_yes g w hG)
      have HPG := Lib.hid (fun w => l7Pot_any g w hG)
      have b1 := potF_bd hA 16 (by omega)
      have b2 := potF_bd hG 16 (by omega)
      by_cases hT : 0 ≤ t ∧ t ≤ 2097152
      · have HI := Lib.hid (fun w => l1In_yes t 0 2097152 w hT.1 hT.2)
        have hM : SbOk f g t := ⟨hA, hG, hT⟩
        rw [(sb_yes hM).1, (sb_yes hM).2]
        clear hM hA hG
        generalize potF f 16 = F at *
        generalize potF g 16 = G at *
        have e1 : IntKind.i64.wrap (G - F) = G - F := IntWalk.i64_in _ (by omega)
        have e2 : IntKind.i64.wrap (4 * t) = 4 * t := IntWalk.i64_in _ (by omega)
        have e3 : IntKind.i64.wrap (G - F - 4 * t) = G - F - 4 * t := IntWalk.i64_in _ (by omega)
        clear hT b1 b2
        go_enter Try.func26, Try.ntmps26
        go_wp2_with (first | ((with_reducible show wpList _ _ _ (Oper.mk _ (Op.load 28 _) _ _ _ _ :: _) _ _); refine loadB (K1) rfl rfl rfl ?_) | ((with_reducible show wpList _ _ _ (Oper.mk _ (Op.load 28 _) _ _ _ (some _) :: _) _ _); refine loadgB (K2) rfl rfl rfl ?_))
        refine (HA.out _).mono ?_
        rintro e w1 ⟨rfl, hb⟩
        have K1 := K1.below hb K1.lt
        have K2 := K2.below hb K2.lt
        have HX : Hid (Below w.heap.size w w1) := HX.out.trans (hb.mono HX.out.size)
        clear hb
        go_wp2_with (first | ((with_reducible show wpList _ _ _ (Oper.mk _ (Op.load 28 _) _ _ _ _ :: _) _ _); refine loadB (K1) rfl rfl rfl ?_) | ((with_reducible show wpList _ _ _ (Oper.mk _ (Op.load 28 _) _ _ _ (some _) :: _) _ _); refine loadgB (K2) rfl rfl rfl ?_))
        refine (HG.out _).mono ?_
        rintro e x4 ⟨rfl, hb⟩
        have K1 := K1.below hb K1.lt
        have K2 := K2.below hb K2.lt
        have HX : Hid (Below w.heap.size w x4) := HX.out.trans (hb.mono HX.out.size)
        clear hb
        go_wp2_with fail
        refine (HI.out _).mono ?_
        rintro e w' ⟨rfl, rfl⟩
        go_wp2_with fail
        refine wp_region_held_drew (S := fun W => Blk W w.heap.size 16 f 28 ∧ Blk W (w.heap.size + 1) 16 g 28) (by kernel_rfl) (⟨K1.drew, K2.drew⟩) (fun hHeld => ?_)
        have K1 : Blk x4.drew w.heap.size 16 f 28 := K1.drew
        have K2 : Blk x4.drew (w.heap.size + 1) 16 g 28 := K2.drew
        have HX : Hid (Below w.heap.size w x4.drew) := HX.out.drew
        generalize x4.drew = y0 at *
        refine wpAnyH_take (i := 0) (oi := { dst := some 21, op := _, type := _, pos := _, after := _, guard := _ }) (v := .agg (mk 16 g)) rfl (by kernel_rfl) (by kernel_rfl) (by kernel_rfl) (fun _ _ _ h => h) (Or.inl ⟨by rfl, fun _ q => execB q.2 rfl rfl⟩) (by assumption) ?_
        try simp only [Act.put, List.setIfInBounds_toArray, List.set_cons_zero, List.set_cons_succ]
        refine wpAnyH_take (i := 2) (oi := { dst := some 23, op := _, type := _, pos := _, after := _, guard := _ }) (v := .agg (mk 16 f)) rfl (by kernel_rfl) (by kernel_rfl) (by kernel_rfl) (fun _ _ _ h => h) (Or.inl ⟨by rfl, fun _ q => execB q.1 rfl rfl⟩) (by assumption) ?_
        try simp only [Act.put, List.setIfInBounds_toArray, List.set_cons_zero, List.set_cons_succ]
        refine wpAnyH_take (i := 5) (oi := { dst := some 26, op := _, type := _, pos := _, after := _, guard := _ }) (v := .int .i64 t) rfl (by kernel_rfl) (by kernel_rfl) (by kernel_rfl) (fun _ _ _ h => h) (Or.inl ⟨by rfl, by intro w hSw; clear hSw; go_simp; (try with_reducible rfl)⟩) (by assumption) ?_
        try simp only [Act.put, List.setIfInBounds_toArray, List.set_cons_zero, List.set_cons_succ]
        refine wpAnyH_take (i := 6) (oi := { dst := some 27, op := _, type := _, pos := _, after := _, guard := _ }) (v := .int .i64 (4 * t)) rfl (by kernel_rfl) (by kernel_rfl) (by kernel_rfl) (fun _ _ _ h => h) (Or.inl ⟨by rfl, by intro w hSw; clear hSw; go_simp; (try with_reducible rfl)⟩) (by assumption) ?_
        try simp only [Act.put, List.setIfInBounds_toArray, List.set_cons_zero, List.set_cons_succ]
        refine wpAnyH_ready (rs := [1]) (by kernel_rfl) (by simp) ?_
        refine AllReadyH.cons rfl (fun K hK => ?_) AllReadyH.nil
        go_simp
        refine (HPG.out _).mono ?_
        rintro e y1 ⟨rfl, hb⟩
        have K1 := K1.below hb K1.lt
        have K2 := K2.below hb K2.lt
        have HX : Hid (Below w.heap.size w y1) := HX.out.trans (hb.mono HX.out.size)
        clear hb hHeld
        go_wp2_with fail
        refine hK.out _ _ ⟨K1, K2⟩ (fun hHeld => ?_)
        clear hK K
        try simp only [Act.put, List.setIfInBounds_toArray, List.set_cons_zero, List.set_cons_succ]
        refine wpAnyH_ready (rs := [3]) (by kernel_rfl) (by simp) ?_
        refine AllReadyH.cons rfl (fun K hK => ?_) AllReadyH.nil
        go_simp
        refine (HPF.out _).mono ?_
        rintro e y2 ⟨rfl, hb⟩
        have K1 := K1.below hb K1.lt
        have K2 := K2.below hb K2.lt
        have HX : Hid (Below w.heap.size w y2) := HX.out.trans (hb.mono HX.out.size)
        clear hb hHeld
        go_wp2_with fail
        refine hK.out _ _ ⟨K1, K2⟩ (fun hHeld => ?_)
        clear hK K
        try simp only [Act.put, List.setIfInBounds_toArray, List.set_cons_zero, List.set_cons_succ]
        refine wpAnyH_take (i := 4) (oi := { dst := some 25, op := _, type := _, pos := _, after := _, guard := _ }) (v := .int .i64 (G - F)) rfl (by kernel_rfl) (by kernel_rfl) (by kernel_rfl) (fun _ _ _ h => h) (Or.inl ⟨by rfl, by intro w hSw; clear hSw; go_simp; (try with_reducible rfl)⟩) (by assumption) ?_
        try simp only [Act.put, List.setIfInBounds_toArray, List.set_cons_zero, List.set_cons_succ]
        refine wpAnyH_take (i := 7) (oi := { dst := some 28, op := _, type := _, pos := _, after := _, guard := _ }) (v := .int .i64 (G - F - 4 * t)) rfl (by kernel_rfl) (by kernel_rfl) (by kernel_rfl) (fun _ _ _ h => h) (Or.inl ⟨by rfl, by intro w hSw; clear hSw; go_simp; (try with_reducible rfl)⟩) (by assumption) ?_
        try simp only [Act.put, List.setIfInBounds_toArray, List.set_cons_zero, List.set_cons_succ]
        refine wpAnyH_take (i := 8) (oi := { dst := some 6, op := _, type := _, pos := _, after := _, guard := _ }) (v := .int .i64 (G - F - 4 * t)) rfl (by kernel_rfl) (by kernel_rfl) (by kernel_rfl) (fun _ _ _ h => h) (Or.inl ⟨by rfl, by intro w hSw; clear hSw; go_simp; (try with_reducible rfl)⟩) (by assumption) ?_
        try simp only [Act.put, List.setIfInBounds_toArray, List.set_cons_zero, List.set_cons_succ]
        refine wpAnyH_take (i := 9) (oi := { dst := some 7, op := _, type := _, pos := _, after := _, guard := _ }) (v := .bool true) rfl (by kernel_rfl) (by kernel_rfl) (by kernel_rfl) (fun _ _ _ h => h) (Or.inl ⟨by rfl, by intro w hSw; clear hSw; go_simp; (try with_reducible rfl)⟩) (by assumption) ?_
        try simp only [Act.put, List.setIfInBounds_toArray, List.set_cons_zero, List.set_cons_succ]
        refine wpAnyH_done (by kernel_rfl) ?_ _
        clear hHeld
        go_wp2_with fail
        (first | go_ret2 | go_ret3)
        exact ⟨rfl, HX.out⟩
      · have HI := Lib.hid (fun w => l1In_no t 0 2097152 w (by omega))
        have hM : ¬ SbOk f g t := fun h => hT h.2.2
        rw [(sb_no hM).1, (sb_no hM).2]
        clear hM hA hG hT b1 b2 HPF HPG
        go_enter Try.func26, Try.ntmps26
        go_wp2_with (first | ((with_reducible show wpList _ _ _ (Oper.mk _ (Op.load 28 _) _ _ _ _ :: _) _ _); refine loadB (K1) rfl rfl rfl ?_) | ((with_reducible show wpList _ _ _ (Oper.mk _ (Op.load 28 _) _ _ _ (some _) :: _) _ _); refine loadgB (K2) rfl rfl rfl ?_))
        refine (HA.out _).mono ?_
        rintro e w1 ⟨rfl, hb⟩
        have K1 := K1.below hb K1.lt
        have K2 := K2.below hb K2.lt
        have HX : Hid (Below w.heap.size w w1) := HX.out.trans (hb.mono HX.out.size)
        clear hb
        go_wp2_with (first | ((with_reducible show wpList _ _ _ (Oper.mk _ (Op.load 28 _) _ _ _ _ :: _) _ _); refine loadB (K1) rfl rfl rfl ?_) | ((with_reducible show wpList _ _ _ (Oper.mk _ (Op.load 28 _) _ _ _ (some _) :: _) _ _); refine loadgB (K2) rfl rfl rfl ?_))
        refine (HG.out _).mono ?_
        rintro e x4 ⟨rfl, hb⟩
        have K1 := K1.below hb K1.lt
        have K2 := K2.below hb K2.lt
        have HX : Hid (Below w.heap.size w x4) := HX.out.trans (hb.mono HX.out.size)
        clear hb
        go_wp2_with fail
        refine (HI.out _).mono ?_
        rintro e w' ⟨rfl, rfl⟩
        go_wp2_with fail
        (first | go_ret2 | go_ret3)
        exact ⟨rfl, HX.out⟩
    · have HG := Lib.hid (fun w => l2Board_no g w hG)
      have hM : ¬ SbOk f g t := fun h => hG h.2.1
      rw [(sb_no hM).1, (sb_no hM).2]
      clear hM hA hG HPF
      go_enter Try.func26, Try.ntmps26
      go_wp2_with (first | ((with_reducible show wpList _ _ _ (Oper.mk _ (Op.load 28 _) _ _ _ _ :: _) _ _); refine loadB (K1) rfl rfl rfl ?_) | ((with_reducible show wpList _ _ _ (Oper.mk _ (Op.load 28 _) _ _ _ (some _) :: _) _ _); refine loadgB (K2) rfl rfl rfl ?_))
      refine (HA.out _).mono ?_
      rintro e w1 ⟨rfl, hb⟩
      have K1 := K1.below hb K1.lt
      have K2 := K2.below hb K2.lt
      have HX : Hid (Below w.heap.size w w1) := HX.out.trans (hb.mono HX.out.size)
      clear hb
      go_wp2_with (first | ((with_reducible show wpList _ _ _ (Oper.mk _ (Op.load 28 _) _ _ _ _ :: _) _ _); refine loadB (K1) rfl rfl rfl ?_) | ((with_reducible show wpList _ _ _ (Oper.mk _ (Op.load 28 _) _ _ _ (some _) :: _) _ _); refine loadgB (K2) rfl rfl rfl ?_))
      refine (HG.out _).mono ?_
      rintro e x4 ⟨rfl, hb⟩
      have K1 := K1.below hb K1.lt
      have K2 := K2.below hb K2.lt
      have HX : Hid (Below w.heap.size w x4) := HX.out.trans (hb.mono HX.out.size)
      clear hb
      go_wp2_with fail
      (first | go_ret2 | go_ret3)
      exact ⟨rfl, HX.out⟩
  · have HA := Lib.hid (fun w => l2Board_no f w hA)
    have hM : ¬ SbOk f g t := fun h => hA h.1
    rw [(sb_no hM).1, (sb_no hM).2]
    clear hM hA
    go_enter Try.func26, Try.ntmps26
    go_wp2_with (first | ((with_reducible show wpList _ _ _ (Oper.mk _ (Op.load 28 _) _ _ _ _ :: _) _ _); refine loadB (K1) rfl rfl rfl ?_) | ((with_reducible show wpList _ _ _ (Oper.mk _ (Op.load 28 _) _ _ _ (some _) :: _) _ _); refine loadgB (K2) rfl rfl rfl ?_))
    refine (HA.out _).mono ?_
    rintro e w1 ⟨rfl, hb⟩
    have K1 := K1.below hb K1.lt
    have K2 := K2.below hb K2.lt
    have HX : Hid (Below w.heap.size w w1) := HX.out.trans (hb.mono HX.out.size)
    clear hb
    go_wp2_with fail
    (first | go_ret2 | go_ret3)
    exact ⟨rfl, HX.out⟩
set_option maxHeartbeats 4000000 in
set_option maxRecDepth 20000 in
theorem implScoreB_any (f g : Nat → Int) (t : Int) (w : World) :
    Calls Try.prog 27 #[.agg (mk 16 f), .agg (mk 16 g), .int .i64 t] w fun e w' => e = .returned (.tuple #[.int .i64 (sbR f g t), .bool (sbO f g t)]) ∧ Below w.heap.size w w' := by
  have z16 := zero16
  have K1 := (Blk.new w 16 f 28).alloc (.cells (mk 16 g) 28)
  have K2 := Blk.new (w.alloc (.cells (mk 16 f) 28)) 16 g 28
  simp only [World.size_alloc] at K2
  have HX := Lib.hid (((Below.refl w.heap.size w).alloc (Nat.le_refl _) (.cells (mk 16 f) 28)).alloc (by simp) (.cells (mk 16 g) 28))
  have HPF := Lib.hid (fun w => implPot_any f w)
  have HPG := Lib.hid (fun w => implPot_any g w)
  have HW := Lib.hid (fun w => tilePot_any 2 w (by omega) (by omega))
  have hw1 : ((2 : Int) - 1) * worth 2 = 4 := by decide
  rw [hw1] at HW
  clear hw1
  by_cases hA : Vd f
  · rw [potR_yes hA, vdO_yes hA] at HPF
    by_cases hG : Vd g
    · rw [potR_yes hG, vdO_yes hG] at HPG
      have b1 := potF_bd hA 16 (by omega)
      have b2 := potF_bd hG 16 (by omega)
      by_cases hT : 0 ≤ t ∧ t ≤ 2097152
      · have HI := Lib.hid (fun w => isSum_yes t w hT.1 hT.2)
        have hM : SbOk f g t := ⟨hA, hG, hT⟩
        rw [(sb_yes hM).1, (sb_yes hM).2]
        clear hM hA hG
        generalize potF f 16 = F at *
        generalize potF g 16 = G at *
        have e1 : IntKind.i64.wrap (G - F) = G - F := IntWalk.i64_in _ (by omega)
        have e2 : IntKind.i64.wrap (t * 4) = 4 * t := by rw [Int.mul_comm]; exact IntWalk.i64_in _ (by omega)
        have e3 : IntKind.i64.wrap (G - F - 4 * t) = G - F - 4 * t := IntWalk.i64_in _ (by omega)
        clear hT b1 b2
        go_enter Try.func27, Try.ntmps27
        go_wp2_with (first | ((with_reducible show wpList _ _ _ (Oper.mk _ (Op.load 28 _) _ _ _ _ :: _) _ _); refine loadB (K1) rfl rfl rfl ?_) | ((with_reducible show wpList _ _ _ (Oper.mk _ (Op.load 28 _) _ _ _ _ :: _) _ _); refine loadB (K2) rfl rfl rfl ?_))
        refine (HPF.out _).mono ?_
        rintro e w1 ⟨rfl, hb⟩
        have K1 := K1.below hb K1.lt
        have K2 := K2.below hb K2.lt
        have HX : Hid (Below w.heap.size w w1) := HX.out.trans (hb.mono HX.out.size)
        clear hb
        go_wp2_with (first | ((with_reducible show wpList _ _ _ (Oper.mk _ (Op.load 28 _) _ _ _ _ :: _) _ _); refine loadB (K1) rfl rfl rfl ?_) | ((with_reducible show wpList _ _ _ (Oper.mk _ (Op.load 28 _) _ _ _ _ :: _) _ _); refine loadB (K2) rfl rfl rfl ?_))
        refine (HPG.out _).mono ?_
        rintro e w2 ⟨rfl, hb⟩
        have K1 := K1.below hb K1.lt
        have K2 := K2.below hb K2.lt
        have HX : Hid (Below w.heap.size w w2) := HX.out.trans (hb.mono HX.out.size)
        clear hb
        go_wp2_with fail
        refine (HI.out _).mono ?_
        rintro e w' ⟨rfl, rfl⟩
        go_wp2_with fail
        refine (HW.out _).mono ?_
        rintro e w' ⟨rfl, rfl⟩
        go_wp2_with fail
        (first | go_ret2 | go_ret3)
        exact ⟨rfl, HX.out⟩
      · have HI := Lib.hid (fun w => isSum_no t w (by omega))
        have hM : ¬ SbOk f g t := fun h => hT h.2.2
        rw [(sb_no hM).1, (sb_no hM).2]
        clear hM hA hG hT b1 b2
        generalize potF f 16 = F at *
        generalize potF g 16 = G at *
        go_enter Try.func27, Try.ntmps27
        go_wp2_with (first | ((with_reducible show wpList _ _ _ (Oper.mk _ (Op.load 28 _) _ _ _ _ :: _) _ _); refine loadB (K1) rfl rfl rfl ?_) | ((with_reducible show wpList _ _ _ (Oper.mk _ (Op.load 28 _) _ _ _ _ :: _) _ _); refine loadB (K2) rfl rfl rfl ?_))
        refine (HPF.out _).mono ?_
        rintro e w1 ⟨rfl, hb⟩
        have K1 := K1.below hb K1.lt
        have K2 := K2.below hb K2.lt
        have HX : Hid (Below w.heap.size w w1) := HX.out.trans (hb.mono HX.out.size)
        clear hb
        go_wp2_with (first | ((with_reducible show wpList _ _ _ (Oper.mk _ (Op.load 28 _) _ _ _ _ :: _) _ _); refine loadB (K1) rfl rfl rfl ?_) | ((with_reducible show wpList _ _ _ (Oper.mk _ (Op.load 28 _) _ _ _ _ :: _) _ _); refine loadB (K2) rfl rfl rfl ?_))
        refine (HPG.out _).mono ?_
        rintro e w2 ⟨rfl, hb⟩
        have K1 := K1.below hb K1.lt
        have K2 := K2.below hb K2.lt
        have HX : Hid (Below w.heap.size w w2) := HX.out.trans (hb.mono HX.out.size)
        clear hb
        go_wp2_with fail
        refine (HI.out _).mono ?_
        rintro e w' ⟨rfl, rfl⟩
        go_wp2_with fail
        (first | go_ret2 | go_ret3)
        exact ⟨rfl, HX.out⟩
    · rw [potR_no hG, vdO_no hG] at HPG
      have hM : ¬ SbOk f g t := fun h => hG h.2.1
      rw [(sb_no hM).1, (sb_no hM).2]
      clear hM hA hG
      generalize potF f 16 = F at *
      go_enter Try.func27, Try.ntmps27
      go_wp2_with (first | ((with_reducible show wpList _ _ _ (Oper.mk _ (Op.load 28 _) _ _ _ _ :: _) _ _); refine loadB (K1) rfl rfl rfl ?_) | ((with_reducible show wpList _ _ _ (Oper.mk _ (Op.load 28 _) _ _ _ _ :: _) _ _); refine loadB (K2) rfl rfl rfl ?_))
      refine (HPF.out _).mono ?_
      rintro e w1 ⟨rfl, hb⟩
      have K1 := K1.below hb K1.lt
      have K2 := K2.below hb K2.lt
      have HX : Hid (Below w.heap.size w w1) := HX.out.trans (hb.mono HX.out.size)
      clear hb
      go_wp2_with (first | ((with_reducible show wpList _ _ _ (Oper.mk _ (Op.load 28 _) _ _ _ _ :: _) _ _); refine loadB (K1) rfl rfl rfl ?_) | ((with_reducible show wpList _ _ _ (Oper.mk _ (Op.load 28 _) _ _ _ _ :: _) _ _); refine loadB (K2) rfl rfl rfl ?_))
      refine (HPG.out _).mono ?_
      rintro e w2 ⟨rfl, hb⟩
      have K1 := K1.below hb K1.lt
      have K2 := K2.below hb K2.lt
      have HX : Hid (Below w.heap.size w w2) := HX.out.trans (hb.mono HX.out.size)
      clear hb
      go_wp2_with fail
      (first | go_ret2 | go_ret3)
      exact ⟨rfl, HX.out⟩
  · rw [potR_no hA, vdO_no hA] at HPF
    have hM : ¬ SbOk f g t := fun h => hA h.1
    rw [(sb_no hM).1, (sb_no hM).2]
    clear hM hA
    generalize potR g = G at *
    generalize vdO g = Y at *
    go_enter Try.func27, Try.ntmps27
    go_wp2_with (first | ((with_reducible show wpList _ _ _ (Oper.mk _ (Op.load 28 _) _ _ _ _ :: _) _ _); refine loadB (K1) rfl rfl rfl ?_) | ((with_reducible show wpList _ _ _ (Oper.mk _ (Op.load 28 _) _ _ _ _ :: _) _ _); refine loadB (K2) rfl rfl rfl ?_))
    refine (HPF.out _).mono ?_
    rintro e w1 ⟨rfl, hb⟩
    have K1 := K1.below hb K1.lt
    have K2 := K2.below hb K2.lt
    have HX : Hid (Below w.heap.size w w1) := HX.out.trans (hb.mono HX.out.size)
    clear hb
    go_wp2_with (first | ((with_reducible show wpList _ _ _ (Oper.mk _ (Op.load 28 _) _ _ _ _ :: _) _ _); refine loadB (K1) rfl rfl rfl ?_) | ((with_reducible show wpList _ _ _ (Oper.mk _ (Op.load 28 _) _ _ _ _ :: _) _ _); refine loadB (K2) rfl rfl rfl ?_))
    refine (HPG.out _).mono ?_
    rintro e w2 ⟨rfl, hb⟩
    have K1 := K1.below hb K1.lt
    have K2 := K2.below hb K2.lt
    have HX : Hid (Below w.heap.size w w2) := HX.out.trans (hb.mono HX.out.size)
    clear hb
    go_wp2_with fail
    (first | go_ret2 | go_ret3)
    exact ⟨rfl, HX.out⟩
end Go.Proofs.Ytmcmpedmgibmkaa
