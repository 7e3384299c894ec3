/-
  The contract of BoardsBefore in the reference, for every board and every direction.
-/
import Derived.Test.YtphkidkkcknnmaaSpecSorted
import Derived.Test.YtphkidkkcknnmaaBackA
namespace Go.Proofs.Ytphkidkkcknnmaa
open Go.RowKit Plain
attribute [local go_sem] store_new
set_option linter.unusedVariables false
set_option linter.unusedSimpArgs false

set_option maxHeartbeats 2000000 in
set_option maxRecDepth 20000 in
theorem specBB_any (f : Nat → Int) (d : Int) (w : World) :
    Calls Try.prog 38 #[.agg (mk 16 f), .int .i64 d] w fun e w' => ∃ g cap, e = .returned (.tuple #[.slice (some ⟨g, 0, none⟩) (bbR f d).length cap, .bool (bbO f d)]) ∧
      OwnsL 28 16 w' w.heap.size (.slice (some ⟨g, 0, none⟩) (bbR f d).length cap) (bbR f d) ∧ Below w.heap.size w w' := by
  have K1 := Blk.new w 16 f 28
  have HB := Lib.hid ((Below.refl w.heap.size w).alloc (Nat.le_refl _) (.cells (mk 16 f) 28))
  by_cases hV : Vd f
  · by_cases hd : 0 ≤ d ∧ d ≤ 3
    · obtain ⟨k, rfl⟩ := Int.eq_ofNat_of_zero_le hd.1
      have HV := Lib.hid hV
      have HK : Hid (k < 4) := by show _ < _; omega
      have d0 : (0 : Int) ≤ (k : Int) := by omega
      have d3 : (k : Int) ≤ 3 := by omega
      have hcb : cbR f (k : Int) = cntB f k := cbR_nat hV HK.out
      by_cases h0 : cntB f k ≤ 300
      · have hok : BbOk f (k : Int) := ⟨⟨hV, hd⟩, by rw [hcb]; exact h0⟩
        rw [(bb_yes hok).1, (bb_yes hok).2, Int.toNat_natCast]
        have HCP : Hid ((spS f k 4).length ≤ 50625) := by show _ ≤ _; rw [spS_len]; exact cntP_bd f k (Nat.le_refl 4)
        have hn3 : ¬ (300 < cntB f k) := by omega
        clear hcb h0 hV hd hok
        go_enter Try.func38, Try.ntmps38
        go_wp2_with ((with_reducible show wpList _ _ _ (Oper.mk _ (Op.load 28 _) _ _ _ _ :: _) _ _); refine loadB (K1) rfl rfl rfl ?_)
        refine (l2Board_yes _ _ HV.out).mono ?_
        rintro e w1 ⟨rfl, hb⟩
        have K1 := K1.below hb K1.lt
        have HB : Hid (Below w.heap.size w w1) := HB.out.trans (hb.mono HB.out.size)
        clear hb
        go_wp2_with fail
        refine (l2Side_yes _ _ d0 d3).mono ?_
        rintro e w' ⟨rfl, rfl⟩
        go_wp2_with ((with_reducible show wpList _ _ _ (Oper.mk _ (Op.load 28 _) _ _ _ (some _) :: _) _ _); refine loadgB (K1) rfl rfl rfl ?_)
        refine (l6Count_any f k _ HV.out HK.out).mono ?_
        rintro e w2 ⟨rfl, hb⟩
        have K1 := K1.below hb K1.lt
        have HB : Hid (Below w.heap.size w w2) := HB.out.trans (hb.mono HB.out.size)
        clear hb
        generalize cntB f k = cc at *
        go_wp2_with fail
        refine wp_region_held_drew (S := fun W => Blk W w.heap.size 16 f 28) (by kernel_rfl) (K1.drew) (fun hHeld => ?_)
        have K1 : Blk w2.drew w.heap.size 16 f 28 := K1.drew
        have HB : Hid (Below w.heap.size w w2.drew) := HB.out.drew
        generalize w2.drew = x0 at *
        refine wpAnyH_take (i := 0) (oi := { dst := some 21, op := _, type := _, pos := _, after := _, guard := _ }) (v := .agg (mk 16 f)) rfl (by kernel_rfl) (by kernel_rfl) (by kernel_rfl) (fun _ _ _ h => h) (Or.inl ⟨by rfl, fun _ q => execB q rfl rfl⟩) (by assumption) ?_
        try simp only [Act.put, List.setIfInBounds_toArray, List.set_cons_zero, List.set_cons_succ]
        refine wpAnyH_take (i := 1) (oi := { dst := some 22, op := _, type := _, pos := _, after := _, guard := _ }) (v := .int .i64 (k : Int)) rfl (by kernel_rfl) (by kernel_rfl) (by kernel_rfl) (fun _ _ _ h => h) (Or.inl ⟨by rfl, by intro w hSw; clear hSw; go_simp; (try with_reducible rfl)⟩) (by assumption) ?_
        try simp only [Act.put, List.setIfInBounds_toArray, List.set_cons_zero, List.set_cons_succ]
        refine wpAnyH_take (i := 3) (oi := { dst := some 24, op := _, type := _, pos := _, after := _, guard := _ }) (v := .agg (mk 16 f)) rfl (by kernel_rfl) (by kernel_rfl) (by kernel_rfl) (fun _ _ _ h => h) (Or.inl ⟨by rfl, fun _ q => execB q rfl rfl⟩) (by assumption) ?_
        try simp only [Act.put, List.setIfInBounds_toArray, List.set_cons_zero, List.set_cons_succ]
        refine wpAnyH_ready (rs := [2]) (by kernel_rfl) (by simp) ?_
        refine AllReadyH.cons rfl (fun K hK => ?_) AllReadyH.nil
        go_simp
        refine (l6All_any f k _ HV.out HK.out).mono ?_
        rintro e x1 ⟨gs, cs, rfl, ho, hb⟩
        have K1 := K1.below hb K1.lt
        have HB : Hid (Below w.heap.size w x1) := HB.out.trans (hb.mono HB.out.size)
        obtain ⟨_, _, e1, _, CS⟩ := KRow.of_list (spS_all f k 4) ho
        cases e1
        clear hb ho hHeld
        go_wp2_with fail
        refine hK.out _ _ K1 (fun hHeld => ?_)
        clear hK K
        try simp only [Act.put, List.setIfInBounds_toArray, List.set_cons_zero, List.set_cons_succ]
        refine wpAnyH_ready (rs := [4]) (by kernel_rfl) (by simp) ?_
        refine AllReadyH.cons rfl (fun K hK => ?_) AllReadyH.nil
        go_simp
        refine (l6Sorted_any gs cs (spS f k 4) f _ (spS_all f k 4) (spS_nodup HV.out k) HCP.out CS).mono ?_
        rintro e x2 ⟨g, cap, rfl, ho, hb⟩
        have HO := Lib.hid (OwnsL.wide ho HB.out.size)
        have K1 := K1.below hb K1.lt
        have HB : Hid (Below w.heap.size w x2) := HB.out.trans (hb.mono HB.out.size)
        clear hb ho hHeld CS
        go_wp2_with fail
        refine hK.out _ _ K1 (fun hHeld => ?_)
        clear hK K
        try simp only [Act.put, List.setIfInBounds_toArray, List.set_cons_zero, List.set_cons_succ]
        refine wpAnyH_take (i := 5) (oi := { dst := some 4, op := _, type := _, pos := _, after := _, guard := _ }) (v := .slice (some ⟨g, 0, none⟩) (insS (spS f k 4) (cl 16 f) (spS f k 4).length).length cap) rfl (by kernel_rfl) (by kernel_rfl) (by kernel_rfl) (fun _ _ _ h => h) (Or.inl ⟨by rfl, by intro w hSw; clear hSw; go_simp; (try with_reducible rfl)⟩) (by assumption) ?_
        try simp only [Act.put, List.setIfInBounds_toArray, List.set_cons_zero, List.set_cons_succ]
        refine wpAnyH_take (i := 6) (oi := { dst := some 5, op := _, type := _, pos := _, after := _, guard := _ }) (v := .bool true) rfl (by kernel_rfl) (by kernel_rfl) (by kernel_rfl) (fun _ _ _ h => h) (Or.inl ⟨by rfl, by intro w hSw; clear hSw; go_simp; (try with_reducible rfl)⟩) (by assumption) ?_
        try simp only [Act.put, List.setIfInBounds_toArray, List.set_cons_zero, List.set_cons_succ]
        refine wpAnyH_done (by kernel_rfl) ?_ _
        clear hHeld
        go_wp2_with fail
        go_ret2
        exact ⟨g, cap, rfl, HO.out, HB.out⟩
      · have hno : ¬ BbOk f (k : Int) := fun h => h0 (by rw [← hcb]; exact h.2)
        rw [(bb_no hno).1, (bb_no hno).2]
        have hn3 : 300 < cntB f k := by omega
        clear hcb h0 hV hd hno
        go_enter Try.func38, Try.ntmps38
        go_wp2_with ((with_reducible show wpList _ _ _ (Oper.mk _ (Op.load 28 _) _ _ _ _ :: _) _ _); refine loadB (K1) rfl rfl rfl ?_)
        refine (l2Board_yes _ _ HV.out).mono ?_
        rintro e w1 ⟨rfl, hb⟩
        have K1 := K1.below hb K1.lt
        have HB : Hid (Below w.heap.size w w1) := HB.out.trans (hb.mono HB.out.size)
        clear hb
        go_wp2_with fail
        refine (l2Side_yes _ _ d0 d3).mono ?_
        rintro e w' ⟨rfl, rfl⟩
        go_wp2_with ((with_reducible show wpList _ _ _ (Oper.mk _ (Op.load 28 _) _ _ _ (some _) :: _) _ _); refine loadgB (K1) rfl rfl rfl ?_)
        refine (l6Count_any f k _ HV.out HK.out).mono ?_
        rintro e w2 ⟨rfl, hb⟩
        have HB : Hid (Below w.heap.size w w2) := HB.out.trans (hb.mono HB.out.size)
        clear hb
        generalize cntB f k = cc at *
        have HO : Hid (OwnsL 28 16 (w2.alloc (.cells #[] 28)) w.heap.size (.slice (some ⟨w2.heap.size, 0, none⟩) 0 0) []) := OwnsL.made w2 HB.out.size
        have HB2 : Hid (Below w.heap.size w (w2.alloc (.cells #[] 28))) := HB.out.alloc HB.out.size _
        go_wp2_with fail
        go_ret2
        exact ⟨_, _, rfl, HO.out, HB2.out⟩
    · have hno : ¬ BbOk f d := fun h => hd h.1.2
      rw [(bb_no hno).1, (bb_no hno).2]
      have HV := Lib.hid hV
      have HD := Lib.hid (show d < 0 ∨ 3 < d by omega)
      clear hV hd hno
      go_enter Try.func38, Try.ntmps38
      go_wp2_with ((with_reducible show wpList _ _ _ (Oper.mk _ (Op.load 28 _) _ _ _ _ :: _) _ _); refine loadB (K1) rfl rfl rfl ?_)
      refine (l2Board_yes _ _ HV.out).mono ?_
      rintro e w1 ⟨rfl, hb⟩
      have K1 := K1.below hb K1.lt
      have HB : Hid (Below w.heap.size w w1) := HB.out.trans (hb.mono HB.out.size)
      clear hb
      go_wp2_with fail
      refine (l2Side_no _ _ HD.out).mono ?_
      rintro e w' ⟨rfl, rfl⟩
      have HO : Hid (OwnsL 28 16 (w1.alloc (.cells #[] 28)) w.heap.size (.slice (some ⟨w1.heap.size, 0, none⟩) 0 0) []) := OwnsL.made w1 HB.out.size
      have HB2 : Hid (Below w.heap.size w (w1.alloc (.cells #[] 28))) := HB.out.alloc HB.out.size _
      go_wp2_with fail
      go_ret2
      exact ⟨_, _, rfl, HO.out, HB2.out⟩
  · have hno : ¬ BbOk f d := fun h => hV h.1.1
    rw [(bb_no hno).1, (bb_no hno).2]
    clear hno
    go_enter Try.func38, Try.ntmps38
    go_wp2_with ((with_reducible show wpList _ _ _ (Oper.mk _ (Op.load 28 _) _ _ _ _ :: _) _ _); refine loadB (K1) rfl rfl rfl ?_)
    refine (l2Board_no _ _ hV).mono ?_
    rintro e w1 ⟨rfl, hb⟩
    have HB : Hid (Below w.heap.size w w1) := HB.out.trans (hb.mono HB.out.size)
    clear hb
    have HO : Hid (OwnsL 28 16 (w1.alloc (.cells #[] 28)) w.heap.size (.slice (some ⟨w1.heap.size, 0, none⟩) 0 0) []) := OwnsL.made w1 HB.out.size
    have HB2 : Hid (Below w.heap.size w (w1.alloc (.cells #[] 28))) := HB.out.alloc HB.out.size _
    go_wp2_with fail
    go_ret2
    exact ⟨_, _, rfl, HO.out, HB2.out⟩
end Go.Proofs.Ytphkidkkcknnmaa
