/-
  The contracts of the reference's l5All, StepsOf, CountNext and IsTrapped.
-/
import Derived.Test.YtknjmkapabjolaaSpecSteps
import Derived.Test.YtknjmkapabjolaaSpecDo
import Derived.Test.YtknjmkapabjolaaSpecAdd
import Derived.Test.YtknjmkapabjolaaOver
import Derived.Test.YtknjmkapabjolaaNextPlain
namespace Go.Proofs.Ytknjmkapabjolaa
open Go.RowKit Plain
attribute [local go_sem] store_new
set_option linter.unusedVariables false
set_option linter.unusedSimpArgs false

theorem app_flat {m : Nat} {L M : List (List Int)} (h : AllL m M) : L.flatten.map (Value.int .i64) ++ (mk (M.length * m) fun j => flatF M (0 + j)).toList = (L ++ M).flatten.map (Value.int .i64) := by
  rw [List.flatten_append, List.map_append, flat_mk h]
  congr 2
  exact mk_congr fun j _ => by rw [Nat.zero_add]
theorem app_walk {m : Nat} {L M : List (List Int)} (h : AllL m M) : (List.map (List.map (Value.int .i64)) L).flatten ++ (mk (M.length * m) fun j => flatF M j).toList = (L ++ M).flatten.map (Value.int .i64) := by
  rw [List.flatten_append, List.map_append, flat_mk h, List.map_flatten]
theorem step_all (f : Nat → Int) (d : Nat) (hd : d < 4) : AllL 4 (stepL f d) := fun l hl => (step_fn hd hl).1
theorem all_all (f : Nat → Int) {k : Nat} (hk : k ≤ 4) : AllL 4 (allL f k) := fun l hl => (all_fn hk hl).1
set_option maxHeartbeats 1000000 in
theorem l5All_any (f : Nat → Int) (w : World) (hV : Vd f) :
    Calls Try.prog 70 #[.agg (mk 16 f)] w fun e w' => ∃ g cap, e = .returned (.slice (some ⟨g, 0, none⟩) (allL f 4).length cap) ∧
      OwnsL 33 4 w' w.heap.size (.slice (some ⟨g, 0, none⟩) (allL f 4).length cap) (allL f 4) ∧ Below w.heap.size w w' := by
  obtain ⟨i0, hi, hz0, hz1, hz2⟩ := info_parts infoT
  have K1 := (Blk.new w 16 f 29).alloc (.cells #[] 33)
  have HB := Lib.hid (((Below.refl w.heap.size w).alloc (Nat.le_refl _) (.cells (mk 16 f) 29)).alloc (by simp) (.cells #[] 33))
  have HO : Hid (OwnsL 33 4 ((w.alloc (.cells (mk 16 f) 29)).alloc (.cells #[] 33)) w.heap.size (.slice (some ⟨w.heap.size + 1, 0, none⟩) 0 0) []) := by
    have := OwnsL.made (t := 33) (m := 4) (b := w.heap.size) (w.alloc (.cells (mk 16 f) 29)) (by simp)
    simp only [World.size_alloc] at this
    exact this
  have HV := Lib.hid hV
  clear hV
  go_enter Try.func70, Try.ntmps70
  go_wp2_with fail
  go_loopg [3, 4] 4 (fun g s3 s4 wr => ∃ (d : Nat) (v : Value), d + g = 4 ∧ s4 = .int .i64 d ∧ v = s3 ∧ (∃ gg cap, v = .slice (some ⟨gg, 0, none⟩) (allL f d).length cap) ∧ Hid (OwnsL 33 4 wr w.heap.size v (allL f d)) ∧ Blk wr w.heap.size 16 f 29 ∧ Hid (Below w.heap.size w wr))
  case atStart => exact ⟨0, _, by omega, rfl, rfl, ⟨_, _, rfl⟩, HO, K1, HB⟩
  case round =>
    obtain ⟨d, v, hdg, rfl, rfl, ⟨gg, cap, hv⟩, HO, K1, HB⟩ := hrel
    subst hv
    cases gk with
    | zero =>
      have hr : ¬ ((d : Int) < 4) := by omega
      obtain rfl : d = 4 := by omega
      clear hdg
      go_wp2_with fail
      go_ret
      exact ⟨gg, cap, rfl, HO.out, HB.out⟩
    | succ g =>
      have hr : (d : Int) < 4 := by omega
      have hd4 : d < 4 := by omega
      go_wp2_with ((with_reducible show wpList _ _ _ (Oper.mk _ (Op.load 29 _) _ _ _ _ :: _) _ _); refine loadB (K1) rfl rfl rfl ?_)
      refine (l5Steps_any f d _ HV.out hd4).mono ?_
      rintro e w2 ⟨gs, cs, rfl, hs, hb⟩
      have K1 := K1.below hb K1.lt
      have HO : Hid (OwnsL 33 4 w2 w.heap.size (.slice (some ⟨gg, 0, none⟩) (allL f d).length cap) (allL f d)) := HO.out.below hb
      have HB : Hid (Below w.heap.size w w2) := HB.out.trans (hb.mono HB.out.size)
      obtain ⟨_, _, e1, _, hc⟩ := KRow.of_list (step_all f d hd4) hs
      cases e1
      have HC := Lib.hid hc
      clear hs hb hc
      have l1 := all_le f d
      have l2 := step_le f d
      have HF := Lib.hid (app_walk (L := allL f d) (step_all f d hd4))
      have HL : Hid ((allL f (d + 1)).length = (allL f d).length + (stepL f d).length) := by show _ = _; simp [allL]
      have hsz := HB.out.size
      go_wp2_with (at_builtin; refine wpl_app rfl _ _ 37 rfl w.heap.size 33 i0 _ 4 32 Try.underlying37 hi hz0 hz1 hz2 rfl (by decide) rfl HO.out gs 0 (stepL f d).length cs (flatF (stepL f d)) ((stepL f d).length * 4) rfl HC.out (by omega) (by unfold maxLen; omega) (by omega) (by omega) ?_)
      intro v' w3 R3 hbl hgr hloc
      have HO3 : Hid (OwnsL 33 4 w3 w.heap.size v' (allL f (d + 1))) := by
        show w3.ownsRow _ _ _ _ _ _
        rw [HL.out]
        have := HF.out
        rw [this] at R3
        exact R3
      have HVv : Hid (∃ gg cap, v' = .slice (some ⟨gg, 0, none⟩) (allL f (d + 1)).length cap) := own_slice HO3.out hloc
      have K1 := K1.grown hgr (fun e => own_ne_blk HO.out K1 (by decide) e.symm)
      have HB : Hid (Below w.heap.size w w3) := HB.out.trans hbl
      clear R3 hbl hgr hloc HO
      go_wp2_with fail
      go_roundg g
      case rel => exact ⟨d + 1, _, by omega, by go_num, rfl, HVv.out, HO3, K1, HB⟩
      case measure => omega

set_option maxHeartbeats 400000 in
theorem specSteps_any (f : Nat → Int) (d : Int) (w : World) :
    Calls Try.prog 18 #[.agg (mk 16 f), .int .i64 d] w fun e w' => ∃ g cap, e = .returned (.tuple #[.slice (some ⟨g, 0, none⟩) (stpR f d).length cap, .bool (slideRO f d)]) ∧
      OwnsL 33 4 w' w.heap.size (.slice (some ⟨g, 0, none⟩) (stpR f d).length cap) (stpR f d) ∧ Below w.heap.size w w' := by
  have K1 := Blk.new w 16 f 29
  have HB := Lib.hid ((Below.refl w.heap.size w).alloc (Nat.le_refl _) (.cells (mk 16 f) 29))
  by_cases hV : Vd f
  · by_cases hd : 0 ≤ d ∧ d ≤ 3
    · rw [stpR_yes ⟨hV, hd⟩, (slide_yes ⟨hV, hd⟩).1]
      have HV := Lib.hid hV
      clear hV
      obtain ⟨k, rfl⟩ := Int.eq_ofNat_of_zero_le hd.1
      have hk : k < 4 := by omega
      have d0 : (0 : Int) ≤ (k : Int) := by omega
      have d3 : (k : Int) ≤ 3 := by omega
      clear hd
      rw [Int.toNat_natCast]
      go_enter Try.func18, Try.ntmps18
      go_wp2_with ((with_reducible show wpList _ _ _ (Oper.mk _ (Op.load 29 _) _ _ _ _ :: _) _ _); refine loadB (K1) rfl rfl rfl ?_)
      refine (l2Board_yes _ _ HV.out).mono ?_
      rintro e w1 ⟨rfl, hb⟩
      have K1 := K1.below hb K1.lt
      have HB : Hid (Below w.heap.size w w1) := HB.out.trans (hb.mono HB.out.size)
      clear hb
      go_wp2_with fail
      refine (l2Side_yes _ _ d0 d3).mono ?_
      rintro e w' ⟨rfl, rfl⟩
      go_wp2_with ((with_reducible show wpList _ _ _ (Oper.mk _ (Op.load 29 _) _ _ _ _ :: _) _ _); refine loadB (K1) rfl rfl rfl ?_)
      refine (l5Steps_any f k _ HV.out hk).mono ?_
      rintro e w2 ⟨g, cap, rfl, ho, hb⟩
      have HO := Lib.hid ho
      have HB : Hid (Below w.heap.size w w2) := HB.out.trans (hb.mono HB.out.size)
      have hsz := HB.out.size
      have HW : Hid (w.heap.size ≤ w1.heap.size) := by have := hb.size; show _ ≤ _; have := K1.lt; omega
      clear hb ho
      go_wp2_with fail
      go_ret2
      exact ⟨g, cap, rfl, HO.out.wide HW.out, HB.out⟩
    · rw [stpR_no (fun h => hd h.2), (slide_no (fun h => hd h.2)).1]
      have HV := Lib.hid hV
      have HD := Lib.hid (show d < 0 ∨ 3 < d by omega)
      clear hV hd
      go_enter Try.func18, Try.ntmps18
      go_wp2_with ((with_reducible show wpList _ _ _ (Oper.mk _ (Op.load 29 _) _ _ _ _ :: _) _ _); refine loadB (K1) rfl rfl rfl ?_)
      refine (l2Board_yes _ _ HV.out).mono ?_
      rintro e w1 ⟨rfl, hb⟩
      have HB : Hid (Below w.heap.size w w1) := HB.out.trans (hb.mono HB.out.size)
      clear hb
      go_wp2_with fail
      refine (l2Side_no _ _ HD.out).mono ?_
      rintro e w' ⟨rfl, rfl⟩
      have HO := Lib.hid (OwnsL.made (t := 33) (m := 4) (b := w.heap.size) w1 HB.out.size)
      have HB : Hid (Below w.heap.size w (w1.alloc (.cells #[] 33))) := HB.out.alloc HB.out.size _
      go_wp2_with fail
      go_ret2
      exact ⟨_, _, rfl, HO.out, HB.out⟩
  · rw [stpR_no (fun h => hV h.1), (slide_no (fun h => hV h.1)).1]
    have HV := Lib.hid hV
    clear hV
    go_enter Try.func18, Try.ntmps18
    go_wp2_with ((with_reducible show wpList _ _ _ (Oper.mk _ (Op.load 29 _) _ _ _ _ :: _) _ _); refine loadB (K1) rfl rfl rfl ?_)
    refine (l2Board_no _ _ HV.out).mono ?_
    rintro e w1 ⟨rfl, hb⟩
    have HB : Hid (Below w.heap.size w w1) := HB.out.trans (hb.mono HB.out.size)
    clear hb
    have HO := Lib.hid (OwnsL.made (t := 33) (m := 4) (b := w.heap.size) w1 HB.out.size)
    have HB : Hid (Below w.heap.size w (w1.alloc (.cells #[] 33))) := HB.out.alloc HB.out.size _
    go_wp2_with fail
    go_ret2
    exact ⟨_, _, rfl, HO.out, HB.out⟩

set_option maxHeartbeats 4000000 in
set_option maxRecDepth 20000 in
theorem specNextC_any (f : Nat → Int) (w : World) :
    Calls Try.prog 33 #[.agg (mk 16 f)] w fun e w' => e = .returned (.tuple #[.int .i64 (cnxR f), .bool (vdO f)]) ∧ Below w.heap.size w w' := by
  have K1 := Blk.new w 16 f 29
  have HB := Lib.hid ((Below.refl w.heap.size w).alloc (Nat.le_refl _) (.cells (mk 16 f) 29))
  by_cases hV : Vd f
  · rw [cnxR_yes hV, vdO_yes hV]
    have HV := Lib.hid hV
    clear hV
    go_enter Try.func33, Try.ntmps33
    go_wp2_with ((with_reducible show wpList _ _ _ (Oper.mk _ (Op.load 29 _) _ _ _ _ :: _) _ _); refine loadB (K1) rfl rfl rfl ?_)
    refine (l2Board_yes _ _ HV.out).mono ?_
    rintro e w1 ⟨rfl, hb⟩
    have K1 := (K1.below hb K1.lt).alloc (.cells #[] 29)
    have HB := HB.out.trans (hb.mono HB.out.size)
    have HU := Lib.hid (OwnsL.made (t := 29) (m := 16) (b := w.heap.size) w1 HB.size)
    have HB : Hid (Below w.heap.size w (w1.alloc (.cells #[] 29))) := HB.alloc HB.size _
    clear hb
    go_wp2_with ((with_reducible show wpList _ _ _ (Oper.mk _ (Op.load 29 _) _ _ _ _ :: _) _ _); refine loadB (K1) rfl rfl rfl ?_)
    refine (l5All_any f _ HV.out).mono ?_
    rintro e w2 ⟨ga, ca, rfl, ho, hb⟩
    have K1 := K1.below hb K1.lt
    have HU : Hid (OwnsL 29 16 w2 w.heap.size (.slice (some ⟨w1.heap.size, 0, none⟩) 0 0) []) := HU.out.below hb
    have HB : Hid (Below w.heap.size w w2) := HB.out.trans (hb.mono HB.out.size)
    obtain ⟨_, _, e1, _, hc⟩ := KRow.of_list (all_all f (Nat.le_refl 4)) ho
    cases e1
    have CM : CAt w2 ga ((allL f 4).length * 4) (flatF (allL f 4)) := hc
    have hle := all_le f 4
    have HGE := Lib.hid (fun k (hk : k < (allL f 4).length) => (show ∃ l, (allL f 4)[k]? = some l from ⟨(allL f 4)[k], List.getElem?_eq_getElem hk⟩))
    have HFN := Lib.hid (fun k l (e : (allL f 4)[k]? = some l) => next_at (all_all f (Nat.le_refl 4)) e)
    clear hb ho hc
    generalize hLL : allL f 4 = L at *
    generalize hN : L.length = n at *
    generalize hH : flatF L = h at *
    go_wp2_with fail
    go_loopg [4, 6] n (fun gk s4 s6 wr => ∃ (k : Nat) (u : Value), k + gk = n ∧ s6 = .int .i64 k ∧ u = s4 ∧ (∃ gu cu, u = .slice (some ⟨gu, 0, none⟩) (nextI f L k).length cu) ∧ Hid (OwnsL 29 16 wr w.heap.size u (nextI f L k)) ∧ CAt wr ga (n * 4) h ∧ Blk wr w.heap.size 16 f 29 ∧ Hid (Below w.heap.size w wr))
    case atStart => exact ⟨0, _, by omega, rfl, rfl, ⟨_, _, rfl⟩, HU, CM, K1, HB⟩
    case round =>
      obtain ⟨k, u, hkg, rfl, rfl, ⟨gu, cu, hu⟩, HU, CM, K1, HB⟩ := hrel
      subst hu
      cases gk with
      | zero =>
        have hk : ¬ ((k : Int) < (n : Int)) := by omega
        obtain rfl : k = n := by omega
        clear hkg
        go_wp2_with fail
        go_ret2
        exact ⟨rfl, HB.out⟩
      | succ gk2 =>
        have hk8 : (k : Int) < (n : Int) := by omega
        have hk9 : k < n := by omega
        have hk0 : (0 : Int) ≤ (k : Int) := by omega
        obtain ⟨l, hkl⟩ := HGE.out k hk9
        have HD : Hid (doB f (fun j => h (k * 4 + j)) = doB f (fn l)) := HFN.out k l hkl f
        have HKL := Lib.hid hkl
        clear hkl
        go_wp2_with fail
        refine wp_region_held_drew (S := fun W => Blk W w.heap.size 16 f 29 ∧ CAt W ga (n * 4) h) (by kernel_rfl) (⟨K1.drew, CM.drew⟩) (fun hHeld => ?_)
        have K1 : Blk wr.drew w.heap.size 16 f 29 := K1.drew
        have CM : CAt wr.drew ga (n * 4) h := CM.drew
        have BX : Hid (Below wr.heap.size wr wr.drew) := (Below.refl _ wr).drew
        generalize wr.drew = x0 at *
        refine wpAnyH_take (i := 0) (oi := { dst := some 23, op := _, type := _, pos := _, after := _, guard := _ }) (v := .agg (mk 16 f)) rfl (by kernel_rfl) (by kernel_rfl) (by kernel_rfl) (fun _ _ _ h => h) (Or.inl ⟨by rfl, fun _ q => execB q.1 rfl rfl⟩) (by assumption) ?_
        try simp only [Act.put, List.setIfInBounds_toArray, List.set_cons_zero, List.set_cons_succ]
        refine wpAnyH_take (i := 1) (oi := { dst := some 24, op := _, type := _, pos := _, after := _, guard := _ }) (v := .slice (some ⟨ga, 0, none⟩) n ca) rfl (by kernel_rfl) (by kernel_rfl) (by kernel_rfl) (fun _ _ _ h => h) (Or.inl ⟨by rfl, by intro w hSw; clear hSw; go_simp; (try with_reducible rfl)⟩) (by assumption) ?_
        try simp only [Act.put, List.setIfInBounds_toArray, List.set_cons_zero, List.set_cons_succ]
        refine wpAnyH_take (i := 2) (oi := { dst := some 25, op := _, type := _, pos := _, after := _, guard := _ }) (v := .int .i64 (k : Int)) rfl (by kernel_rfl) (by kernel_rfl) (by kernel_rfl) (fun _ _ _ h => h) (Or.inl ⟨by rfl, by intro w hSw; clear hSw; go_simp; (try with_reducible rfl)⟩) (by assumption) ?_
        try simp only [Act.put, List.setIfInBounds_toArray, List.set_cons_zero, List.set_cons_succ]
        refine wpAnyH_take (i := 3) (oi := { dst := some 26, op := _, type := _, pos := _, after := _, guard := _ }) (v := .pointer (some ⟨ga, k * 4, none⟩)) rfl (by kernel_rfl) (by kernel_rfl) (by kernel_rfl) (fun _ _ _ h => h) (Or.inl ⟨by rfl, by intro w hSw; clear hSw; go_simp; (try with_reducible rfl)⟩) (by assumption) ?_
        try simp only [Act.put, List.setIfInBounds_toArray, List.set_cons_zero, List.set_cons_succ]
        refine wpAnyH_take (i := 4) (oi := { dst := some 27, op := _, type := _, pos := _, after := _, guard := _ }) (v := .agg (mk 4 fun j => h (k * 4 + j))) rfl (by kernel_rfl) (by kernel_rfl) (by kernel_rfl) (fun _ _ _ h => h) (Or.inl ⟨by rfl, fun _ q => execAT q.2 (by omega) rfl rfl⟩) (by assumption) ?_
        try simp only [Act.put, List.setIfInBounds_toArray, List.set_cons_zero, List.set_cons_succ]
        refine wpAnyH_ready (rs := [5, 10]) (by kernel_rfl) (by simp) ?_
        refine AllReadyH.cons rfl (fun K hK => ?_) ?_
        · go_simp
          refine (l5Do_any f (fun j => h (k * 4 + j)) _ HV.out).mono ?_
          rintro e x1 ⟨rfl, hb⟩
          have CM := CM.below hb
          have K1 := K1.below hb K1.lt
          have BX : Hid (Below wr.heap.size wr x1) := BX.out.trans (hb.mono BX.out.size)
          clear hb hHeld
          go_wp2_with fail
          refine hK.out _ _ ⟨K1, CM⟩ (fun hHeld => ?_)
          clear hK K
          try simp only [Act.put, List.setIfInBounds_toArray, List.set_cons_zero, List.set_cons_succ]
          refine wpAnyH_take (i := 6) (oi := { dst := some 22, op := _, type := _, pos := _, after := _, guard := _ }) (v := .tuple #[.agg (mk 16 (doB f fun j => h (k * 4 + j))), .int .i64 (doS f fun j => h (k * 4 + j)), .bool (doO f fun j => h (k * 4 + j))]) rfl (by kernel_rfl) (by kernel_rfl) (by kernel_rfl) (fun _ _ _ h => h) (Or.inl ⟨by rfl, by intro w hSw; clear hSw; go_simp; (try with_reducible rfl)⟩) (by assumption) ?_
          try simp only [Act.put, List.setIfInBounds_toArray, List.set_cons_zero, List.set_cons_succ]
          refine wpAnyH_take (i := 7) (oi := { dst := some 29, op := _, type := _, pos := _, after := _, guard := _ }) (v := .agg (mk 16 (doB f fun j => h (k * 4 + j)))) rfl (by kernel_rfl) (by kernel_rfl) (by kernel_rfl) (fun _ _ _ h => h) (Or.inl ⟨by rfl, by intro w hSw; clear hSw; go_simp; (try with_reducible rfl)⟩) (by assumption) ?_
          try simp only [Act.put, List.setIfInBounds_toArray, List.set_cons_zero, List.set_cons_succ]
          refine wpAnyH_take (i := 8) (oi := { dst := some 30, op := _, type := _, pos := _, after := _, guard := _ }) (v := .int .i64 (doS f fun j => h (k * 4 + j))) rfl (by kernel_rfl) (by kernel_rfl) (by kernel_rfl) (fun _ _ _ h => h) (Or.inl ⟨by rfl, by intro w hSw; clear hSw; go_simp; (try with_reducible rfl)⟩) (by assumption) ?_
          try simp only [Act.put, List.setIfInBounds_toArray, List.set_cons_zero, List.set_cons_succ]
          refine wpAnyH_take (i := 9) (oi := { dst := some 31, op := _, type := _, pos := _, after := _, guard := _ }) (v := .bool (doO f fun j => h (k * 4 + j))) rfl (by kernel_rfl) (by kernel_rfl) (by kernel_rfl) (fun _ _ _ h => h) (Or.inl ⟨by rfl, by intro w hSw; clear hSw; go_simp; (try with_reducible rfl)⟩) (by assumption) ?_
          try simp only [Act.put, List.setIfInBounds_toArray, List.set_cons_zero, List.set_cons_succ]
          refine wpAnyH_ready (rs := [10]) (by kernel_rfl) (by simp) ?_
          refine AllReadyH.cons rfl (fun K hK => ?_) AllReadyH.nil
          rw [if_pos (by rfl)]
          refine wp_allocX rfl ?_
          have K8 := Blk.new x1 16 (fun _ => 0) 29
          have HB8 : Hid (wr.heap.size ≤ x1.heap.size) := BX.out.size
          have HB9 : Hid (w.heap.size < x1.heap.size ∧ ga < x1.heap.size) := ⟨K1.lt, CM.1⟩
          have K1 := K1.alloc (.cells (mk 16 fun _ => 0) 29)
          have CM := CM.alloc (.cells (mk 16 fun _ => 0) 29)
          have BX : Hid (Below wr.heap.size wr (x1.alloc (.cells (mk 16 fun _ => 0) 29))) := BX.out.alloc BX.out.size _
          clear hHeld
          generalize x1.alloc (.cells (mk 16 fun _ => 0) 29) = x2 at *
          generalize x1.heap.size = b8 at *
          refine hK.out _ _ ⟨K1, CM⟩ (fun hHeld => ?_)
          clear hK K
          try simp only [Act.put, List.setIfInBounds_toArray, List.set_cons_zero, List.set_cons_succ]
          refine wpAnyH_ready (rs := [11]) (by kernel_rfl) (by simp) ?_
          refine AllReadyH.cons rfl (fun K hK => ?_) AllReadyH.nil
          have st1 := run_store_blk (P := Try.prog) (g := doB f fun j => h (k * 4 + j)) K8
          have ms1 : (mk 16 (doB f fun j => h (k * 4 + j))).size = 16 := mk_size 16 _
          go_simp
          clear st1 ms1
          have hgr : x2.grownBy (x2.setRow b8 (mk 16 (doB f fun j => h (k * 4 + j)))) (some b8) := grown_row K8 _
          have K1 := K1.rowOther b8 (mk 16 (doB f fun j => h (k * 4 + j))) (by have := HB9.out.1; omega)
          have CM := CM.grown hgr (fun e => by cases e; exact absurd HB9.out.2 (Nat.lt_irrefl _))
          have BX : Hid (Below wr.heap.size wr (x2.setRow b8 (mk 16 (doB f fun j => h (k * 4 + j))))) := below_setRow BX.out HB8.out _
          have K8 := K8.row 16 (doB f fun j => h (k * 4 + j))
          clear hgr hHeld
          generalize x2.setRow b8 (mk 16 (doB f fun j => h (k * 4 + j))) = x3 at *
          refine hK.out _ _ ⟨K1, CM⟩ (fun hHeld => ?_)
          clear hK K
          try simp only [Act.put, List.setIfInBounds_toArray, List.set_cons_zero, List.set_cons_succ]
          refine wpAnyH_take (i := 12) (oi := { dst := some 8, op := _, type := _, pos := _, after := _, guard := _ }) (v := .int .i64 (doS f fun j => h (k * 4 + j))) rfl (by kernel_rfl) (by kernel_rfl) (by kernel_rfl) (fun _ _ _ h => h) (Or.inl ⟨by rfl, by intro w hSw; clear hSw; go_simp; (try with_reducible rfl)⟩) (by assumption) ?_
          try simp only [Act.put, List.setIfInBounds_toArray, List.set_cons_zero, List.set_cons_succ]
          refine wpAnyH_take (i := 13) (oi := { dst := some 9, op := _, type := _, pos := _, after := _, guard := _ }) (v := .bool (doO f fun j => h (k * 4 + j))) rfl (by kernel_rfl) (by kernel_rfl) (by kernel_rfl) (fun _ _ _ h => h) (Or.inl ⟨by rfl, by intro w hSw; clear hSw; go_simp; (try with_reducible rfl)⟩) (by assumption) ?_
          try simp only [Act.put, List.setIfInBounds_toArray, List.set_cons_zero, List.set_cons_succ]
          refine wpAnyH_done (by kernel_rfl) ?_ _
          clear hHeld
          have HU : Hid (OwnsL 29 16 x3 w.heap.size (.slice (some ⟨gu, 0, none⟩) (nextI f L k).length cu) (nextI f L k)) := own_past HU.out BX.out
          have HB : Hid (Below w.heap.size w x3) := HB.out.trans (BX.out.mono HB.out.size)
          clear BX HB8 HB9
          rw [HD.out] at K8
          go_wp2_with ((with_reducible show wpList _ _ _ (Oper.mk _ (Op.load 29 _) _ _ _ _ :: _) _ _); refine loadB (K8) rfl rfl rfl ?_)
          have hdl := nextI_le f L k
          refine (l3Add_any gu cu w.heap.size (nextI f L k) (doB f (fn l)) _ (nextI_all f L k) (by omega) HU.out).mono ?_
          rintro e w7 ⟨gx, cx, rfl, hox, hb⟩
          rw [← nextI_step HKL.out] at hox ⊢
          have HX : Hid (OwnsL 29 16 w7 w.heap.size (.slice (some ⟨gx, 0, none⟩) (nextI f L (k + 1)).length cx) (nextI f L (k + 1))) := hox
          have CM := CM.below hb
          have K1 := K1.below hb K1.lt
          have HB : Hid (Below w.heap.size w w7) := HB.out.trans (hb.mono HB.out.size)
          clear hb hox HU K8
          go_wp2_with fail
          go_roundg gk2
          case rel => exact ⟨k + 1, _, by omega, by go_num, rfl, ⟨gx, cx, rfl⟩, HX, CM, K1, HB⟩
          case measure => omega
        refine AllReadyH.cons rfl (fun K hK => ?_) AllReadyH.nil
        rw [if_pos (by rfl)]
        refine wp_allocX rfl ?_
        have K8 := Blk.new x0 16 (fun _ => 0) 29
        have HB8 : Hid (wr.heap.size ≤ x0.heap.size) := BX.out.size
        have HB9 : Hid (w.heap.size < x0.heap.size ∧ ga < x0.heap.size) := ⟨K1.lt, CM.1⟩
        have K1 := K1.alloc (.cells (mk 16 fun _ => 0) 29)
        have CM := CM.alloc (.cells (mk 16 fun _ => 0) 29)
        have BX : Hid (Below wr.heap.size wr (x0.alloc (.cells (mk 16 fun _ => 0) 29))) := BX.out.alloc BX.out.size _
        clear hHeld
        generalize x0.alloc (.cells (mk 16 fun _ => 0) 29) = x1 at *
        generalize x0.heap.size = b8 at *
        refine hK.out _ _ ⟨K1, CM⟩ (fun hHeld => ?_)
        clear hK K
        try simp only [Act.put, List.setIfInBounds_toArray, List.set_cons_zero, List.set_cons_succ]
        refine wpAnyH_ready (rs := [5]) (by kernel_rfl) (by simp) ?_
        refine AllReadyH.cons rfl (fun K hK => ?_) AllReadyH.nil
        go_simp
        refine (l5Do_any f (fun j => h (k * 4 + j)) _ HV.out).mono ?_
        rintro e x2 ⟨rfl, hb⟩
        have CM := CM.below hb
        have K1 := K1.below hb K1.lt
        have BX : Hid (Below wr.heap.size wr x2) := BX.out.trans (hb.mono BX.out.size)
        have K8 := K8.below hb K8.lt
        clear hb hHeld
        go_wp2_with fail
        refine hK.out _ _ ⟨K1, CM⟩ (fun hHeld => ?_)
        clear hK K
        try simp only [Act.put, List.setIfInBounds_toArray, List.set_cons_zero, List.set_cons_succ]
        refine wpAnyH_take (i := 6) (oi := { dst := some 22, op := _, type := _, pos := _, after := _, guard := _ }) (v := .tuple #[.agg (mk 16 (doB f fun j => h (k * 4 + j))), .int .i64 (doS f fun j => h (k * 4 + j)), .bool (doO f fun j => h (k * 4 + j))]) rfl (by kernel_rfl) (by kernel_rfl) (by kernel_rfl) (fun _ _ _ h => h) (Or.inl ⟨by rfl, by intro w hSw; clear hSw; go_simp; (try with_reducible rfl)⟩) (by assumption) ?_
        try simp only [Act.put, List.setIfInBounds_toArray, List.set_cons_zero, List.set_cons_succ]
        refine wpAnyH_take (i := 7) (oi := { dst := some 29, op := _, type := _, pos := _, after := _, guard := _ }) (v := .agg (mk 16 (doB f fun j => h (k * 4 + j)))) rfl (by kernel_rfl) (by kernel_rfl) (by kernel_rfl) (fun _ _ _ h => h) (Or.inl ⟨by rfl, by intro w hSw; clear hSw; go_simp; (try with_reducible rfl)⟩) (by assumption) ?_
        try simp only [Act.put, List.setIfInBounds_toArray, List.set_cons_zero, List.set_cons_succ]
        refine wpAnyH_take (i := 8) (oi := { dst := some 30, op := _, type := _, pos := _, after := _, guard := _ }) (v := .int .i64 (doS f fun j => h (k * 4 + j))) rfl (by kernel_rfl) (by kernel_rfl) (by kernel_rfl) (fun _ _ _ h => h) (Or.inl ⟨by rfl, by intro w hSw; clear hSw; go_simp; (try with_reducible rfl)⟩) (by assumption) ?_
        try simp only [Act.put, List.setIfInBounds_toArray, List.set_cons_zero, List.set_cons_succ]
        refine wpAnyH_take (i := 9) (oi := { dst := some 31, op := _, type := _, pos := _, after := _, guard := _ }) (v := .bool (doO f fun j => h (k * 4 + j))) rfl (by kernel_rfl) (by kernel_rfl) (by kernel_rfl) (fun _ _ _ h => h) (Or.inl ⟨by rfl, by intro w hSw; clear hSw; go_simp; (try with_reducible rfl)⟩) (by assumption) ?_
        try simp only [Act.put, List.setIfInBounds_toArray, List.set_cons_zero, List.set_cons_succ]
        refine wpAnyH_ready (rs := [11]) (by kernel_rfl) (by simp) ?_
        refine AllReadyH.cons rfl (fun K hK => ?_) AllReadyH.nil
        have st1 := run_store_blk (P := Try.prog) (g := doB f fun j => h (k * 4 + j)) K8
        have ms1 : (mk 16 (doB f fun j => h (k * 4 + j))).size = 16 := mk_size 16 _
        go_simp
        clear st1 ms1
        have hgr : x2.grownBy (x2.setRow b8 (mk 16 (doB f fun j => h (k * 4 + j)))) (some b8) := grown_row K8 _
        have K1 := K1.rowOther b8 (mk 16 (doB f fun j => h (k * 4 + j))) (by have := HB9.out.1; omega)
        have CM := CM.grown hgr (fun e => by cases e; exact absurd HB9.out.2 (Nat.lt_irrefl _))
        have BX : Hid (Below wr.heap.size wr (x2.setRow b8 (mk 16 (doB f fun j => h (k * 4 + j))))) := below_setRow BX.out HB8.out _
        have K8 := K8.row 16 (doB f fun j => h (k * 4 + j))
        clear hgr hHeld
        generalize x2.setRow b8 (mk 16 (doB f fun j => h (k * 4 + j))) = x3 at *
        refine hK.out _ _ ⟨K1, CM⟩ (fun hHeld => ?_)
        clear hK K
        try simp only [Act.put, List.setIfInBounds_toArray, List.set_cons_zero, List.set_cons_succ]
        refine wpAnyH_take (i := 12) (oi := { dst := some 8, op := _, type := _, pos := _, after := _, guard := _ }) (v := .int .i64 (doS f fun j => h (k * 4 + j))) rfl (by kernel_rfl) (by kernel_rfl) (by kernel_rfl) (fun _ _ _ h => h) (Or.inl ⟨by rfl, by intro w hSw; clear hSw; go_simp; (try with_reducible rfl)⟩) (by assumption) ?_
        try simp only [Act.put, List.setIfInBounds_toArray, List.set_cons_zero, List.set_cons_succ]
        refine wpAnyH_take (i := 13) (oi := { dst := some 9, op := _, type := _, pos := _, after := _, guard := _ }) (v := .bool (doO f fun j => h (k * 4 + j))) rfl (by kernel_rfl) (by kernel_rfl) (by kernel_rfl) (fun _ _ _ h => h) (Or.inl ⟨by rfl, by intro w hSw; clear hSw; go_simp; (try with_reducible rfl)⟩) (by assumption) ?_
        try simp only [Act.put, List.setIfInBounds_toArray, List.set_cons_zero, List.set_cons_succ]
        refine wpAnyH_done (by kernel_rfl) ?_ _
        clear hHeld
        have HU : Hid (OwnsL 29 16 x3 w.heap.size (.slice (some ⟨gu, 0, none⟩) (nextI f L k).length cu) (nextI f L k)) := own_past HU.out BX.out
        have HB : Hid (Below w.heap.size w x3) := HB.out.trans (BX.out.mono HB.out.size)
        clear BX HB8 HB9
        rw [HD.out] at K8
        go_wp2_with ((with_reducible show wpList _ _ _ (Oper.mk _ (Op.load 29 _) _ _ _ _ :: _) _ _); refine loadB (K8) rfl rfl rfl ?_)
        have hdl := nextI_le f L k
        refine (l3Add_any gu cu w.heap.size (nextI f L k) (doB f (fn l)) _ (nextI_all f L k) (by omega) HU.out).mono ?_
        rintro e w7 ⟨gx, cx, rfl, hox, hb⟩
        rw [← nextI_step HKL.out] at hox ⊢
        have HX : Hid (OwnsL 29 16 w7 w.heap.size (.slice (some ⟨gx, 0, none⟩) (nextI f L (k + 1)).length cx) (nextI f L (k + 1))) := hox
        have CM := CM.below hb
        have K1 := K1.below hb K1.lt
        have HB : Hid (Below w.heap.size w w7) := HB.out.trans (hb.mono HB.out.size)
        clear hb hox HU K8
        go_wp2_with fail
        go_roundg gk2
        case rel => exact ⟨k + 1, _, by omega, by go_num, rfl, ⟨gx, cx, rfl⟩, HX, CM, K1, HB⟩
        case measure => omega
  · rw [cnxR_no hV, vdO_no hV]
    have HV := Lib.hid hV
    clear hV
    go_enter Try.func33, Try.ntmps33
    go_wp2_with ((with_reducible show wpList _ _ _ (Oper.mk _ (Op.load 29 _) _ _ _ _ :: _) _ _); refine loadB (K1) rfl rfl rfl ?_)
    refine (l2Board_no _ _ HV.out).mono ?_
    rintro e w1 ⟨rfl, hb⟩
    have HB : Hid (Below w.heap.size w w1) := HB.out.trans (hb.mono HB.out.size)
    clear hb
    go_wp2_with fail
    go_ret2
    exact ⟨rfl, HB.out⟩

set_option maxHeartbeats 4000000 in
set_option maxRecDepth 20000 in
theorem specTrap_any (f : Nat → Int) (w : World) :
    Calls Try.prog 35 #[.agg (mk 16 f)] w fun e w' => e = .returned (.tuple #[.bool (trapR f), .bool (vdO f)]) ∧ Below w.heap.size w w' := by
  have K1 := Blk.new w 16 f 29
  have HB := Lib.hid ((Below.refl w.heap.size w).alloc (Nat.le_refl _) (.cells (mk 16 f) 29))
  by_cases hV : Vd f
  · rw [vdO_yes hV]
    have HTN := Lib.hid (fun k l (e : (allL f 4)[k]? = some l) h0 => trap_not (f := f) e h0)
    have HTY := Lib.hid (trap_all (f := f) hV)
    have HV := Lib.hid hV
    clear hV
    go_enter Try.func35, Try.ntmps35
    go_wp2_with ((with_reducible show wpList _ _ _ (Oper.mk _ (Op.load 29 _) _ _ _ _ :: _) _ _); refine loadB (K1) rfl rfl rfl ?_)
    refine (l2Board_yes _ _ HV.out).mono ?_
    rintro e w1 ⟨rfl, hb⟩
    have K1 := K1.below hb K1.lt
    have HB : Hid (Below w.heap.size w w1) := HB.out.trans (hb.mono HB.out.size)
    clear hb
    go_wp2_with ((with_reducible show wpList _ _ _ (Oper.mk _ (Op.load 29 _) _ _ _ _ :: _) _ _); refine loadB (K1) rfl rfl rfl ?_)
    refine (l5All_any f _ HV.out).mono ?_
    rintro e w2 ⟨ga, ca, rfl, ho, hb⟩
    have K1 := K1.below hb K1.lt
    have HB : Hid (Below w.heap.size w w2) := HB.out.trans (hb.mono HB.out.size)
    obtain ⟨_, _, e1, _, hc⟩ := KRow.of_list (all_all f (Nat.le_refl 4)) ho
    cases e1
    have CM : CAt w2 ga ((allL f 4).length * 4) (flatF (allL f 4)) := hc
    have hle := all_le f 4
    have HGE := Lib.hid (fun k (hk : k < (allL f 4).length) => (show ∃ l, (allL f 4)[k]? = some l from ⟨(allL f 4)[k], List.getElem?_eq_getElem hk⟩))
    have HFN := Lib.hid (fun k l (e : (allL f 4)[k]? = some l) => next_at (all_all f (Nat.le_refl 4)) e)
    clear hb ho hc
    generalize hLL : allL f 4 = L at *
    generalize hN : L.length = n at *
    generalize hH : flatF L = h at *
    go_wp2_with fail
    go_loopg [5] n (fun gk s5 wr => ∃ (k : Nat), k + gk = n ∧ s5 = .int .i64 k ∧ Hid (∀ j x, j < k → L[j]? = some x → (movL (doB f (fn x)) 4).length = 0) ∧ CAt wr ga (n * 4) h ∧ Blk wr w.heap.size 16 f 29 ∧ Hid (Below w.heap.size w wr))
    case atStart => exact ⟨0, by omega, rfl, fun j x hj => by omega, CM, K1, HB⟩
    case round =>
      obtain ⟨k, hkg, rfl, HP, CM, K1, HB⟩ := hrel
      cases gk with
      | zero =>
        have hk : ¬ ((k : Int) < (n : Int)) := by omega
        obtain rfl : k = n := by omega
        clear hkg
        have HT : Hid (trapR f = decide (0 < k)) := by
          have e := HTY.out (fun j x hx => HP.out j x (by rw [← hN]; exact (List.getElem?_eq_some_iff.1 hx).1) hx)
          show _ = _
          rw [e, Bool.eq_iff_iff, decide_eq_true_iff, decide_eq_true_iff]
          omega
        go_wp2_with fail
        go_ret2
        rw [HT.out]
        exact ⟨rfl, HB.out⟩
      | succ gk2 =>
        have hk8 : (k : Int) < (n : Int) := by omega
        have hk9 : k < n := by omega
        have hk0 : (0 : Int) ≤ (k : Int) := by omega
        obtain ⟨l, hkl⟩ := HGE.out k hk9
        have HD : Hid (doB f (fun j => h (k * 4 + j)) = doB f (fn l)) := HFN.out k l hkl f
        have HKL := Lib.hid hkl
        clear hkl
        go_wp2_with fail
        refine wp_region_held_drew (S := fun W => Blk W w.heap.size 16 f 29 ∧ CAt W ga (n * 4) h) (by kernel_rfl) (⟨K1.drew, CM.drew⟩) (fun hHeld => ?_)
        have K1 : Blk wr.drew w.heap.size 16 f 29 := K1.drew
        have CM : CAt wr.drew ga (n * 4) h := CM.drew
        have BX : Hid (Below wr.heap.size wr wr.drew) := (Below.refl _ wr).drew
        generalize wr.drew = x0 at *
        refine wpAnyH_take (i := 0) (oi := { dst := some 21, op := _, type := _, pos := _, after := _, guard := _ }) (v := .agg (mk 16 f)) rfl (by kernel_rfl) (by kernel_rfl) (by kernel_rfl) (fun _ _ _ h => h) (Or.inl ⟨by rfl, fun _ q => execB q.1 rfl rfl⟩) (by assumption) ?_
        try simp only [Act.put, List.setIfInBounds_toArray, List.set_cons_zero, List.set_cons_succ]
        refine wpAnyH_take (i := 1) (oi := { dst := some 22, op := _, type := _, pos := _, after := _, guard := _ }) (v := .slice (some ⟨ga, 0, none⟩) n ca) rfl (by kernel_rfl) (by kernel_rfl) (by kernel_rfl) (fun _ _ _ h => h) (Or.inl ⟨by rfl, by intro w hSw; clear hSw; go_simp; (try with_reducible rfl)⟩) (by assumption) ?_
        try simp only [Act.put, List.setIfInBounds_toArray, List.set_cons_zero, List.set_cons_succ]
        refine wpAnyH_take (i := 2) (oi := { dst := some 23, op := _, type := _, pos := _, after := _, guard := _ }) (v := .int .i64 (k : Int)) rfl (by kernel_rfl) (by kernel_rfl) (by kernel_rfl) (fun _ _ _ h => h) (Or.inl ⟨by rfl, by intro w hSw; clear hSw; go_simp; (try with_reducible rfl)⟩) (by assumption) ?_
        try simp only [Act.put, List.setIfInBounds_toArray, List.set_cons_zero, List.set_cons_succ]
        refine wpAnyH_take (i := 3) (oi := { dst := some 24, op := _, type := _, pos := _, after := _, guard := _ }) (v := .pointer (some ⟨ga, k * 4, none⟩)) rfl (by kernel_rfl) (by kernel_rfl) (by kernel_rfl) (fun _ _ _ h => h) (Or.inl ⟨by rfl, by intro w hSw; clear hSw; go_simp; (try with_reducible rfl)⟩) (by assumption) ?_
        try simp only [Act.put, List.setIfInBounds_toArray, List.set_cons_zero, List.set_cons_succ]
        refine wpAnyH_take (i := 4) (oi := { dst := some 25, op := _, type := _, pos := _, after := _, guard := _ }) (v := .agg (mk 4 fun j => h (k * 4 + j))) rfl (by kernel_rfl) (by kernel_rfl) (by kernel_rfl) (fun _ _ _ h => h) (Or.inl ⟨by rfl, fun _ q => execAT q.2 (by omega) rfl rfl⟩) (by assumption) ?_
        try simp only [Act.put, List.setIfInBounds_toArray, List.set_cons_zero, List.set_cons_succ]
        refine wpAnyH_ready (rs := [5, 10]) (by kernel_rfl) (by simp) ?_
        refine AllReadyH.cons rfl (fun K hK => ?_) ?_
        · go_simp
          refine (l5Do_any f (fun j => h (k * 4 + j)) _ HV.out).mono ?_
          rintro e x1 ⟨rfl, hb⟩
          have CM := CM.below hb
          have K1 := K1.below hb K1.lt
          have BX : Hid (Below wr.heap.size wr x1) := BX.out.trans (hb.mono BX.out.size)
          clear hb hHeld
          go_wp2_with fail
          refine hK.out _ _ ⟨K1, CM⟩ (fun hHeld => ?_)
          clear hK K
          try simp only [Act.put, List.setIfInBounds_toArray, List.set_cons_zero, List.set_cons_succ]
          refine wpAnyH_take (i := 6) (oi := { dst := some 20, op := _, type := _, pos := _, after := _, guard := _ }) (v := .tuple #[.agg (mk 16 (doB f fun j => h (k * 4 + j))), .int .i64 (doS f fun j => h (k * 4 + j)), .bool (doO f fun j => h (k * 4 + j))]) rfl (by kernel_rfl) (by kernel_rfl) (by kernel_rfl) (fun _ _ _ h => h) (Or.inl ⟨by rfl, by intro w hSw; clear hSw; go_simp; (try with_reducible rfl)⟩) (by assumption) ?_
          try simp only [Act.put, List.setIfInBounds_toArray, List.set_cons_zero, List.set_cons_succ]
          refine wpAnyH_take (i := 7) (oi := { dst := some 27, op := _, type := _, pos := _, after := _, guard := _ }) (v := .agg (mk 16 (doB f fun j => h (k * 4 + j)))) rfl (by kernel_rfl) (by kernel_rfl) (by kernel_rfl) (fun _ _ _ h => h) (Or.inl ⟨by rfl, by intro w hSw; clear hSw; go_simp; (try with_reducible rfl)⟩) (by assumption) ?_
          try simp only [Act.put, List.setIfInBounds_toArray, List.set_cons_zero, List.set_cons_succ]
          refine wpAnyH_take (i := 8) (oi := { dst := some 28, op := _, type := _, pos := _, after := _, guard := _ }) (v := .int .i64 (doS f fun j => h (k * 4 + j))) rfl (by kernel_rfl) (by kernel_rfl) (by kernel_rfl) (fun _ _ _ h => h) (Or.inl ⟨by rfl, by intro w hSw; clear hSw; go_simp; (try with_reducible rfl)⟩) (by assumption) ?_
          try simp only [Act.put, List.setIfInBounds_toArray, List.set_cons_zero, List.set_cons_succ]
          refine wpAnyH_take (i := 9) (oi := { dst := some 29, op := _, type := _, pos := _, after := _, guard := _ }) (v := .bool (doO f fun j => h (k * 4 + j))) rfl (by kernel_rfl) (by kernel_rfl) (by kernel_rfl) (fun _ _ _ h => h) (Or.inl ⟨by rfl, by intro w hSw; clear hSw; go_simp; (try with_reducible rfl)⟩) (by assumption) ?_
          try simp only [Act.put, List.setIfInBounds_toArray, List.set_cons_zero, List.set_cons_succ]
          refine wpAnyH_ready (rs := [10]) (by kernel_rfl) (by simp) ?_
          refine AllReadyH.cons rfl (fun K hK => ?_) AllReadyH.nil
          rw [if_pos (by rfl)]
          refine wp_allocX rfl ?_
          have K8 := Blk.new x1 16 (fun _ => 0) 29
          have HB8 : Hid (wr.heap.size ≤ x1.heap.size) := BX.out.size
          have HB9 : Hid (w.heap.size < x1.heap.size ∧ ga < x1.heap.size) := ⟨K1.lt, CM.1⟩
          have K1 := K1.alloc (.cells (mk 16 fun _ => 0) 29)
          have CM := CM.alloc (.cells (mk 16 fun _ => 0) 29)
          have BX : Hid (Below wr.heap.size wr (x1.alloc (.cells (mk 16 fun _ => 0) 29))) := BX.out.alloc BX.out.size _
          clear hHeld
          generalize x1.alloc (.cells (mk 16 fun _ => 0) 29) = x2 at *
          generalize x1.heap.size = b8 at *
          refine hK.out _ _ ⟨K1, CM⟩ (fun hHeld => ?_)
          clear hK K
          try simp only [Act.put, List.setIfInBounds_toArray, List.set_cons_zero, List.set_cons_succ]
          refine wpAnyH_ready (rs := [11]) (by kernel_rfl) (by simp) ?_
          refine AllReadyH.cons rfl (fun K hK => ?_) AllReadyH.nil
          have st1 := run_store_blk (P := Try.prog) (g := doB f fun j => h (k * 4 + j)) K8
          have ms1 : (mk 16 (doB f fun j => h (k * 4 + j))).size = 16 := mk_size 16 _
          go_simp
          clear st1 ms1
          have hgr : x2.grownBy (x2.setRow b8 (mk 16 (doB f fun j => h (k * 4 + j)))) (some b8) := grown_row K8 _
          have K1 := K1.rowOther b8 (mk 16 (doB f fun j => h (k * 4 + j))) (by have := HB9.out.1; omega)
          have CM := CM.grown hgr (fun e => by cases e; exact absurd HB9.out.2 (Nat.lt_irrefl _))
          have BX : Hid (Below wr.heap.size wr (x2.setRow b8 (mk 16 (doB f fun j => h (k * 4 + j))))) := below_setRow BX.out HB8.out _
          have K8 := K8.row 16 (doB f fun j => h (k * 4 + j))
          clear hgr hHeld
          generalize x2.setRow b8 (mk 16 (doB f fun j => h (k * 4 + j))) = x3 at *
          refine hK.out _ _ ⟨K1, CM⟩ (fun hHeld => ?_)
          clear hK K
          try simp only [Act.put, List.setIfInBounds_toArray, List.set_cons_zero, List.set_cons_succ]
          refine wpAnyH_take (i := 12) (oi := { dst := some 7, op := _, type := _, pos := _, after := _, guard := _ }) (v := .int .i64 (doS f fun j => h (k * 4 + j))) rfl (by kernel_rfl) (by kernel_rfl) (by kernel_rfl) (fun _ _ _ h => h) (Or.inl ⟨by rfl, by intro w hSw; clear hSw; go_simp; (try with_reducible rfl)⟩) (by assumption) ?_
          try simp only [Act.put, List.setIfInBounds_toArray, List.set_cons_zero, List.set_cons_succ]
          refine wpAnyH_take (i := 13) (oi := { dst := some 8, op := _, type := _, pos := _, after := _, guard := _ }) (v := .bool (doO f fun j => h (k * 4 + j))) rfl (by kernel_rfl) (by kernel_rfl) (by kernel_rfl) (fun _ _ _ h => h) (Or.inl ⟨by rfl, by intro w hSw; clear hSw; go_simp; (try with_reducible rfl)⟩) (by assumption) ?_
          try simp only [Act.put, List.setIfInBounds_toArray, List.set_cons_zero, List.set_cons_succ]
          refine wpAnyH_done (by kernel_rfl) ?_ _
          clear hHeld
          have HB : Hid (Below w.heap.size w x3) := HB.out.trans (BX.out.mono HB.out.size)
          clear BX HB8 HB9
          rw [HD.out] at K8
          go_wp2_with ((with_reducible show wpList _ _ _ (Oper.mk _ (Op.load 29 _) _ _ _ _ :: _) _ _); refine loadB (K8) rfl rfl rfl ?_)
          refine (l2Moves_any (doB f (fn l)) _ (do_vd HV.out)).mono ?_
          rintro e w7 ⟨gx, cx, rfl, hox, hb⟩
          have CM := CM.below hb
          have K1 := K1.below hb K1.lt
          have HB : Hid (Below w.heap.size w w7) := HB.out.trans (hb.mono HB.out.size)
          clear hb hox K8
          by_cases h0 : (movL (doB f (fn l)) 4).length = 0
          · have hp : ¬ (((movL (doB f (fn l)) 4).length : Int) > 0) := by omega
            have HP : Hid (∀ j x, j < k + 1 → L[j]? = some x → (movL (doB f (fn x)) 4).length = 0) := fun j x hj hx => by
              rcases (by omega : j < k ∨ j = k) with r | rfl
              · exact HP.out j x r hx
              · rw [HKL.out] at hx; cases hx; exact h0
            clear h0
            go_wp2_with fail
            go_roundg gk2
            case rel => exact ⟨k + 1, by omega, by go_num, HP, CM, K1, HB⟩
            case measure => omega
          · have hp : ((movL (doB f (fn l)) 4).length : Int) > 0 := by omega
            have HT : Hid (trapR f = false) := HTN.out k l HKL.out h0
            clear h0
            go_wp2_with fail
            go_ret2
            rw [HT.out]
            exact ⟨rfl, HB.out⟩
        refine AllReadyH.cons rfl (fun K hK => ?_) AllReadyH.nil
        rw [if_pos (by rfl)]
        refine wp_allocX rfl ?_
        have K8 := Blk.new x0 16 (fun _ => 0) 29
        have HB8 : Hid (wr.heap.size ≤ x0.heap.size) := BX.out.size
        have HB9 : Hid (w.heap.size < x0.heap.size ∧ ga < x0.heap.size) := ⟨K1.lt, CM.1⟩
        have K1 := K1.alloc (.cells (mk 16 fun _ => 0) 29)
        have CM := CM.alloc (.cells (mk 16 fun _ => 0) 29)
        have BX : Hid (Below wr.heap.size wr (x0.alloc (.cells (mk 16 fun _ => 0) 29))) := BX.out.alloc BX.out.size _
        clear hHeld
        generalize x0.alloc (.cells (mk 16 fun _ => 0) 29) = x1 at *
        generalize x0.heap.size = b8 at *
        refine hK.out _ _ ⟨K1, CM⟩ (fun hHeld => ?_)
        clear hK K
        try simp only [Act.put, List.setIfInBounds_toArray, List.set_cons_zero, List.set_cons_succ]
        refine wpAnyH_ready (rs := [5]) (by kernel_rfl) (by simp) ?_
        refine AllReadyH.cons rfl (fun K hK => ?_) AllReadyH.nil
        go_simp
        refine (l5Do_any f (fun j => h (k * 4 + j)) _ HV.out).mono ?_
        rintro e x2 ⟨rfl, hb⟩
        have CM := CM.below hb
        have K1 := K1.below hb K1.lt
        have BX : Hid (Below wr.heap.size wr x2) := BX.out.trans (hb.mono BX.out.size)
        have K8 := K8.below hb K8.lt
        clear hb hHeld
        go_wp2_with fail
        refine hK.out _ _ ⟨K1, CM⟩ (fun hHeld => ?_)
        clear hK K
        try simp only [Act.put, List.setIfInBounds_toArray, List.set_cons_zero, List.set_cons_succ]
        refine wpAnyH_take (i := 6) (oi := { dst := some 20, op := _, type := _, pos := _, after := _, guard := _ }) (v := .tuple #[.agg (mk 16 (doB f fun j => h (k * 4 + j))), .int .i64 (doS f fun j => h (k * 4 + j)), .bool (doO f fun j => h (k * 4 + j))]) rfl (by kernel_rfl) (by kernel_rfl) (by kernel_rfl) (fun _ _ _ h => h) (Or.inl ⟨by rfl, by intro w hSw; clear hSw; go_simp; (try with_reducible rfl)⟩) (by assumption) ?_
        try simp only [Act.put, List.setIfInBounds_toArray, List.set_cons_zero, List.set_cons_succ]
        refine wpAnyH_take (i := 7) (oi := { dst := some 27, op := _, type := _, pos := _, after := _, guard := _ }) (v := .agg (mk 16 (doB f fun j => h (k * 4 + j)))) rfl (by kernel_rfl) (by kernel_rfl) (by kernel_rfl) (fun _ _ _ h => h) (Or.inl ⟨by rfl, by intro w hSw; clear hSw; go_simp; (try with_reducible rfl)⟩) (by assumption) ?_
        try simp only [Act.put, List.setIfInBounds_toArray, List.set_cons_zero, List.set_cons_succ]
        refine wpAnyH_take (i := 8) (oi := { dst := some 28, op := _, type := _, pos := _, after := _, guard := _ }) (v := .int .i64 (doS f fun j => h (k * 4 + j))) rfl (by kernel_rfl) (by kernel_rfl) (by kernel_rfl) (fun _ _ _ h => h) (Or.inl ⟨by rfl, by intro w hSw; clear hSw; go_simp; (try with_reducible rfl)⟩) (by assumption) ?_
        try simp only [Act.put, List.setIfInBounds_toArray, List.set_cons_zero, List.set_cons_succ]
        refine wpAnyH_take (i := 9) (oi := { dst := some 29, op := _, type := _, pos := _, after := _, guard := _ }) (v := .bool (doO f fun j => h (k * 4 + j))) rfl (by kernel_rfl) (by kernel_rfl) (by kernel_rfl) (fun _ _ _ h => h) (Or.inl ⟨by rfl, by intro w hSw; clear hSw; go_simp; (try with_reducible rfl)⟩) (by assumption) ?_
        try simp only [Act.put, List.setIfInBounds_toArray, List.set_cons_zero, List.set_cons_succ]
        refine wpAnyH_ready (rs := [11]) (by kernel_rfl) (by simp) ?_
        refine AllReadyH.cons rfl (fun K hK => ?_) AllReadyH.nil
        have st1 := run_store_blk (P := Try.prog) (g := doB f fun j => h (k * 4 + j)) K8
        have ms1 : (mk 16 (doB f fun j => h (k * 4 + j))).size = 16 := mk_size 16 _
        go_simp
        clear st1 ms1
        have hgr : x2.grownBy (x2.setRow b8 (mk 16 (doB f fun j => h (k * 4 + j)))) (some b8) := grown_row K8 _
        have K1 := K1.rowOther b8 (mk 16 (doB f fun j => h (k * 4 + j))) (by have := HB9.out.1; omega)
        have CM := CM.grown hgr (fun e => by cases e; exact absurd HB9.out.2 (Nat.lt_irrefl _))
        have BX : Hid (Below wr.heap.size wr (x2.setRow b8 (mk 16 (doB f fun j => h (k * 4 + j))))) := below_setRow BX.out HB8.out _
        have K8 := K8.row 16 (doB f fun j => h (k * 4 + j))
        clear hgr hHeld
        generalize x2.setRow b8 (mk 16 (doB f fun j => h (k * 4 + j))) = x3 at *
        refine hK.out _ _ ⟨K1, CM⟩ (fun hHeld => ?_)
        clear hK K
        try simp only [Act.put, List.setIfInBounds_toArray, List.set_cons_zero, List.set_cons_succ]
        refine wpAnyH_take (i := 12) (oi := { dst := some 7, op := _, type := _, pos := _, after := _, guard := _ }) (v := .int .i64 (doS f fun j => h (k * 4 + j))) rfl (by kernel_rfl) (by kernel_rfl) (by kernel_rfl) (fun _ _ _ h => h) (Or.inl ⟨by rfl, by intro w hSw; clear hSw; go_simp; (try with_reducible rfl)⟩) (by assumption) ?_
        try simp only [Act.put, List.setIfInBounds_toArray, List.set_cons_zero, List.set_cons_succ]
        refine wpAnyH_take (i := 13) (oi := { dst := some 8, op := _, type := _, pos := _, after := _, guard := _ }) (v := .bool (doO f fun j => h (k * 4 + j))) rfl (by kernel_rfl) (by kernel_rfl) (by kernel_rfl) (fun _ _ _ h => h) (Or.inl ⟨by rfl, by intro w hSw; clear hSw; go_simp; (try with_reducible rfl)⟩) (by assumption) ?_
        try simp only [Act.put, List.setIfInBounds_toArray, List.set_cons_zero, List.set_cons_succ]
        refine wpAnyH_done (by kernel_rfl) ?_ _
        clear hHeld
        have HB : Hid (Below w.heap.size w x3) := HB.out.trans (BX.out.mono HB.out.size)
        clear BX HB8 HB9
        rw [HD.out] at K8
        go_wp2_with ((with_reducible show wpList _ _ _ (Oper.mk _ (Op.load 29 _) _ _ _ _ :: _) _ _); refine loadB (K8) rfl rfl rfl ?_)
        refine (l2Moves_any (doB f (fn l)) _ (do_vd HV.out)).mono ?_
        rintro e w7 ⟨gx, cx, rfl, hox, hb⟩
        have CM := CM.below hb
        have K1 := K1.below hb K1.lt
        have HB : Hid (Below w.heap.size w w7) := HB.out.trans (hb.mono HB.out.size)
        clear hb hox K8
        by_cases h0 : (movL (doB f (fn l)) 4).length = 0
        · have hp : ¬ (((movL (doB f (fn l)) 4).length : Int) > 0) := by omega
          have HP : Hid (∀ j x, j < k + 1 → L[j]? = some x → (movL (doB f (fn x)) 4).length = 0) := fun j x hj hx => by
            rcases (by omega : j < k ∨ j = k) with r | rfl
            · exact HP.out j x r hx
            · rw [HKL.out] at hx; cases hx; exact h0
          clear h0
          go_wp2_with fail
          go_roundg gk2
          case rel => exact ⟨k + 1, by omega, by go_num, HP, CM, K1, HB⟩
          case measure => omega
        · have hp : ((movL (doB f (fn l)) 4).length : Int) > 0 := by omega
          have HT : Hid (trapR f = false) := HTN.out k l HKL.out h0
          clear h0
          go_wp2_with fail
          go_ret2
          rw [HT.out]
          exact ⟨rfl, HB.out⟩
  · rw [trapR_no hV, vdO_no hV]
    have HV := Lib.hid hV
    clear hV
    go_enter Try.func35, Try.ntmps35
    go_wp2_with ((with_reducible show wpList _ _ _ (Oper.mk _ (Op.load 29 _) _ _ _ _ :: _) _ _); refine loadB (K1) rfl rfl rfl ?_)
    refine (l2Board_no _ _ HV.out).mono ?_
    rintro e w1 ⟨rfl, hb⟩
    have HB : Hid (Below w.heap.size w w1) := HB.out.trans (hb.mono HB.out.size)
    clear hb
    go_wp2_with fail
    go_ret2
    exact ⟨rfl, HB.out⟩
end Go.Proofs.Ytknjmkapabjolaa
