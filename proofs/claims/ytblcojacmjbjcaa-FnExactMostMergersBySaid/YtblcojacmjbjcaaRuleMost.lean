/-
  The contracts of MostMergersBy, in the reference and in the program, for every board and every number.
-/
import Derived.Test.YtblcojacmjbjcaaRuleMv
import Derived.Test.YtblcojacmjbjcaaMergers

namespace Go.Proofs.Ytblcojacmjbjcaa
open Go.RowKit Plain
attribute [local go_sem] store_new
set_option linter.unusedVariables false
set_option linter.unusedSimpArgs false
set_option maxHeartbeats 2000000 in
set_option maxRecDepth 20000 in
theorem specMost10_any (f : Nat → Int) (r : Int) (w : World) :
    Calls Try.prog 43 #[.agg (mk 16 f), .int .i64 r] w fun e w' => e = .returned (.tuple #[.int .i64 (rmN f r), .int .i64 (rmD f r), .bool (rbO f r)]) ∧ Below w.heap.size w w' := by
  have K1 := Blk.new w 16 f 37
  have HB := Lib.hid ((Below.refl w.heap.size w).alloc (Nat.le_refl _) (.cells (mk 16 f) 37))
  by_cases hV : Vd f
  · have HV := Lib.hid hV
    by_cases hR : RlOk r
    · have HR := Lib.hid hR
      rw [(rm_yes (f := f) (r := r) ⟨hV, hR⟩).2.1, (rmost_yes (f := f) (r := r) ⟨hV, hR⟩).1, (rmost_yes (f := f) (r := r) ⟨hV, hR⟩).2]
      have HMg := Lib.hid (mgFn r)
      clear hV hR
      go_enter Try.func43, Try.ntmps43
      go_wp2_with (first | ((with_reducible show wpList _ _ _ (Oper.mk _ (Op.load 37 _) _ _ _ _ :: _) _ _); refine loadB (K1) rfl rfl rfl ?_) | ((with_reducible show wpList _ _ _ (Oper.mk _ (Op.load 37 _) _ _ _ (some _) :: _) _ _); refine loadgB (K1) rfl rfl rfl ?_))
      refine (l2Board_yes _ _ HV.out).mono ?_
      rintro e wg1 ⟨rfl, hb⟩
      have K1 := K1.below hb K1.lt
      have HB : Hid (Below w.heap.size w wg1) := HB.out.trans (hb.mono HB.out.size)
      clear hb
      go_wp2_with (first | ((with_reducible show wpList _ _ _ (Oper.mk _ (Op.load 37 _) _ _ _ _ :: _) _ _); refine loadB (K1) rfl rfl rfl ?_) | ((with_reducible show wpList _ _ _ (Oper.mk _ (Op.load 37 _) _ _ _ (some _) :: _) _ _); refine loadgB (K1) rfl rfl rfl ?_))
      refine (l10Rule_yes r _ HR.out).mono ?_
      rintro e wg2 ⟨rfl, rfl⟩
      go_wp2_with fail
      go_loopg [7, 8, 9] 4 (fun g s7 s8 s9 wr => ∃ k : Nat, k + g = 4 ∧ s9 = .int .i64 (k : Int) ∧ s7 = .int .i64 (if k = 0 then -1 else (rMost (mgF r) f k).1) ∧ s8 = .int .i64 (rMost (mgF r) f k).2 ∧ Blk wr w.heap.size 16 f 37 ∧ Hid (Below w.heap.size w wr))
      case atStart => exact ⟨0, by omega, rfl, rfl, rfl, K1, HB⟩
      case round =>
        clear K1 HB
        obtain ⟨k, hkg, rfl, rfl, rfl, K1, HB⟩ := hrel
        cases gk with
        | zero =>
          have hk : ¬ ((k : Int) < 4) := by omega
          obtain rfl : k = 4 := by omega
          clear hkg
          go_wp2_with fail
          go_ret3
          exact ⟨rfl, HB.out⟩
        | succ g =>
          have hk : (k : Int) < 4 := by omega
          have hk4 : k < 4 := by omega
          have HM : Hid ((empN (rB (mgF r) f k) 16 : Int) = empN f 16 + rM (mgF r) f k 4) := emp_rB (mgFn r) HV.out hk4
          have hn1 := empN_le f 16
          have hn2 := empN_le (rB (mgF r) f k) 16
          obtain ⟨m0, m1⟩ := rM_bd (mgFn r) HV.out k 4 (by omega)
          have hbd := rMost_bd (mgFn r) HV.out k
          have HY := Lib.hid (rMost_yes (m := mgF r) (f := f) (k := k))
          have HN := Lib.hid (rMost_no (m := mgF r) (f := f) (k := k))
          have HZ : Hid (k = 0 → rMost (mgF r) f k = (0, 0)) := fun e => by subst e; rfl
          have eC : ((if k = 0 then (-1 : Int) else (rMost (mgF r) f k).1) = -1 ∧ k = 0) ∨ ((if k = 0 then (-1 : Int) else (rMost (mgF r) f k).1) = (rMost (mgF r) f k).1 ∧ k ≠ 0) := by
            by_cases q : k = 0
            · left; rw [if_pos q]; exact ⟨rfl, q⟩
            · right; rw [if_neg q]; exact ⟨rfl, q⟩
          have HEC := Lib.hid eC
          have hcl : -1 ≤ (if k = 0 then (-1 : Int) else (rMost (mgF r) f k).1) ∧ (if k = 0 then (-1 : Int) else (rMost (mgF r) f k).1) ≤ 16 := by rcases eC with q | q <;> rw [q.1] <;> omega
          clear eC
          generalize hcc : (if k = 0 then (-1 : Int) else (rMost (mgF r) f k).1) = cur at *
          clear hcc
          go_wp2_with fail
          refine wp_region_held_drew (S := fun W => Blk W w.heap.size 16 f 37) (by kernel_rfl) (K1.drew) (fun hHeld => ?_)
          have K1 : Blk wr.drew w.heap.size 16 f 37 := K1.drew
          have HB : Hid (Below w.heap.size w wr.drew) := HB.out.drew
          generalize wr.drew = x0 at *
          refine wpAnyH_take (i := 0) (oi := { dst := some 23, op := _, type := _, pos := _, after := _, guard := _ }) (v := .agg (mk 16 f)) rfl (by kernel_rfl) (by kernel_rfl) (by kernel_rfl) (fun _ _ _ h => h) (Or.inl ⟨by rfl, fun _ q => execB q rfl rfl⟩) (by assumption) ?_
          try simp only [Act.put, List.setIfInBounds_toArray, List.set_cons_zero, List.set_cons_succ]
          refine wpAnyH_take (i := 2) (oi := { dst := some 25, op := _, type := _, pos := _, after := _, guard := _ }) (v := .agg (mk 16 f)) rfl (by kernel_rfl) (by kernel_rfl) (by kernel_rfl) (fun _ _ _ h => h) (Or.inl ⟨by rfl, fun _ q => execB q rfl rfl⟩) (by assumption) ?_
          try simp only [Act.put, List.setIfInBounds_toArray, List.set_cons_zero, List.set_cons_succ]
          refine wpAnyH_take (i := 3) (oi := { dst := some 26, op := _, type := _, pos := _, after := _, guard := _ }) (v := .int .i64 (k : Int)) rfl (by kernel_rfl) (by kernel_rfl) (by kernel_rfl) (fun _ _ _ h => h) (Or.inl ⟨by rfl, by intro w hSw; clear hSw; go_simp; (try with_reducible rfl)⟩) (by assumption) ?_
          try simp only [Act.put, List.setIfInBounds_toArray, List.set_cons_zero, List.set_cons_succ]
          refine wpAnyH_take (i := 4) (oi := { dst := some 27, op := _, type := _, pos := _, after := _, guard := _ }) (v := .int .i64 r) rfl (by kernel_rfl) (by kernel_rfl) (by kernel_rfl) (fun _ _ _ h => h) (Or.inl ⟨by rfl, by intro w hSw; clear hSw; go_simp; (try with_reducible rfl)⟩) (by assumption) ?_
          try simp only [Act.put, List.setIfInBounds_toArray, List.set_cons_zero, List.set_cons_succ]
          refine wpAnyH_ready (rs := [1]) (by kernel_rfl) (by simp) ?_
          refine AllReadyH.cons rfl (fun K hK => ?_) AllReadyH.nil
          go_simp
          refine (l2Many_any f _).mono ?_
          rintro e x1 ⟨rfl, hb⟩
          have K1 := K1.below hb K1.lt
          have HB : Hid (Below w.heap.size w x1) := HB.out.trans (hb.mono HB.out.size)
          clear hb
          go_wp2_with fail
          clear hHeld
          refine hK.out _ _ K1 (fun hHeld => ?_)
          clear hK K
          try simp only [Act.put, List.setIfInBounds_toArray, List.set_cons_zero, List.set_cons_succ]
          refine wpAnyH_ready (rs := [5]) (by kernel_rfl) (by simp) ?_
          refine AllReadyH.cons rfl (fun K hK => ?_) AllReadyH.nil
          go_simp
          refine (l10Slide_any f k r _ HR.out HV.out hk4).mono ?_
          rintro e x2 ⟨rfl, hb⟩
          have K1 := K1.below hb K1.lt
          have HB : Hid (Below w.heap.size w x2) := HB.out.trans (hb.mono HB.out.size)
          clear hb
          go_wp2_with fail
          clear hHeld
          refine hK.out _ _ K1 (fun hHeld => ?_)
          clear hK K
          try simp only [Act.put, List.setIfInBounds_toArray, List.set_cons_zero, List.set_cons_succ]
          refine wpAnyH_ready (rs := [6]) (by kernel_rfl) (by simp) ?_
          refine AllReadyH.cons rfl (fun K hK => ?_) AllReadyH.nil
          go_simp
          refine (l2Many_any (rB (mgF r) f k) _).mono ?_
          rintro e x3 ⟨rfl, hb⟩
          have K1 := K1.below hb K1.lt
          have HB : Hid (Below w.heap.size w x3) := HB.out.trans (hb.mono HB.out.size)
          clear hb
          go_wp2_with fail
          clear hHeld
          refine hK.out _ _ K1 (fun hHeld => ?_)
          clear hK K
          try simp only [Act.put, List.setIfInBounds_toArray, List.set_cons_zero, List.set_cons_succ]
          refine wpAnyH_take (i := 7) (oi := { dst := some 30, op := _, type := _, pos := _, after := _, guard := _ }) (v := .int .i64 ((16 - (empN f 16 : Int)) - (16 - (empN (rB (mgF r) f k) 16 : Int)))) rfl (by kernel_rfl) (by kernel_rfl) (by kernel_rfl) (fun _ _ _ h => h) (Or.inl ⟨by rfl, by intro w hSw; clear hSw; go_simp; exact IntWalk.i64_in _ (by omega)⟩) (by assumption) ?_
          try simp only [Act.put, List.setIfInBounds_toArray, List.set_cons_zero, List.set_cons_succ]
          refine wpAnyH_take (i := 8) (oi := { dst := some 10, op := _, type := _, pos := _, after := _, guard := _ }) (v := .int .i64 ((16 - (empN f 16 : Int)) - (16 - (empN (rB (mgF r) f k) 16 : Int)))) rfl (by kernel_rfl) (by kernel_rfl) (by kernel_rfl) (fun _ _ _ h => h) (Or.inl ⟨by rfl, by intro w hSw; clear hSw; go_simp; (try with_reducible rfl)⟩) (by assumption) ?_
          try simp only [Act.put, List.setIfInBounds_toArray, List.set_cons_zero, List.set_cons_succ]
          refine wpAnyH_done (by kernel_rfl) ?_ _
          clear hHeld
          have eNV : ((16 - (empN f 16 : Int)) - (16 - (empN (rB (mgF r) f k) 16 : Int))) = rM (mgF r) f k 4 := by have := HM.out; omega
          rw [eNV]
          clear eNV hn1 hn2
          generalize hv : rM (mgF r) f k 4 = v at *
          by_cases hq : cur < v
          · have hd : decide (v > cur) = true := by simpa using hq
            have HS : Hid (rMost (mgF r) f (k + 1) = (v, if k = 0 then 0 else (k : Int)) ∨ (k = 0 ∧ v = 0 ∧ rMost (mgF r) f (k + 1) = (0, 0))) := by
              show _ ∨ _
              rcases HEC.out with ⟨q1, q2⟩ | ⟨q1, q2⟩
              · by_cases q3 : (rMost (mgF r) f k).1 < v
                · left; rw [HY.out q3, if_pos q2, q2]; rfl
                · right
                  have q4 := HZ.out q2
                  rw [q4] at q3
                  simp only [] at q3
                  exact ⟨q2, by omega, by rw [HN.out (by rw [q4]; show _; first | exact q3 | (simp only []; omega)), q4]⟩
              · left; rw [HY.out (by omega), if_neg q2]
            have HS2 : Hid ((rMost (mgF r) f (k + 1)).1 = v ∧ (rMost (mgF r) f (k + 1)).2 = (k : Int)) := by
              show _ ∧ _
              rcases HS.out with q | ⟨q1, q2, q3⟩
              · rw [q]; refine ⟨rfl, ?_⟩
                by_cases q5 : k = 0
                · simp [q5]
                · simp [q5]
              · rw [q3, q1, q2]; exact ⟨rfl, rfl⟩
            clear hq HY HN HEC HS
            go_wp2_with fail
            go_roundg g
            case rel => exact ⟨k + 1, by omega, by go_num, by rw [if_neg (by omega), HS2.out.1], by rw [HS2.out.2], K1, HB⟩
            case measure => omega
          · have hd : decide (v > cur) = false := by simpa using hq
            have HS2 : Hid ((rMost (mgF r) f (k + 1)).1 = cur ∧ (rMost (mgF r) f (k + 1)).2 = (rMost (mgF r) f k).2) := by
              show _ ∧ _
              rcases HEC.out with ⟨q1, q2⟩ | ⟨q1, q2⟩
              · omega
              · rw [HN.out (by omega)]; exact ⟨q1.symm, rfl⟩
            clear hq HY HN HEC
            go_wp2_with fail
            go_roundg g
            case rel => exact ⟨k + 1, by omega, by go_num, by rw [if_neg (by omega), HS2.out.1], by rw [HS2.out.2], K1, HB⟩
            case measure => omega
    · rw [(rm_no (f := f) (r := r) fun h => hR h.2).2.1, (rmost_no (f := f) (r := r) fun h => hR h.2).1, (rmost_no (f := f) (r := r) fun h => hR h.2).2]
      have HR := Lib.hid hR
      clear hV hR
      go_enter Try.func43, Try.ntmps43
      go_wp2_with (first | ((with_reducible show wpList _ _ _ (Oper.mk _ (Op.load 37 _) _ _ _ _ :: _) _ _); refine loadB (K1) rfl rfl rfl ?_) | ((with_reducible show wpList _ _ _ (Oper.mk _ (Op.load 37 _) _ _ _ (some _) :: _) _ _); refine loadgB (K1) rfl rfl rfl ?_))
      refine (l2Board_yes _ _ HV.out).mono ?_
      rintro e wg1 ⟨rfl, hb⟩
      have K1 := K1.below hb K1.lt
      have HB : Hid (Below w.heap.size w wg1) := HB.out.trans (hb.mono HB.out.size)
      clear hb
      go_wp2_with (first | ((with_reducible show wpList _ _ _ (Oper.mk _ (Op.load 37 _) _ _ _ _ :: _) _ _); refine loadB (K1) rfl rfl rfl ?_) | ((with_reducible show wpList _ _ _ (Oper.mk _ (Op.load 37 _) _ _ _ (some _) :: _) _ _); refine loadgB (K1) rfl rfl rfl ?_))
      refine (l10Rule_no r _ HR.out).mono ?_
      rintro e wg2 ⟨rfl, rfl⟩
      go_wp2_with fail
      go_ret3
      exact ⟨rfl, HB.out⟩
  · rw [(rm_no (f := f) (r := r) fun h => hV h.1).2.1, (rmost_no (f := f) (r := r) fun h => hV h.1).1, (rmost_no (f := f) (r := r) fun h => hV h.1).2]
    have HV := Lib.hid hV
    clear hV
    go_enter Try.func43, Try.ntmps43
    go_wp2_with (first | ((with_reducible show wpList _ _ _ (Oper.mk _ (Op.load 37 _) _ _ _ _ :: _) _ _); refine loadB (K1) rfl rfl rfl ?_) | ((with_reducible show wpList _ _ _ (Oper.mk _ (Op.load 37 _) _ _ _ (some _) :: _) _ _); refine loadgB (K1) rfl rfl rfl ?_))
    refine (l2Board_no _ _ HV.out).mono ?_
    rintro e wg1 ⟨rfl, hb⟩
    have K1 := K1.below hb K1.lt
    have HB : Hid (Below w.heap.size w wg1) := HB.out.trans (hb.mono HB.out.size)
    clear hb
    go_wp2_with fail
    go_ret3
    exact ⟨rfl, HB.out⟩
set_option maxHeartbeats 2000000 in
set_option maxRecDepth 20000 in
theorem implMost10_any (f : Nat → Int) (r : Int) (w : World) :
    Calls Try.prog 44 #[.agg (mk 16 f), .int .i64 r] w fun e w' => e = .returned (.tuple #[.int .i64 (rmN f r), .int .i64 (rmD f r), .bool (rbO f r)]) ∧ Below w.heap.size w w' := by
  have K1 := Blk.new w 16 f 37
  have HB := Lib.hid ((Below.refl w.heap.size w).alloc (Nat.le_refl _) (.cells (mk 16 f) 37))
  by_cases hR : RlOk r
  · have HR := Lib.hid hR
    have HX := Lib.hid (merges_any r hR)
    have CL : Hid (∀ W, Calls Try.prog 51 #[.int .i64 r] W fun e w' => e = .returned (.tuple #[.iface 112 (.agg #[inR r]), .bool true]) ∧ Below W.heap.size W w') := fun W => lawOf_at r W hR
    generalize inR r = x at *
    by_cases hV : Vd f
    · have HV := Lib.hid hV
      rw [(rm_yes (f := f) (r := r) ⟨hV, hR⟩).2.1, (rmost_yes (f := f) (r := r) ⟨hV, hR⟩).1, (rmost_yes (f := f) (r := r) ⟨hV, hR⟩).2]
      have HMg := Lib.hid (mgFn r)
      clear hV hR
      go_enter Try.func44, Try.ntmps44
      go_wp2_with (first | ((with_reducible show wpList _ _ _ (Oper.mk _ (Op.load 37 _) _ _ _ _ :: _) _ _); refine loadB (K1) rfl rfl rfl ?_) | ((with_reducible show wpList _ _ _ (Oper.mk _ (Op.load 37 _) _ _ _ (some _) :: _) _ _); refine loadgB (K1) rfl rfl rfl ?_))
      refine (CL.out _).mono ?_
      rintro e wg1 ⟨rfl, hb⟩
      have K1 := K1.below hb K1.lt
      have HB : Hid (Below w.heap.size w wg1) := HB.out.trans (hb.mono HB.out.size)
      clear hb
      go_wp2_with (first | ((with_reducible show wpList _ _ _ (Oper.mk _ (Op.load 37 _) _ _ _ _ :: _) _ _); refine loadB (K1) rfl rfl rfl ?_) | ((with_reducible show wpList _ _ _ (Oper.mk _ (Op.load 37 _) _ _ _ (some _) :: _) _ _); refine loadgB (K1) rfl rfl rfl ?_))
      refine (implBoard_yes _ _ HV.out).mono ?_
      rintro e wg2 ⟨rfl, hb⟩
      have K1 := K1.below hb K1.lt
      have HB : Hid (Below w.heap.size w wg2) := HB.out.trans (hb.mono HB.out.size)
      clear hb
      go_wp2_with fail
      go_loopg [9, 10, 26] 4 (fun g s9 s10 s26 wr => ∃ k : Nat, k + g = 4 ∧ s26 = .int .i64 (k : Int) ∧ s9 = .int .i64 (rMost (mgF r) f k).1 ∧ s10 = .int .i64 (rMost (mgF r) f k).2 ∧ Blk wr w.heap.size 16 f 37 ∧ Hid (Below w.heap.size w wr))
      case atStart => exact ⟨0, by omega, rfl, rfl, rfl, K1, HB⟩
      case round =>
        clear K1 HB
        obtain ⟨k, hkg, rfl, rfl, rfl, K1, HB⟩ := hrel
        cases gk with
        | zero =>
          have hk : ¬ ((k : Int) < 4) := by omega
          obtain rfl : k = 4 := by omega
          clear hkg
          go_wp2_with fail
          go_ret3
          exact ⟨rfl, HB.out⟩
        | succ g =>
          have hk : (k : Int) < 4 := by omega
          have hk4 : k < 4 := by omega
          have hbd := rMost_bd HMg.out HV.out k
          have HY := Lib.hid (rMost_yes (m := mgF r) (f := f) (k := k))
          have HN := Lib.hid (rMost_no (m := mgF r) (f := f) (k := k))
          generalize rMost (mgF r) f k = cur at *
          go_wp2_with fail
          refine wp_region_held_drew (S := fun W => Blk W w.heap.size 16 f 37) (by kernel_rfl) (K1.drew) (fun hHeld => ?_)
          have K1 : Blk wr.drew w.heap.size 16 f 37 := K1.drew
          have BX : Hid (Below wr.heap.size wr wr.drew) := (Below.refl _ wr).drew
          have LK : Hid (w.heap.size < wr.heap.size) := K1.lt
          generalize wr.drew = x0 at *
          refine wpAnyH_take (i := 0) (oi := { dst := some 30, op := _, type := _, pos := _, after := _, guard := _ }) (v := .agg (mk 16 f)) rfl (by kernel_rfl) (by kernel_rfl) (by kernel_rfl) (fun _ _ _ h => h) (Or.inl ⟨by rfl, fun _ q => execB q rfl rfl⟩) (by assumption) ?_
          try simp only [Act.put, List.setIfInBounds_toArray, List.set_cons_zero, List.set_cons_succ]
          refine wpAnyH_take (i := 1) (oi := { dst := some 31, op := _, type := _, pos := _, after := _, guard := _ }) (v := .int .i64 (k : Int)) rfl (by kernel_rfl) (by kernel_rfl) (by kernel_rfl) (fun _ _ _ h => h) (Or.inl ⟨by rfl, by intro w hSw; clear hSw; go_simp; (try with_reducible rfl)⟩) (by assumption) ?_
          try simp only [Act.put, List.setIfInBounds_toArray, List.set_cons_zero, List.set_cons_succ]
          refine wpAnyH_take (i := 2) (oi := { dst := some 32, op := _, type := _, pos := _, after := _, guard := _ }) (v := .iface 112 (.agg #[x])) rfl (by kernel_rfl) (by kernel_rfl) (by kernel_rfl) (fun _ _ _ h => h) (Or.inl ⟨by rfl, by intro w hSw; clear hSw; go_simp; (try with_reducible rfl)⟩) (by assumption) ?_
          try simp only [Act.put, List.setIfInBounds_toArray, List.set_cons_zero, List.set_cons_succ]
          refine wpAnyH_take (i := 3) (oi := { dst := some 33, op := _, type := _, pos := _, after := _, guard := _ }) (v := .iface 112 (.agg #[x])) rfl (by kernel_rfl) (by kernel_rfl) (by kernel_rfl) (fun _ _ _ h => h) (Or.inl ⟨by rfl, by intro w hSw; clear hSw; go_simp; (try with_reducible rfl)⟩) (by assumption) ?_
          try simp only [Act.put, List.setIfInBounds_toArray, List.set_cons_zero, List.set_cons_succ]
          refine wpAnyH_take (i := 4) (oi := { dst := some 34, op := _, type := _, pos := _, after := _, guard := _ }) (v := .func (.method "loop.example/g01194/impl.merge") #[.iface 112 (.agg #[x])] #[]) rfl (by kernel_rfl) (by kernel_rfl) (by kernel_rfl) (fun _ _ _ h => h) (Or.inl ⟨by rfl, by intro w hSw; clear hSw; go_simp; (try with_reducible rfl)⟩) (by assumption) ?_
          try simp only [Act.put, List.setIfInBounds_toArray, List.set_cons_zero, List.set_cons_succ]
          refine wpAnyH_ready (rs := [5, 9]) (by kernel_rfl) (by simp) ?_
          refine AllReadyH.cons rfl (fun K hK => ?_) ?_
          · go_simp
            refine (slideBy_nat x (mgF r) HX.out f k _ HV.out hk4).mono ?_
            rintro e x1 ⟨rfl, hb⟩
            have K1 := K1.below hb K1.lt
            have BX : Hid (Below wr.heap.size wr x1) := BX.out.trans (hb.mono BX.out.size)
            clear hb
            go_wp2_with fail
            clear hHeld
            refine hK.out _ _ K1 (fun hHeld => ?_)
            clear hK K
            try simp only [Act.put, List.setIfInBounds_toArray, List.set_cons_zero, List.set_cons_succ]
            refine wpAnyH_take (i := 6) (oi := { dst := some 29, op := _, type := _, pos := _, after := _, guard := _ }) (v := .tuple #[.agg (mk 16 (rB (mgF r) f k)), .int .i64 (rM (mgF r) f k 4)]) rfl (by kernel_rfl) (by kernel_rfl) (by kernel_rfl) (fun _ _ _ h => h) (Or.inl ⟨by rfl, by intro w hSw; clear hSw; go_simp; (try with_reducible rfl)⟩) (by assumption) ?_
            try simp only [Act.put, List.setIfInBounds_toArray, List.set_cons_zero, List.set_cons_succ]
            refine wpAnyH_take (i := 7) (oi := { dst := some 36, op := _, type := _, pos := _, after := _, guard := _ }) (v := .agg (mk 16 (rB (mgF r) f k))) rfl (by kernel_rfl) (by kernel_rfl) (by kernel_rfl) (fun _ _ _ h => h) (Or.inl ⟨by rfl, by intro w hSw; clear hSw; go_simp; (try with_reducible rfl)⟩) (by assumption) ?_
            try simp only [Act.put, List.setIfInBounds_toArray, List.set_cons_zero, List.set_cons_succ]
            refine wpAnyH_take (i := 8) (oi := { dst := some 37, op := _, type := _, pos := _, after := _, guard := _ }) (v := .int .i64 (rM (mgF r) f k 4)) rfl (by kernel_rfl) (by kernel_rfl) (by kernel_rfl) (fun _ _ _ h => h) (Or.inl ⟨by rfl, by intro w hSw; clear hSw; go_simp; (try with_reducible rfl)⟩) (by assumption) ?_
            try simp only [Act.put, List.setIfInBounds_toArray, List.set_cons_zero, List.set_cons_succ]
            refine wpAnyH_ready (rs := [9]) (by kernel_rfl) (by simp) ?_
            refine AllReadyH.cons rfl (fun K hK => ?_) AllReadyH.nil
            rw [if_pos (by rfl)]
            refine wp_allocXB rfl ?_
            have K8 := Blk.new x1 16 (fun _ => 0) 37
            have HB8 : Hid (wr.heap.size ≤ x1.heap.size) := BX.out.size
            have K1 := K1.alloc (.cells (mk 16 fun _ => 0) 37)
            have BX : Hid (Below wr.heap.size wr (x1.alloc (.cells (mk 16 fun _ => 0) 37))) := BX.out.alloc BX.out.size _
            generalize x1.alloc (.cells (mk 16 fun _ => 0) 37) = x2 at *
            generalize x1.heap.size = b8 at *
            clear hHeld
            refine hK.out _ _ K1 (fun hHeld => ?_)
            clear hK K
            try simp only [Act.put, List.setIfInBounds_toArray, List.set_cons_zero, List.set_cons_succ]
            refine wpAnyH_ready (rs := [10]) (by kernel_rfl) (by simp) ?_
            refine AllReadyH.cons rfl (fun K hK => ?_) AllReadyH.nil
            have st1 := run_store_blk (P := Try.prog) (rB (mgF r) f k) K8
            have ms1 : (mk 16 (rB (mgF r) f k)).size = 16 := mk_size 16 _
            go_simp
            clear st1 ms1
            have K1 := K1.rowOther b8 (mk 16 (rB (mgF r) f k)) (by have := HB8.out; have := LK.out; omega)
            have BX : Hid (Below wr.heap.size wr (x2.setRow b8 (mk 16 (rB (mgF r) f k)))) := below_setRow BX.out HB8.out _
            have K8 := K8.row 16 (rB (mgF r) f k)
            generalize x2.setRow b8 (mk 16 (rB (mgF r) f k)) = x3 at *
            clear hHeld
            refine hK.out _ _ K1 (fun hHeld => ?_)
            clear hK K
            try simp only [Act.put, List.setIfInBounds_toArray, List.set_cons_zero, List.set_cons_succ]
            refine wpAnyH_take (i := 11) (oi := { dst := some 13, op := _, type := _, pos := _, after := _, guard := _ }) (v := .int .i64 (rM (mgF r) f k 4)) rfl (by kernel_rfl) (by kernel_rfl) (by kernel_rfl) (fun _ _ _ h => h) (Or.inl ⟨by rfl, by intro w hSw; clear hSw; go_simp; (try with_reducible rfl)⟩) (by assumption) ?_
            try simp only [Act.put, List.setIfInBounds_toArray, List.set_cons_zero, List.set_cons_succ]
            refine wpAnyH_done (by kernel_rfl) ?_ _
            clear hHeld
            have HB : Hid (Below w.heap.size w x3) := HB.out.trans (BX.out.mono HB.out.size)
            clear BX HB8 K8 LK
            generalize hv : rM (mgF r) f k 4 = v at *
            by_cases hq : cur.1 < v
            · have hd : decide (v > cur.1) = true := by simpa using hq
              have HS2 : Hid (rMost (mgF r) f (k + 1) = (v, (k : Int))) := by show _ = _; rw [HY.out hq]
              clear hq HY HN
              go_wp2_with fail
              go_roundg g
              case rel => exact ⟨k + 1, by omega, by go_num, by rw [HS2.out], by rw [HS2.out], K1, HB⟩
              case measure => omega
            · have hd : decide (v > cur.1) = false := by simpa using hq
              have HS2 : Hid (rMost (mgF r) f (k + 1) = cur) := by show _ = _; rw [HN.out (by omega)]
              clear hq HY HN
              go_wp2_with fail
              go_roundg g
              case rel => exact ⟨k + 1, by omega, by go_num, by rw [HS2.out], by rw [HS2.out], K1, HB⟩
              case measure => omega
          refine AllReadyH.cons rfl (fun K hK => ?_) AllReadyH.nil
          rw [if_pos (by rfl)]
          refine wp_allocXB rfl ?_
          have K8 := Blk.new x0 16 (fun _ => 0) 37
          have HB8 : Hid (wr.heap.size ≤ x0.heap.size) := BX.out.size
          have K1 := K1.alloc (.cells (mk 16 fun _ => 0) 37)
          have BX : Hid (Below wr.heap.size wr (x0.alloc (.cells (mk 16 fun _ => 0) 37))) := BX.out.alloc BX.out.size _
          generalize x0.alloc (.cells (mk 16 fun _ => 0) 37) = x1 at *
          generalize x0.heap.size = b8 at *
          clear hHeld
          refine hK.out _ _ K1 (fun hHeld => ?_)
          clear hK K
          try simp only [Act.put, List.setIfInBounds_toArray, List.set_cons_zero, List.set_cons_succ]
          refine wpAnyH_ready (rs := [5]) (by kernel_rfl) (by simp) ?_
          refine AllReadyH.cons rfl (fun K hK => ?_) AllReadyH.nil
          go_simp
          refine (slideBy_nat x (mgF r) HX.out f k _ HV.out hk4).mono ?_
          rintro e x2 ⟨rfl, hb⟩
          have K1 := K1.below hb K1.lt
          have BX : Hid (Below wr.heap.size wr x2) := BX.out.trans (hb.mono BX.out.size)
          have K8 := K8.below hb K8.lt
          clear hb
          go_wp2_with fail
          clear hHeld
          refine hK.out _ _ K1 (fun hHeld => ?_)
          clear hK K
          try simp only [Act.put, List.setIfInBounds_toArray, List.set_cons_zero, List.set_cons_succ]
          refine wpAnyH_take (i := 6) (oi := { dst := some 29, op := _, type := _, pos := _, after := _, guard := _ }) (v := .tuple #[.agg (mk 16 (rB (mgF r) f k)), .int .i64 (rM (mgF r) f k 4)]) rfl (by kernel_rfl) (by kernel_rfl) (by kernel_rfl) (fun _ _ _ h => h) (Or.inl ⟨by rfl, by intro w hSw; clear hSw; go_simp; (try with_reducible rfl)⟩) (by assumption) ?_
          try simp only [Act.put, List.setIfInBounds_toArray, List.set_cons_zero, List.set_cons_succ]
          refine wpAnyH_take (i := 7) (oi := { dst := some 36, op := _, type := _, pos := _, after := _, guard := _ }) (v := .agg (mk 16 (rB (mgF r) f k))) rfl (by kernel_rfl) (by kernel_rfl) (by kernel_rfl) (fun _ _ _ h => h) (Or.inl ⟨by rfl, by intro w hSw; clear hSw; go_simp; (try with_reducible rfl)⟩) (by assumption) ?_
          try simp only [Act.put, List.setIfInBounds_toArray, List.set_cons_zero, List.set_cons_succ]
          refine wpAnyH_take (i := 8) (oi := { dst := some 37, op := _, type := _, pos := _, after := _, guard := _ }) (v := .int .i64 (rM (mgF r) f k 4)) rfl (by kernel_rfl) (by kernel_rfl) (by kernel_rfl) (fun _ _ _ h => h) (Or.inl ⟨by rfl, by intro w hSw; clear hSw; go_simp; (try with_reducible rfl)⟩) (by assumption) ?_
          try simp only [Act.put, List.setIfInBounds_toArray, List.set_cons_zero, List.set_cons_succ]
          refine wpAnyH_ready (rs := [10]) (by kernel_rfl) (by simp) ?_
          refine AllReadyH.cons rfl (fun K hK => ?_) AllReadyH.nil
          have st1 := run_store_blk (P := Try.prog) (rB (mgF r) f k) K8
          have ms1 : (mk 16 (rB (mgF r) f k)).size = 16 := mk_size 16 _
          go_simp
          clear st1 ms1
          have K1 := K1.rowOther b8 (mk 16 (rB (mgF r) f k)) (by have := HB8.out; have := LK.out; omega)
          have BX : Hid (Below wr.heap.size wr (x2.setRow b8 (mk 16 (rB (mgF r) f k)))) := below_setRow BX.out HB8.out _
          have K8 := K8.row 16 (rB (mgF r) f k)
          generalize x2.setRow b8 (mk 16 (rB (mgF r) f k)) = x3 at *
          clear hHeld
          refine hK.out _ _ K1 (fun hHeld => ?_)
          clear hK K
          try simp only [Act.put, List.setIfInBounds_toArray, List.set_cons_zero, List.set_cons_succ]
          refine wpAnyH_take (i := 11) (oi := { dst := some 13, op := _, type := _, pos := _, after := _, guard := _ }) (v := .int .i64 (rM (mgF r) f k 4)) rfl (by kernel_rfl) (by kernel_rfl) (by kernel_rfl) (fun _ _ _ h => h) (Or.inl ⟨by rfl, by intro w hSw; clear hSw; go_simp; (try with_reducible rfl)⟩) (by assumption) ?_
          try simp only [Act.put, List.setIfInBounds_toArray, List.set_cons_zero, List.set_cons_succ]
          refine wpAnyH_done (by kernel_rfl) ?_ _
          clear hHeld
          have HB : Hid (Below w.heap.size w x3) := HB.out.trans (BX.out.mono HB.out.size)
          clear BX HB8 K8 LK
          generalize hv : rM (mgF r) f k 4 = v at *
          by_cases hq : cur.1 < v
          · have hd : decide (v > cur.1) = true := by simpa using hq
            have HS2 : Hid (rMost (mgF r) f (k + 1) = (v, (k : Int))) := by show _ = _; rw [HY.out hq]
            clear hq HY HN
            go_wp2_with fail
            go_roundg g
            case rel => exact ⟨k + 1, by omega, by go_num, by rw [HS2.out], by rw [HS2.out], K1, HB⟩
            case measure => omega
          · have hd : decide (v > cur.1) = false := by simpa using hq
            have HS2 : Hid (rMost (mgF r) f (k + 1) = cur) := by show _ = _; rw [HN.out (by omega)]
            clear hq HY HN
            go_wp2_with fail
            go_roundg g
            case rel => exact ⟨k + 1, by omega, by go_num, by rw [HS2.out], by rw [HS2.out], K1, HB⟩
            case measure => omega
    · rw [(rm_no (f := f) (r := r) fun h => hV h.1).2.1, (rmost_no (f := f) (r := r) fun h => hV h.1).1, (rmost_no (f := f) (r := r) fun h => hV h.1).2]
      have HV := Lib.hid hV
      clear hR hV
      go_enter Try.func44, Try.ntmps44
      go_wp2_with (first | ((with_reducible show wpList _ _ _ (Oper.mk _ (Op.load 37 _) _ _ _ _ :: _) _ _); refine loadB (K1) rfl rfl rfl ?_) | ((with_reducible show wpList _ _ _ (Oper.mk _ (Op.load 37 _) _ _ _ (some _) :: _) _ _); refine loadgB (K1) rfl rfl rfl ?_))
      refine (CL.out _).mono ?_
      rintro e wg1 ⟨rfl, hb⟩
      have K1 := K1.below hb K1.lt
      have HB : Hid (Below w.heap.size w wg1) := HB.out.trans (hb.mono HB.out.size)
      clear hb
      go_wp2_with (first | ((with_reducible show wpList _ _ _ (Oper.mk _ (Op.load 37 _) _ _ _ _ :: _) _ _); refine loadB (K1) rfl rfl rfl ?_) | ((with_reducible show wpList _ _ _ (Oper.mk _ (Op.load 37 _) _ _ _ (some _) :: _) _ _); refine loadgB (K1) rfl rfl rfl ?_))
      refine (implBoard_no _ _ HV.out).mono ?_
      rintro e wg2 ⟨rfl, hb⟩
      have K1 := K1.below hb K1.lt
      have HB : Hid (Below w.heap.size w wg2) := HB.out.trans (hb.mono HB.out.size)
      clear hb
      go_wp2_with fail
      go_ret3
      exact ⟨rfl, HB.out⟩
  · rw [(rm_no (f := f) (r := r) fun h => hR h.2).2.1, (rmost_no (f := f) (r := r) fun h => hR h.2).1, (rmost_no (f := f) (r := r) fun h => hR h.2).2]
    have HR := Lib.hid hR
    clear hR
    go_enter Try.func44, Try.ntmps44
    go_wp2_with (first | ((with_reducible show wpList _ _ _ (Oper.mk _ (Op.load 37 _) _ _ _ _ :: _) _ _); refine loadB (K1) rfl rfl rfl ?_) | ((with_reducible show wpList _ _ _ (Oper.mk _ (Op.load 37 _) _ _ _ (some _) :: _) _ _); refine loadgB (K1) rfl rfl rfl ?_))
    refine (lawOf_no r _ HR.out).mono ?_
    rintro e wg1 ⟨rfl, hb⟩
    have K1 := K1.below hb K1.lt
    have HB : Hid (Below w.heap.size w wg1) := HB.out.trans (hb.mono HB.out.size)
    clear hb
    go_wp2_with fail
    go_ret3
    exact ⟨rfl, HB.out⟩
end Go.Proofs.Ytblcojacmjbjcaa
